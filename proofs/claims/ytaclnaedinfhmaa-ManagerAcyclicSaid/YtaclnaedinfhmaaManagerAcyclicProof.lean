/- ManagerAcyclic: among finitely many transactions there is one over which no other one has priority; under MGreedy it is the one with the smallest stamp. No condition. -/
import Derived.Test.YtaclnaedinfhmaaRows
import Derived.Test.YtaclnaedinfhmaaBase
import Derived.Test.YtaclnaedinfhmaaAux
import Derived.Test.YtaclnaedinfhmaaMgrA
import Derived.Test.YtaclnaedinfhmaaMgrO
import Derived.Test.YtaclnaedinfhmaaMgrT
import Derived.Outline
import Derived.Deep.RegionHeld3
import Derived.IntWalk
import Derived.Test.YtaclnaedinfhmaaTake
import Derived.Test.YtaclnaedinfhmaaMgrE
import Derived.Test.YtaclnaedinfhmaaNxtO
import Derived.BigQuiet
import Derived.WalkKit
import Derived.ProofKit
import Derived.OpenShut
import Derived.Lib.Hide
import Derived.Carry
namespace Go.Proofs.Ytaclnaedinfhmaa.managerAcyclic
open Go.ChangeShapes Go.WideShapes Go.ChangeAt Go.RowKit
set_option linter.unusedVariables false

theorem wrap_u8 {n : Int} (h0 : 0 ≤ n) (h1 : n ≤ 255) : IntKind.u8.wrap n = n := by
  have h : 0 ≤ n ∧ n ≤ 255 := ⟨h0, h1⟩
  simp [IntKind.wrap, IntKind.bits, IntKind.signed]
  omega
/-- Whether one of the first j other than i has priority over i. -/
def dmB (kap : Int) (l : List Ct) (i : Nat) : Nat → Bool
  | 0 => false
  | j + 1 => if j ≠ i ∧ chooseD kap (l.getD j {}) (l.getD i {}) = 2 then true else dmB kap l i j
def someB (kap : Int) (l : List Ct) : Nat → Bool
  | 0 => false
  | i + 1 => if someB kap l i = true then true else !dmB kap l i l.length
def firstB (kap : Int) (l : List Ct) (t : Nat) : Nat → Bool
  | 0 => true
  | i + 1 => if i = t then !dmB kap l i l.length else firstB kap l t i
theorem dm_free {kap : Int} {l : List Ct} {i : Nat} : ∀ n, (∀ j, j < n → ahead kap (l.getD j {}) (l.getD i {}) = false) → dmB kap l i n = false
  | 0, _ => rfl
  | n + 1, h => by
    unfold dmB
    rw [if_neg (by rintro ⟨_, h2⟩; rw [chooseD_f (h n (by omega))] at h2; cases h2)]
    exact dm_free n (fun j hj => h j (by omega))
theorem some_of {kap : Int} {l : List Ct} {t : Nat} (ht : dmB kap l t l.length = false) : ∀ n, t < n → someB kap l n = true
  | 0, h => absurd h (by omega)
  | n + 1, h => by
    unfold someB
    by_cases hn : t = n
    · subst hn; rw [ht]; split <;> rfl
    · rw [if_pos (some_of ht n (by omega))]
theorem first_of {kap : Int} {l : List Ct} {t : Nat} (ht : dmB kap l t l.length = false) : ∀ n, firstB kap l t n = true
  | 0 => rfl
  | n + 1 => by
    unfold firstB
    by_cases hn : n = t
    · subst hn; rw [if_pos rfl, ht]; rfl
    · rw [if_neg hn]; exact first_of ht n
theorem karma_irr (c : Ct) : karmaB c c = false := by unfold karmaB; rw [if_pos rfl]; simp
theorem karma_tr {a b c : Ct} (h1 : karmaB a b = true) (h2 : karmaB b c = true) : karmaB a c = true := by
  unfold karmaB at h1 h2 ⊢
  split at h1 <;> split at h2 <;> split <;> simp at * <;> omega
theorem top_karma (f : Nat → Ct) : ∀ n, 0 < n → ∃ t, t < n ∧ ∀ j, j < n → karmaB (f j) (f t) = false
  | 0, h => absurd h (by omega)
  | 1, _ => ⟨0, by omega, fun j hj => by obtain rfl : j = 0 := by omega
                                         exact karma_irr _⟩
  | n + 2, _ => by
    obtain ⟨t, ht, h⟩ := top_karma f (n + 1) (by omega)
    cases hk : karmaB (f (n + 1)) (f t) with
    | false =>
      refine ⟨t, by omega, fun j hj => ?_⟩
      by_cases hjn : j = n + 1
      · rw [hjn]; exact hk
      · exact h j (by omega)
    | true =>
      refine ⟨n + 1, by omega, fun j hj => ?_⟩
      by_cases hjn : j = n + 1
      · rw [hjn]; exact karma_irr _
      · cases hx : karmaB (f j) (f (n + 1)) with
        | false => rfl
        | true => have := h j (by omega); rw [karma_tr hx hk] at this; cases this
theorem least_free {kap : Int} (hk : kap ≠ 2) (c d : Ct) (h : d.s ≤ c.s) : ahead kap c d = false := by
  have h1 : decide (c.s < d.s) = false := by simp; omega
  unfold ahead
  by_cases k1 : kap = 1
  · rw [if_pos k1]; exact h1
  · rw [if_neg k1, if_neg hk]
    by_cases k3 : kap = 3
    · rw [if_pos k3]; unfold mixedB; rw [h1]; simp
    · rw [if_neg k3]
theorem some_ok {kap : Int} {l : List Ct} {t : Nat} (hl : 0 < l.length) (ht : t < l.length) (hm : ∀ j, j < l.length → (l.getD t {}).s ≤ (l.getD j {}).s) : someB kap l l.length = true := by
  by_cases hk : kap = 2
  · subst hk
    obtain ⟨t, ht, h⟩ := top_karma (fun j => l.getD j {}) l.length hl
    exact some_of (dm_free _ (fun j hj => by rw [ahead_2]; exact h j hj)) _ ht
  · exact some_of (t := t) (dm_free _ (fun j hj => least_free hk _ _ (hm j hj))) _ ht
theorem first_ok {l : List Ct} {t : Nat} (hm : ∀ j, j < l.length → (l.getD t {}).s ≤ (l.getD j {}).s) : firstB 1 l t l.length = true :=
  first_of (dm_free _ (fun j hj => least_free (by decide) _ _ (hm j hj))) _
theorem hasCts_drewN {w : World} {v : Value} {l : List Ct} (h : HasCts w v l) (n : Nat) : HasCts (w.drewN n) v l := by
  obtain ⟨a, c, rfl, h1, h3⟩ := h
  refine ⟨a, c, rfl, h1, ?_⟩
  rcases h3 with h3 | ⟨b, o, rfl, h3⟩
  · exact Or.inl h3
  · exact Or.inr ⟨b, o, rfl, fun j hj => by simpa using h3 j hj⟩
theorem cts_at {w : World} {b o L c : Nat} {l : List Ct} (h : HasCts w (.slice (some ⟨b, o, none⟩) L c) l) {j : Nat} (hj : j < l.length) : w.cell? ⟨b, o + j * 3, none⟩ = some (.int .i64 (l.getD j {}).s) ∧ w.cell? ⟨b, o + j * 3 + 1, none⟩ = some (.int .i64 (l.getD j {}).k) ∧ w.cell? ⟨b, o + j * 3 + 2, none⟩ = some (.int .i64 (l.getD j {}).a) := by
  obtain ⟨a', c', he, h1, h3⟩ := h
  simp only [Value.slice.injEq] at he
  obtain ⟨rfl, rfl, rfl⟩ := he
  rcases h3 with h3 | ⟨b', o', he, h3⟩
  · omega
  · simp at he
    obtain ⟨rfl, rfl⟩ := he
    exact h3 j hj

set_option maxHeartbeats 8000000 in
set_option maxRecDepth 100000 in
theorem walk_long (w : World) (k : Int) (a : Option Addr) (c : Nat) (l : List Ct) (q0 : decide ((10 : Int) < (l.length : Int)) = true) : Calls Try.prog 11 #[.int .u8 k, .slice a l.length c] w fun e w' => e = .returned (.bool true) ∧ Below w.heap.size w w' := by
  go_enter Try.func11, Try.ntmps11
  go_wp2_with fail
  ((with_reducible refine (sane17_any _).mono ?_); rintro e w1 ⟨rfl, hb⟩)
  go_wp2
  go_ret
  exact ⟨rfl, hb⟩
set_option maxHeartbeats 8000000 in
set_option maxRecDepth 100000 in
theorem walk_none (w : World) (k : Int) (a : Option Addr) (c : Nat) (l : List Ct) (q0 : decide ((10 : Int) < (l.length : Int)) = false) (q1 : ((l.length : Int) == 0) = true) : Calls Try.prog 11 #[.int .u8 k, .slice a l.length c] w fun e w' => e = .returned (.bool true) ∧ Below w.heap.size w w' := by
  go_enter Try.func11, Try.ntmps11
  go_wp2_with fail
  ((with_reducible refine (sane17_any _).mono ?_); rintro e w1 ⟨rfl, hb⟩)
  go_wp2
  go_ret
  exact ⟨rfl, hb⟩
set_option maxHeartbeats 8000000 in
set_option maxRecDepth 100000 in
theorem walk_main (w : World) (k : Int) (hk : 0 ≤ k ∧ k ≤ 255) (b o L c : Nat) (l : List Ct) (hv : HasCts w (.slice (some ⟨b, o, none⟩) L c) l) (hL : L = l.length) (h0 : 0 < L) (h10 : L ≤ 10) : Calls Try.prog 11 #[.int .u8 k, .slice (some ⟨b, o, none⟩) L c] w fun e w' => e = .returned (.bool true) ∧ Below w.heap.size w w' := by
  have q0 : decide ((10 : Int) < (L : Int)) = false := by simp; omega
  have q1 : ((L : Int) == 0) = false := by simp; omega
  obtain ⟨kap, hkap⟩ : ∃ x, x = k % 4 := ⟨_, rfl⟩
  have hk4 : 0 ≤ kap ∧ kap ≤ 3 := by omega
  have K1 : Hid (k.tmod 4 = kap) := Lib.hid (by rw [Int.tmod_eq_emod_of_nonneg hk.1]; exact hkap.symm)
  have K2 : Hid (IntKind.i64.wrap kap = kap) := Lib.hid (IntWalk.i64_in _ (by omega))
  have K3 : Hid (IntKind.u8.wrap kap = kap) := Lib.hid (wrap_u8 (by omega) (by omega))
  have HCh : Hid (∀ (m n : Ct) (w : World), Calls Try.prog 30 #[.int .i64 kap, .agg #[.int .i64 m.s, .int .i64 m.k, .int .i64 m.a], .agg #[.int .i64 n.s, .int .i64 n.k, .int .i64 n.a]] w fun e w' => e = .returned (.int .i64 (chooseD kap m n)) ∧ Below w.heap.size w w') := Lib.hid (fun m n w => choose_any kap m n w)
  have HV := Lib.hid hv
  have HLn := Lib.hid hL
  clear hv hL hk hkap hk4
  have HL := Lib.hid h10
  go_enter Try.func11, Try.ntmps11
  go_wp2_with fail
  ((with_reducible refine (sane17_any _).mono ?_); rintro e w1 ⟨rfl, hb⟩)
  have HB1 := Lib.hid hb
  have HV1 := Lib.hid (hasCts_keep HV.out hb)
  clear hb HV
  go_wp2
  go_loopw [6, 7] (fun t i wr => ∃ (i' t' n : Nat), i' ≤ L ∧ t' < L ∧ t = .int .i64 t' ∧ i = .int .i64 i' ∧ wr = w1.drewN n ∧ Hid (∀ j, j < i' → (l.getD t' {}).s ≤ (l.getD j {}).s)) (fun _ i _ => L - (intOf i).toNat)
  case atStart => exact ⟨0, 0, 0, Nat.zero_le _, h0, rfl, rfl, rfl, Lib.hid (fun j hj => absurd hj (by omega))⟩
  case round =>
    obtain ⟨i, t, n, hi, ht, rfl, rfl, rfl, hmin⟩ := hrel
    by_cases hlt : i < L
    · have e1 : decide ((i : Int) < (L : Int)) = true := by simp; omega
      go_wp2
      go_loopw [8] (fun j wr => ∃ j' n : Nat, j' ≤ i ∧ j = .int .i64 j' ∧ wr = w1.drewN n) (fun j _ => i - (intOf j).toNat)
      case atStart => exact ⟨0, n, Nat.zero_le _, rfl, rfl⟩
      case round =>
        obtain ⟨j, n, hj, rfl, rfl⟩ := hrel
        by_cases hji : j < i
        · have e2 : decide ((j : Int) < (i : Int)) = true := by simp; omega
          have ci := (cts_at HV1.out (j := i) (by have := HLn.out; omega)).1
          have cj := (cts_at HV1.out (j := j) (by have := HLn.out; omega)).1
          obtain ⟨si, hsi⟩ : ∃ x, x = (l.getD i {}).s := ⟨_, rfl⟩
          obtain ⟨sj, hsj⟩ : ∃ x, x = (l.getD j {}).s := ⟨_, rfl⟩
          rw [← hsi] at ci
          rw [← hsj] at cj
          clear hsi hsj
          cases hq : (si == sj)
          · go_wp2
            go_quiet (fail)
            go_wp2
            go_roundw
            case rel => exact ⟨j + 1, n + nq, by omega, by go_num, rfl⟩
            case measure => simp [intOf]; omega
          · go_wp2
            go_quiet (fail)
            go_wp2
            go_ret
            exact ⟨rfl, below_drewN (below_drewN HB1.out _) _⟩
        · obtain rfl : j = i := by omega
          have e2 : decide ((j : Int) < (j : Int)) = false := by simp
          have ci := (cts_at HV1.out (j := j) (by have := HLn.out; omega)).1
          have ct := (cts_at HV1.out (j := t) (by have := HLn.out; omega)).1
          obtain ⟨si, hsi⟩ : ∃ x, x = (l.getD j {}).s := ⟨_, rfl⟩
          obtain ⟨st, hst⟩ : ∃ x, x = (l.getD t {}).s := ⟨_, rfl⟩
          rw [← hsi] at ci
          rw [← hst] at ct
          cases hq : decide (si < st)
          · have hm2 : Hid (∀ j', j' < j + 1 → (l.getD t {}).s ≤ (l.getD j' {}).s) := Lib.hid (fun j' h => by
              by_cases hjj : j' = j
              · rw [hjj, ← hsi, ← hst]; simp at hq; exact hq
              · exact hmin.out j' (by omega))
            clear hsi hst hmin
            go_wp2
            go_quiet (fail)
            go_wp2
            go_roundw
            case rel => exact ⟨j + 1, t, n + nq, by omega, ht, rfl, by go_num, rfl, hm2⟩
            case measure => simp [intOf]; omega
          · have hm2 : Hid (∀ j', j' < j + 1 → (l.getD j {}).s ≤ (l.getD j' {}).s) := Lib.hid (fun j' h => by
              by_cases hjj : j' = j
              · rw [hjj]; exact Int.le_refl _
              · have := hmin.out j' (by omega); rw [← hst] at this; rw [← hsi]; simp at hq; omega)
            clear hsi hst hmin
            go_wp2
            go_quiet (fail)
            go_wp2
            go_roundw
            case rel => exact ⟨j + 1, j, n + nq, by omega, hlt, rfl, by go_num, rfl, hm2⟩
            case measure => simp [intOf]; omega
    · obtain rfl : i = L := by omega
      have e1 : decide ((i : Int) < (i : Int)) = false := by simp
      obtain ⟨w2, hw2⟩ : ∃ W, W = w1.drewN n := ⟨_, rfl⟩
      rw [← hw2]
      have HB2 : Hid (Below w.heap.size w w2) := Lib.hid (by rw [hw2]; exact below_drewN HB1.out _)
      have HV2 : Hid (HasCts w2 (.slice (some ⟨b, o, none⟩) i c) l) := Lib.hid (by rw [hw2]; exact hasCts_drewN HV1.out _)
      clear hw2 HB1 HV1
      go_wp2
      go_loopw [9, 10, 11] (fun s f x wr => ∃ x' : Nat, x' ≤ i ∧ s = .bool (someB kap l x') ∧ f = .bool (firstB kap l t x') ∧ x = .int .i64 x' ∧ Hid (Below w.heap.size w wr) ∧ Hid (HasCts wr (.slice (some ⟨b, o, none⟩) i c) l)) (fun _ _ x _ => i - (intOf x).toNat)
      case atStart => exact ⟨0, Nat.zero_le _, rfl, rfl, rfl, HB2, HV2⟩
      case round =>
        obtain ⟨x, hx, rfl, rfl, rfl, HB, HV⟩ := hrel
        by_cases hxl : x < i
        · have e2 : decide ((x : Int) < (i : Int)) = true := by simp; omega
          go_wp2
          go_loopw [12, 13] (fun d y wr => ∃ y' : Nat, y' ≤ i ∧ d = .bool (dmB kap l x y') ∧ y = .int .i64 y' ∧ Hid (Below w.heap.size w wr) ∧ Hid (HasCts wr (.slice (some ⟨b, o, none⟩) i c) l)) (fun _ y _ => i - (intOf y).toNat)
          case atStart => exact ⟨0, Nat.zero_le _, rfl, rfl, HB, HV⟩
          case round =>
            obtain ⟨y, hy, rfl, rfl, HW, HV⟩ := hrel
            by_cases hyl : y < i
            · have e3 : decide ((y : Int) < (i : Int)) = true := by simp; omega
              obtain ⟨D, hD⟩ : ∃ D, D = dmB kap l x y := ⟨_, rfl⟩
              rw [← hD]
              by_cases hyx : y = x
              · have e4 : ((y : Int) != (x : Int)) = false := by simp; omega
                have HD : Hid (dmB kap l x (y + 1) = D) := Lib.hid (by unfold dmB; rw [if_neg (fun h => h.1 hyx), hD])
                clear hD
                go_wp2
                go_quiet (fail)
                go_wp2
                go_roundw
                case rel => exact ⟨y + 1, by omega, by rw [HD.out], by go_num, Lib.hid (below_drewN HW.out _), Lib.hid (hasCts_drewN HV.out _)⟩
                case measure => simp [intOf]; omega
              · have e4 : ((y : Int) != (x : Int)) = true := by simp; omega
                obtain ⟨cj0, cj1, cj2⟩ := cts_at HV.out (j := y) (by have := HLn.out; omega)
                obtain ⟨ci0, ci1, ci2⟩ := cts_at HV.out (j := x) (by have := HLn.out; omega)
                obtain ⟨cy, hcy⟩ : ∃ u, u = l.getD y {} := ⟨_, rfl⟩
                obtain ⟨cx, hcx⟩ : ∃ u, u = l.getD x {} := ⟨_, rfl⟩
                rw [← hcy] at cj0 cj1 cj2
                rw [← hcx] at ci0 ci1 ci2
                have HC := Lib.hid (HCh.out cy cx)
                rcases chooseD_12 kap cy cx with hr | hr
                · have HD : Hid (dmB kap l x (y + 1) = D) := Lib.hid (by unfold dmB; rw [if_neg (by rintro ⟨_, h⟩; rw [← hcy, ← hcx, hr] at h; cases h), hD])
                  rw [hr] at HC
                  clear hD hr hcy hcx
                  have k1 := K1.out
                  have k2 := K2.out
                  have k3 := K3.out
                  go_wp2_with fail
                  refine wp_region_held_drew (S := fun W => W.cell? ⟨b, o + y * 3, none⟩ = some (.int .i64 cy.s) ∧ W.cell? ⟨b, o + y * 3 + 1, none⟩ = some (.int .i64 cy.k) ∧ W.cell? ⟨b, o + y * 3 + 2, none⟩ = some (.int .i64 cy.a) ∧ W.cell? ⟨b, o + x * 3, none⟩ = some (.int .i64 cx.s) ∧ W.cell? ⟨b, o + x * 3 + 1, none⟩ = some (.int .i64 cx.k) ∧ W.cell? ⟨b, o + x * 3 + 2, none⟩ = some (.int .i64 cx.a) ∧ HasCts W (.slice (some ⟨b, o, none⟩) i c) l) (by kernel_rfl) ?_ (fun hHeld => ?_)
                  · (try dsimp only); exact ⟨by first | assumption | go_simp, by first | assumption | go_simp, by first | assumption | go_simp, by first | assumption | go_simp, by first | assumption | go_simp, by first | assumption | go_simp, HV.out⟩
                  replace HW := Lib.hid (below_drews HW.out 1)
                  refine tkA 0 (by kernel_rfl) (by assumption) ⟨_, _, ?_, rfl, rfl, ?_, fun _ _ _ h => h, ?_⟩; rotate_left; · intro w hSw; (try dsimp only at hSw); go_simp; (try with_reducible rfl)
                  (try simp only [Act.put, List.setIfInBounds_toArray, List.set_cons_zero, List.set_cons_succ])
                  refine tkA 1 (by kernel_rfl) (by assumption) ⟨_, _, ?_, rfl, rfl, ?_, fun _ _ _ h => h, ?_⟩; rotate_left; · intro w hSw; (try dsimp only at hSw); go_simp; (try with_reducible rfl)
                  (try simp only [Act.put, List.setIfInBounds_toArray, List.set_cons_zero, List.set_cons_succ])
                  refine tkA 2 (by kernel_rfl) (by assumption) ⟨_, _, ?_, rfl, rfl, ?_, fun _ _ _ h => h, ?_⟩; rotate_left; · intro w hSw; (try dsimp only at hSw); go_simp; (try with_reducible rfl)
                  (try simp only [Act.put, List.setIfInBounds_toArray, List.set_cons_zero, List.set_cons_succ])
                  refine tkA 3 (by kernel_rfl) (by assumption) ⟨_, _, ?_, rfl, rfl, ?_, fun _ _ _ h => h, ?_⟩; rotate_left; · intro w hSw; (try dsimp only at hSw); go_simp; (try with_reducible rfl)
                  (try simp only [Act.put, List.setIfInBounds_toArray, List.set_cons_zero, List.set_cons_succ])
                  first | (refine tkA 4 (by kernel_rfl) (by assumption) ⟨_, _, ?_, rfl, rfl, ?_, fun _ _ _ h => h, ?_⟩; rotate_left; · intro w hSw; (try dsimp only at hSw); go_simp; (try with_reducible rfl)) | refine tkB 4 (by kernel_rfl) (by assumption) ⟨_, _, rfl, rfl, fun _ _ _ h => h, ?_⟩
                  (try simp only [Act.put, List.setIfInBounds_toArray, List.set_cons_zero, List.set_cons_succ])
                  first | (refine tkA 5 (by kernel_rfl) (by assumption) ⟨_, _, ?_, rfl, rfl, ?_, fun _ _ _ h => h, ?_⟩; rotate_left; · intro w hSw; (try dsimp only at hSw); go_simp; (try with_reducible rfl)) | refine tkB 5 (by kernel_rfl) (by assumption) ⟨_, _, rfl, rfl, fun _ _ _ h => h, ?_⟩
                  (try simp only [Act.put, List.setIfInBounds_toArray, List.set_cons_zero, List.set_cons_succ])
                  first | (refine tkA 6 (by kernel_rfl) (by assumption) ⟨_, _, ?_, rfl, rfl, ?_, fun _ _ _ h => h, ?_⟩; rotate_left; · intro w hSw; (try dsimp only at hSw); go_simp; (try with_reducible rfl)) | refine tkB 6 (by kernel_rfl) (by assumption) ⟨_, _, rfl, rfl, fun _ _ _ h => h, ?_⟩
                  (try simp only [Act.put, List.setIfInBounds_toArray, List.set_cons_zero, List.set_cons_succ])
                  first | (refine tkA 7 (by kernel_rfl) (by assumption) ⟨_, _, ?_, rfl, rfl, ?_, fun _ _ _ h => h, ?_⟩; rotate_left; · intro w hSw; (try dsimp only at hSw); go_simp; (try with_reducible rfl)) | refine tkB 7 (by kernel_rfl) (by assumption) ⟨_, _, rfl, rfl, fun _ _ _ h => h, ?_⟩
                  (try simp only [Act.put, List.setIfInBounds_toArray, List.set_cons_zero, List.set_cons_succ])
                  first | (refine tkA 8 (by kernel_rfl) (by assumption) ⟨_, _, ?_, rfl, rfl, ?_, fun _ _ _ h => h, ?_⟩; rotate_left; · intro w hSw; (try dsimp only at hSw); go_simp; (try with_reducible rfl)) | refine tkB 8 (by kernel_rfl) (by assumption) ⟨_, _, rfl, rfl, fun _ _ _ h => h, ?_⟩
                  (try simp only [Act.put, List.setIfInBounds_toArray, List.set_cons_zero, List.set_cons_succ])
                  first | (refine tkA 9 (by kernel_rfl) (by assumption) ⟨_, _, ?_, rfl, rfl, ?_, fun _ _ _ h => h, ?_⟩; rotate_left; · intro w hSw; (try dsimp only at hSw); go_simp; (try with_reducible rfl)) | refine tkB 9 (by kernel_rfl) (by assumption) ⟨_, _, rfl, rfl, fun _ _ _ h => h, ?_⟩
                  (try simp only [Act.put, List.setIfInBounds_toArray, List.set_cons_zero, List.set_cons_succ])
                  first | (refine tkA 10 (by kernel_rfl) (by assumption) ⟨_, _, ?_, rfl, rfl, ?_, fun _ _ _ h => h, ?_⟩; rotate_left; · intro w hSw; (try dsimp only at hSw); go_simp; (try with_reducible rfl)) | refine tkB 10 (by kernel_rfl) (by assumption) ⟨_, _, rfl, rfl, fun _ _ _ h => h, ?_⟩
                  (try simp only [Act.put, List.setIfInBounds_toArray, List.set_cons_zero, List.set_cons_succ])
                  first | (refine tkA 11 (by kernel_rfl) (by assumption) ⟨_, _, ?_, rfl, rfl, ?_, fun _ _ _ h => h, ?_⟩; rotate_left; · intro w hSw; (try dsimp only at hSw); go_simp; (try with_reducible rfl)) | refine tkB 11 (by kernel_rfl) (by assumption) ⟨_, _, rfl, rfl, fun _ _ _ h => h, ?_⟩
                  (try simp only [Act.put, List.setIfInBounds_toArray, List.set_cons_zero, List.set_cons_succ])
                  first | (refine tkA 12 (by kernel_rfl) (by assumption) ⟨_, _, ?_, rfl, rfl, ?_, fun _ _ _ h => h, ?_⟩; rotate_left; · intro w hSw; (try dsimp only at hSw); go_simp; (try with_reducible rfl)) | refine tkB 12 (by kernel_rfl) (by assumption) ⟨_, _, rfl, rfl, fun _ _ _ h => h, ?_⟩
                  (try simp only [Act.put, List.setIfInBounds_toArray, List.set_cons_zero, List.set_cons_succ])
                  first | (refine tkA 13 (by kernel_rfl) (by assumption) ⟨_, _, ?_, rfl, rfl, ?_, fun _ _ _ h => h, ?_⟩; rotate_left; · intro w hSw; (try dsimp only at hSw); go_simp; (try with_reducible rfl)) | refine tkB 13 (by kernel_rfl) (by assumption) ⟨_, _, rfl, rfl, fun _ _ _ h => h, ?_⟩
                  (try simp only [Act.put, List.setIfInBounds_toArray, List.set_cons_zero, List.set_cons_succ])
                  first | (refine tkA 14 (by kernel_rfl) (by assumption) ⟨_, _, ?_, rfl, rfl, ?_, fun _ _ _ h => h, ?_⟩; rotate_left; · intro w hSw; (try dsimp only at hSw); go_simp; (try with_reducible rfl)) | refine tkB 14 (by kernel_rfl) (by assumption) ⟨_, _, rfl, rfl, fun _ _ _ h => h, ?_⟩
                  (try simp only [Act.put, List.setIfInBounds_toArray, List.set_cons_zero, List.set_cons_succ])
                  refine wpAnyH_ready (rs := [15]) (by kernel_rfl) (by simp) ?_
                  refine AllReadyH.cons (o := ?oi1) ?hi1 (fun K hK => ?rest1) AllReadyH.nil
                  (case hi1 => (simp only [List.getElem?_toArray, List.getElem?_cons_succ, List.getElem?_cons_zero]; rfl))
                  obtain ⟨s0, s1, s2, s3, s4, s5, t0⟩ := hHeld
                  go_simp
                  ((with_reducible refine (HC.out _).mono ?_); rintro e wx1 ⟨rfl, hb⟩)
                  replace HW := Lib.hid (below_step HW.out hb)
                  refine hK.out _ _ ?_ (fun hHeld => ?_)
                  · (try dsimp only); exact ⟨cel_below hb s0, cel_below hb s1, cel_below hb s2, cel_below hb s3, cel_below hb s4, cel_below hb s5, hasCts_keep t0 hb⟩
                  clear hK K s0 s1 s2 s3 s4 s5 t0 hb
                  (try simp only [Act.put, List.setIfInBounds_toArray, List.set_cons_zero, List.set_cons_succ])
                  first | (refine tkA 16 (by kernel_rfl) (by assumption) ⟨_, _, ?_, rfl, rfl, ?_, fun _ _ _ h => h, ?_⟩; rotate_left; · intro w hSw; (try dsimp only at hSw); go_simp; (try with_reducible rfl)) | refine tkB 16 (by kernel_rfl) (by assumption) ⟨_, _, rfl, rfl, fun _ _ _ h => h, ?_⟩
                  (try simp only [Act.put, List.setIfInBounds_toArray, List.set_cons_zero, List.set_cons_succ])
                  refine tkA 17 (by kernel_rfl) (by assumption) ⟨_, _, ?_, rfl, rfl, ?_, fun _ _ _ h => h, ?_⟩; rotate_left; · intro w hSw; (try dsimp only at hSw); go_simp; (try with_reducible rfl)
                  (try simp only [Act.put, List.setIfInBounds_toArray, List.set_cons_zero, List.set_cons_succ])
                  refine wpAnyH_done (by kernel_rfl) ?_ _
                  obtain ⟨s0, s1, s2, s3, s4, s5, t0⟩ := hHeld
                  clear k1 k2 k3
                  go_wp2
                  go_roundw
                  case rel => exact ⟨y + 1, by omega, by rw [HD.out], by go_num, HW, Lib.hid t0⟩
                  case measure => simp [intOf]; omega
                · have HD : Hid (dmB kap l x (y + 1) = true) := Lib.hid (by unfold dmB; rw [if_pos ⟨hyx, by rw [← hcy, ← hcx]; exact hr⟩])
                  rw [hr] at HC
                  clear hD hr hcy hcx
                  have k1 := K1.out
                  have k2 := K2.out
                  have k3 := K3.out
                  go_wp2_with fail
                  refine wp_region_held_drew (S := fun W => W.cell? ⟨b, o + y * 3, none⟩ = some (.int .i64 cy.s) ∧ W.cell? ⟨b, o + y * 3 + 1, none⟩ = some (.int .i64 cy.k) ∧ W.cell? ⟨b, o + y * 3 + 2, none⟩ = some (.int .i64 cy.a) ∧ W.cell? ⟨b, o + x * 3, none⟩ = some (.int .i64 cx.s) ∧ W.cell? ⟨b, o + x * 3 + 1, none⟩ = some (.int .i64 cx.k) ∧ W.cell? ⟨b, o + x * 3 + 2, none⟩ = some (.int .i64 cx.a) ∧ HasCts W (.slice (some ⟨b, o, none⟩) i c) l) (by kernel_rfl) ?_ (fun hHeld => ?_)
                  · (try dsimp only); exact ⟨by first | assumption | go_simp, by first | assumption | go_simp, by first | assumption | go_simp, by first | assumption | go_simp, by first | assumption | go_simp, by first | assumption | go_simp, HV.out⟩
                  replace HW := Lib.hid (below_drews HW.out 1)
                  refine tkA 0 (by kernel_rfl) (by assumption) ⟨_, _, ?_, rfl, rfl, ?_, fun _ _ _ h => h, ?_⟩; rotate_left; · intro w hSw; (try dsimp only at hSw); go_simp; (try with_reducible rfl)
                  (try simp only [Act.put, List.setIfInBounds_toArray, List.set_cons_zero, List.set_cons_succ])
                  refine tkA 1 (by kernel_rfl) (by assumption) ⟨_, _, ?_, rfl, rfl, ?_, fun _ _ _ h => h, ?_⟩; rotate_left; · intro w hSw; (try dsimp only at hSw); go_simp; (try with_reducible rfl)
                  (try simp only [Act.put, List.setIfInBounds_toArray, List.set_cons_zero, List.set_cons_succ])
                  refine tkA 2 (by kernel_rfl) (by assumption) ⟨_, _, ?_, rfl, rfl, ?_, fun _ _ _ h => h, ?_⟩; rotate_left; · intro w hSw; (try dsimp only at hSw); go_simp; (try with_reducible rfl)
                  (try simp only [Act.put, List.setIfInBounds_toArray, List.set_cons_zero, List.set_cons_succ])
                  refine tkA 3 (by kernel_rfl) (by assumption) ⟨_, _, ?_, rfl, rfl, ?_, fun _ _ _ h => h, ?_⟩; rotate_left; · intro w hSw; (try dsimp only at hSw); go_simp; (try with_reducible rfl)
                  (try simp only [Act.put, List.setIfInBounds_toArray, List.set_cons_zero, List.set_cons_succ])
                  first | (refine tkA 4 (by kernel_rfl) (by assumption) ⟨_, _, ?_, rfl, rfl, ?_, fun _ _ _ h => h, ?_⟩; rotate_left; · intro w hSw; (try dsimp only at hSw); go_simp; (try with_reducible rfl)) | refine tkB 4 (by kernel_rfl) (by assumption) ⟨_, _, rfl, rfl, fun _ _ _ h => h, ?_⟩
                  (try simp only [Act.put, List.setIfInBounds_toArray, List.set_cons_zero, List.set_cons_succ])
                  first | (refine tkA 5 (by kernel_rfl) (by assumption) ⟨_, _, ?_, rfl, rfl, ?_, fun _ _ _ h => h, ?_⟩; rotate_left; · intro w hSw; (try dsimp only at hSw); go_simp; (try with_reducible rfl)) | refine tkB 5 (by kernel_rfl) (by assumption) ⟨_, _, rfl, rfl, fun _ _ _ h => h, ?_⟩
                  (try simp only [Act.put, List.setIfInBounds_toArray, List.set_cons_zero, List.set_cons_succ])
                  first | (refine tkA 6 (by kernel_rfl) (by assumption) ⟨_, _, ?_, rfl, rfl, ?_, fun _ _ _ h => h, ?_⟩; rotate_left; · intro w hSw; (try dsimp only at hSw); go_simp; (try with_reducible rfl)) | refine tkB 6 (by kernel_rfl) (by assumption) ⟨_, _, rfl, rfl, fun _ _ _ h => h, ?_⟩
                  (try simp only [Act.put, List.setIfInBounds_toArray, List.set_cons_zero, List.set_cons_succ])
                  first | (refine tkA 7 (by kernel_rfl) (by assumption) ⟨_, _, ?_, rfl, rfl, ?_, fun _ _ _ h => h, ?_⟩; rotate_left; · intro w hSw; (try dsimp only at hSw); go_simp; (try with_reducible rfl)) | refine tkB 7 (by kernel_rfl) (by assumption) ⟨_, _, rfl, rfl, fun _ _ _ h => h, ?_⟩
                  (try simp only [Act.put, List.setIfInBounds_toArray, List.set_cons_zero, List.set_cons_succ])
                  first | (refine tkA 8 (by kernel_rfl) (by assumption) ⟨_, _, ?_, rfl, rfl, ?_, fun _ _ _ h => h, ?_⟩; rotate_left; · intro w hSw; (try dsimp only at hSw); go_simp; (try with_reducible rfl)) | refine tkB 8 (by kernel_rfl) (by assumption) ⟨_, _, rfl, rfl, fun _ _ _ h => h, ?_⟩
                  (try simp only [Act.put, List.setIfInBounds_toArray, List.set_cons_zero, List.set_cons_succ])
                  first | (refine tkA 9 (by kernel_rfl) (by assumption) ⟨_, _, ?_, rfl, rfl, ?_, fun _ _ _ h => h, ?_⟩; rotate_left; · intro w hSw; (try dsimp only at hSw); go_simp; (try with_reducible rfl)) | refine tkB 9 (by kernel_rfl) (by assumption) ⟨_, _, rfl, rfl, fun _ _ _ h => h, ?_⟩
                  (try simp only [Act.put, List.setIfInBounds_toArray, List.set_cons_zero, List.set_cons_succ])
                  first | (refine tkA 10 (by kernel_rfl) (by assumption) ⟨_, _, ?_, rfl, rfl, ?_, fun _ _ _ h => h, ?_⟩; rotate_left; · intro w hSw; (try dsimp only at hSw); go_simp; (try with_reducible rfl)) | refine tkB 10 (by kernel_rfl) (by assumption) ⟨_, _, rfl, rfl, fun _ _ _ h => h, ?_⟩
                  (try simp only [Act.put, List.setIfInBounds_toArray, List.set_cons_zero, List.set_cons_succ])
                  first | (refine tkA 11 (by kernel_rfl) (by assumption) ⟨_, _, ?_, rfl, rfl, ?_, fun _ _ _ h => h, ?_⟩; rotate_left; · intro w hSw; (try dsimp only at hSw); go_simp; (try with_reducible rfl)) | refine tkB 11 (by kernel_rfl) (by assumption) ⟨_, _, rfl, rfl, fun _ _ _ h => h, ?_⟩
                  (try simp only [Act.put, List.setIfInBounds_toArray, List.set_cons_zero, List.set_cons_succ])
                  first | (refine tkA 12 (by kernel_rfl) (by assumption) ⟨_, _, ?_, rfl, rfl, ?_, fun _ _ _ h => h, ?_⟩; rotate_left; · intro w hSw; (try dsimp only at hSw); go_simp; (try with_reducible rfl)) | refine tkB 12 (by kernel_rfl) (by assumption) ⟨_, _, rfl, rfl, fun _ _ _ h => h, ?_⟩
                  (try simp only [Act.put, List.setIfInBounds_toArray, List.set_cons_zero, List.set_cons_succ])
                  first | (refine tkA 13 (by kernel_rfl) (by assumption) ⟨_, _, ?_, rfl, rfl, ?_, fun _ _ _ h => h, ?_⟩; rotate_left; · intro w hSw; (try dsimp only at hSw); go_simp; (try with_reducible rfl)) | refine tkB 13 (by kernel_rfl) (by assumption) ⟨_, _, rfl, rfl, fun _ _ _ h => h, ?_⟩
                  (try simp only [Act.put, List.setIfInBounds_toArray, List.set_cons_zero, List.set_cons_succ])
                  first | (refine tkA 14 (by kernel_rfl) (by assumption) ⟨_, _, ?_, rfl, rfl, ?_, fun _ _ _ h => h, ?_⟩; rotate_left; · intro w hSw; (try dsimp only at hSw); go_simp; (try with_reducible rfl)) | refine tkB 14 (by kernel_rfl) (by assumption) ⟨_, _, rfl, rfl, fun _ _ _ h => h, ?_⟩
                  (try simp only [Act.put, List.setIfInBounds_toArray, List.set_cons_zero, List.set_cons_succ])
                  refine wpAnyH_ready (rs := [15]) (by kernel_rfl) (by simp) ?_
                  refine AllReadyH.cons (o := ?oi2) ?hi2 (fun K hK => ?rest2) AllReadyH.nil
                  (case hi2 => (simp only [List.getElem?_toArray, List.getElem?_cons_succ, List.getElem?_cons_zero]; rfl))
                  obtain ⟨s0, s1, s2, s3, s4, s5, t0⟩ := hHeld
                  go_simp
                  ((with_reducible refine (HC.out _).mono ?_); rintro e wx1 ⟨rfl, hb⟩)
                  replace HW := Lib.hid (below_step HW.out hb)
                  refine hK.out _ _ ?_ (fun hHeld => ?_)
                  · (try dsimp only); exact ⟨cel_below hb s0, cel_below hb s1, cel_below hb s2, cel_below hb s3, cel_below hb s4, cel_below hb s5, hasCts_keep t0 hb⟩
                  clear hK K s0 s1 s2 s3 s4 s5 t0 hb
                  (try simp only [Act.put, List.setIfInBounds_toArray, List.set_cons_zero, List.set_cons_succ])
                  first | (refine tkA 16 (by kernel_rfl) (by assumption) ⟨_, _, ?_, rfl, rfl, ?_, fun _ _ _ h => h, ?_⟩; rotate_left; · intro w hSw; (try dsimp only at hSw); go_simp; (try with_reducible rfl)) | refine tkB 16 (by kernel_rfl) (by assumption) ⟨_, _, rfl, rfl, fun _ _ _ h => h, ?_⟩
                  (try simp only [Act.put, List.setIfInBounds_toArray, List.set_cons_zero, List.set_cons_succ])
                  refine tkA 17 (by kernel_rfl) (by assumption) ⟨_, _, ?_, rfl, rfl, ?_, fun _ _ _ h => h, ?_⟩; rotate_left; · intro w hSw; (try dsimp only at hSw); go_simp; (try with_reducible rfl)
                  (try simp only [Act.put, List.setIfInBounds_toArray, List.set_cons_zero, List.set_cons_succ])
                  refine wpAnyH_done (by kernel_rfl) ?_ _
                  obtain ⟨s0, s1, s2, s3, s4, s5, t0⟩ := hHeld
                  clear k1 k2 k3
                  go_wp2
                  go_roundw
                  case rel => exact ⟨y + 1, by omega, by rw [HD.out], by go_num, HW, Lib.hid t0⟩
                  case measure => simp [intOf]; omega
            · obtain rfl : y = i := by omega
              have e3 : decide ((y : Int) < (y : Int)) = false := by simp
              obtain ⟨D, hD⟩ : ∃ D, D = dmB kap l x y := ⟨_, rfl⟩
              rw [← hD]
              have hDl : dmB kap l x l.length = D := by rw [hD, ← HLn.out]
              obtain ⟨A, hA⟩ : ∃ A, A = someB kap l x := ⟨_, rfl⟩
              obtain ⟨Z, hZ⟩ : ∃ Z, Z = firstB kap l t x := ⟨_, rfl⟩
              rw [← hA, ← hZ]
              have HA : Hid (someB kap l (x + 1) = if A = true then true else !D) := Lib.hid (by unfold someB; rw [hDl, ← hA])
              by_cases hxt : x = t
              · have e5 : ((x : Int) == (t : Int)) = true := by simp; omega
                have HZ : Hid (firstB kap l t (x + 1) = !D) := Lib.hid (by unfold firstB; rw [if_pos hxt, hDl])
                clear hD hDl hA hZ
                cases A
                all_goals (
                  go_wp2
                  go_roundw
                  case rel => exact ⟨x + 1, by omega, by rw [HA.out]; simp, by rw [HZ.out], by go_num, HW, HV⟩
                  case measure => simp [intOf]; omega)
              · have e5 : ((x : Int) == (t : Int)) = false := by simp; omega
                have HZ : Hid (firstB kap l t (x + 1) = Z) := Lib.hid (by unfold firstB; rw [if_neg hxt, hZ])
                clear hD hDl hA hZ
                cases A
                all_goals (
                  go_wp2
                  go_roundw
                  case rel => exact ⟨x + 1, by omega, by rw [HA.out]; simp, by rw [HZ.out], by go_num, HW, HV⟩
                  case measure => simp [intOf]; omega)
        · obtain rfl : x = i := by omega
          have e2 : decide ((x : Int) < (x : Int)) = false := by simp
          have hmin2 : ∀ j, j < l.length → (l.getD t {}).s ≤ (l.getD j {}).s := by rw [← HLn.out]; exact hmin.out
          have s1 : someB kap l x = true := by
            have := HLn.out
            have h := some_ok (kap := kap) (l := l) (t := t) (by omega) (by omega) hmin2
            rwa [← this] at h
          rw [s1]
          have k1 := K1.out
          have k3 := K3.out
          by_cases hk1 : kap = 1
          · have s2 : firstB kap l t x = true := by
              have := HLn.out
              have h := first_ok (l := l) (t := t) hmin2
              rwa [← this, ← hk1] at h
            rw [s2]
            clear s1 s2
            have e6 : (kap != 1) = false := by simp [hk1]
            go_wp2
            go_ret
            exact ⟨rfl, HB.out⟩
          · have e6 : (kap != 1) = true := by simp [hk1]
            clear s1
            go_wp2
            go_ret
            exact ⟨rfl, HB.out⟩
theorem walk (w : World) (k : Int) (wk : (Lit.int .u8 k).wf = true) (v : Value) (l : List Ct) (hv : HasCts w v l) : Calls Try.prog 11 #[.int .u8 k, v] w fun e w' => e = .returned (.bool true) ∧ Below w.heap.size w w' := by
  have hk := u8_of_wf wk
  obtain ⟨a, c, rfl, hl, hc⟩ := id hv
  cases q0 : decide ((10 : Int) < (l.length : Int)) with
  | true => exact walk_long w k a c l q0
  | false =>
    cases q1 : ((l.length : Int) == 0) with
    | true => exact walk_none w k a c l q0 q1
    | false =>
      have h10 : l.length ≤ 10 := by simp at q0; omega
      have h0 : 0 < l.length := by
        cases h : l.length with
        | zero => rw [h] at q1; cases q1
        | succ n => omega
      rcases hc with hc | ⟨b, o, rfl, _⟩
      · omega
      · exact walk_main w k hk b o l.length c l hv rfl h0 h10

theorem own : ownKnob Try.prog.godebug = none := by kernel_rfl
theorem laidOut : laidOutB Try.prog = true := by kernel_rfl

set_option maxRecDepth 100000 in
theorem lifted (os : Os) (started : os.Started) (H : Type) (enc : TypeId × Value → H) :
    ReturnsInHanded {} Try.checked os 11 .any (Rows.managerAcyclicSpec.pre6 enc Try.prog Try.f11 Rows.managerAcyclicRow.domain false) (Rows.managerAcyclicSpec.post enc Try.prog Try.f11 false true false false) := by
  refine returnsInHanded_of_change (C := Try.checked) own started (by kernel_rfl) Try.func11
    (ChangeSpec.witness6 (enc := enc) (C := Try.checked) false ⟨#[], #[.int .u8 0, .slice none 0 0], []⟩ 8 (by kernel_rfl) (by kernel_rfl) (by kernel_rfl) (by kernel_rfl)) ?_
  intro W base args ds gs before hval0 hW hcnd _
  have hval : ∀ (j : Nat) t v, Try.f11.params[j]? = some t → args[j]? = some v → Value.okWide Try.prog W .any base t v := hval0
  have hW' := hW
  obtain ⟨p, q, hA0, hV, rfl, hfz, hnd⟩ := hW
  have hA : DataW.TrodAll enc Try.prog W 0 (fun _ => true) true Try.f11.params.toList args.toList ds p := hA0
  rw [Try.params11] at hA hval
  obtain ⟨v0, vs0, d0, ds0, p0, q0, hargs, rfl, rfl, h0, r0⟩ := trodAll_cons hA
  obtain ⟨v1, vs1, d1, ds1, p1, q1, rfl, rfl, rfl, h1, r1⟩ := trodAll_cons r0
  obtain ⟨rfl, rfl, rfl⟩ := trodAll_nil r1
  obtain rfl : args = #[v0, v1] := by cases args; simp_all
  obtain ⟨rfl, rfl⟩ := trodVars_none hV
  clear hA0 hval0
  simp only [List.append_nil] at hW'
  have lt0 : ∀ x ∈ p0, x.block < W.heap.size := fun x hx => hW'.lt x (by simp [hx])
  have lt1 : ∀ x ∈ p1, x.block < W.heap.size := fun x hx => hW'.lt x (by simp [hx])
  have back0 : ∀ W', Below W.heap.size W W' → DataW.Trod enc Try.prog W' 0 (fun b => decide (b < W.heap.size)) true 5 v0 d0 p0 := fun W' hb => Below.trod laidOut (by kernel_rfl) (of_decide_eq_true (by kernel_rfl)) h0 hb lt0
  have back1 : ∀ W', Below W.heap.size W W' → DataW.Trod enc Try.prog W' 0 (fun b => decide (b < W.heap.size)) true 79 v1 d1 p1 := fun W' hb => Below.trod laidOut (by kernel_rfl) (of_decide_eq_true (by kernel_rfl)) h1 hb lt1
  obtain ⟨a0, rfl, rfl, rfl, w0⟩ := open_int Try.underlying5 (hval 0 5 v0 rfl rfl) h0
  obtain ⟨l1, k1⟩ := open_cts (hval 1 79 v1 rfl rfl) h1
  refine (walk W a0 w0 v1 l1 k1).mono fun e W' ⟨he, hg⟩ => ?_
  subst he
  exact ⟨_, rfl, _, _, _, [], _, [], hW', (trodAll_cons_mk (shut_bool Try.underlying4 _) trodAll_mk0), (trodAll_cons_mk (back0 _ hg) (trodAll_cons_mk (back1 _ hg) trodAll_mk0)), rfl, hg.frame _, fun h => by cases h⟩

theorem over : Rows.managerAcyclicRow.holds Try.pinned (OpenSpec.ofChange Rows.managerAcyclicSpec) :=
  OpenClaim.holds_of_wide 11 Try.f11 rfl rfl rfl rfl rfl rfl rfl ⟨rfl, rfl, rfl, rfl, rfl⟩ rfl rfl rfl rfl rfl (by kernel_rfl) Try.func11 (by kernel_rfl)
    (of_decide_eq_true (by kernel_rfl)) (by unfold Func.isWrapper; first | (rw [if_pos (by decide +kernel)]; kernel_rfl) | (rw [if_neg (by decide +kernel)]; exact ⟨rfl, rfl⟩))
    (fun os started H enc _ => lifted os started H enc)

/-- The given statement. -/
theorem proved : Rows.ManagerAcyclicSaid :=
  over
#print axioms proved
end Go.Proofs.Ytaclnaedinfhmaa.managerAcyclic
