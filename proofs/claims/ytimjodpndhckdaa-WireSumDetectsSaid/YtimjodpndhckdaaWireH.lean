
/-
  Layer 3: decoding a list of numbers.
-/
import Derived.Test.YtimjodpndhckdaaRows
import Derived.Test.YtimjodpndhckdaaBase
import Derived.Test.YtimjodpndhckdaaWirePlain
import Derived.Test.YtimjodpndhckdaaWireA
import Derived.Test.YtimjodpndhckdaaWireB
import Derived.Test.YtimjodpndhckdaaWireC
import Derived.Test.YtimjodpndhckdaaWireF
import Derived.Outline
import Derived.Deep.QuietTactic
import Derived.BigQuiet
namespace Go.Proofs.Ytimjodpndhckdaa
set_option maxRecDepth 20000
open Go.ChangeShapes Go.WideShapes Go.ChangeAt Go.RowKit

/-- So many numbers one after the other. -/
def decMany : Nat → List Nat → Option (List Int × Nat)
  | 0, _ => some ([], 0)
  | c + 1, l => match decMany c l with
    | none => none
    | some (ns, u) => match dec (l.drop u) with
      | none => none
      | some (n, k) => some (ns ++ [n], u + k)
def decNums (l : List Nat) : Option (List Int × Nat) := match dec l with
  | none => none
  | some (c, k) => if c < 0 then none else match decMany c.toNat (l.drop k) with
    | none => none
    | some (ns, u) => some (ns, k + u)
theorem decMany_none {j : Nat} {l : List Nat} (h : decMany j l = none) (i : Nat) : decMany (j + i) l = none := by
  induction i with
  | zero => exact h
  | succ i ih => rw [← Nat.add_assoc]; unfold decMany; rw [ih]
theorem decMany_used {j : Nat} {l : List Nat} {ns : List Int} {u : Nat} (hl : ∀ b ∈ l, b < 256) (h : decMany j l = some (ns, u)) : ns.length = j ∧ j ≤ u ∧ u ≤ l.length ∧ l.take u = encs ns ∧ ∀ n ∈ ns, I64 n := by
  induction j generalizing ns u with
  | zero => simp [decMany] at h; obtain ⟨rfl, rfl⟩ := h; simp [encs]
  | succ j ih =>
    unfold decMany at h
    split at h
    · cases h
    · rename_i ns' u' he
      split at h
      · cases h
      · rename_i n k hd
        simp at h
        obtain ⟨rfl, rfl⟩ := h
        obtain ⟨h1, h2, h3, h4, h5⟩ := ih he
        have hd2 := dec_some (fun b hb => hl b (List.mem_of_mem_drop hb)) hd
        rw [List.length_drop] at hd2
        refine ⟨by simp [h1], by omega, by omega, ?_, ?_⟩
        · rw [List.take_add, h4, hd2.2.1, encs_snoc]
        · intro m hm
          rcases List.mem_append.1 hm with hm | hm
          · exact h5 m hm
          · simp at hm; subst hm; exact hd2.1
theorem decMany_encs (ns : List Int) (hns : ∀ n ∈ ns, I64 n) (r : List Nat) : decMany ns.length (encs ns ++ r) = some (ns, (encs ns).length) := by
  rcases List.eq_nil_or_concat ns with rfl | ⟨p, n, rfl⟩
  · rfl
  · rw [List.concat_eq_append] at *
    have ih := decMany_encs p (fun m hm => hns m (by simp [hm])) (enc n ++ r)
    rw [List.length_append, encs_snoc, List.append_assoc]
    show decMany (p.length + 1) _ = _
    unfold decMany
    rw [ih]
    simp only
    rw [List.drop_left, dec_enc (hns n (by simp))]
    simp
termination_by ns.length
decreasing_by
  rename_i h
  have : ns = p ++ [n] := by simpa using h
  rw [this]; simp

set_option maxHeartbeats 1600000 in
theorem next_any (B0 B1 : Nat) (a : Option Addr) (L cap t : Nat) (l : List Nat) (hl : ∀ b ∈ l, b < 256) (w : World) (hv : HasB w (.slice a L cap) l) (h0 : w.cell? ⟨B0, 0, none⟩ = some (.slice a L cap))
    (h1 : w.cell? ⟨B1, 0, none⟩ = some (.int .i64 t)) (f1 : w.frozen? ⟨B1, 0, none⟩ = false) (ht : t ≤ L) (n : Int) (k : Nat) (E : Int) (ok : Bool)
    (hD : decV (l.drop t) = .tuple #[.int .i64 n, .int .i64 (k : Int), .int .i64 E]) (hok : (E == 0) = ok) (hk : t + k ≤ L) :
    Calls Try.prog 77 #[.pointer (some ⟨B0, 0, none⟩), .pointer (some ⟨B1, 0, none⟩)] w fun e w' =>
      e = .returned (.tuple #[.int .i64 n, .bool ok]) ∧ w'.cell? ⟨B1, 0, none⟩ = some (.int .i64 ((t + k : Nat) : Int)) ∧ w'.frozen? ⟨B1, 0, none⟩ = false ∧ w.grownBy w' (some B1) := by
  have HV := Lib.hid hv
  have HD := Lib.hid hD
  have hcap : L ≤ cap ∧ cap ≤ 9223372036854775807 := by
    obtain ⟨a', cap', he, hll, _⟩ := hv
    simp only [Value.slice.injEq] at he
    obtain ⟨rfl, rfl, rfl⟩ := he
    exact ⟨hll.2.1, hll.2.2.1⟩
  obtain ⟨c1, c2⟩ := hcap
  have HP : Hid (HasB w (.slice (if cap = t then a else a.map (·.add t)) (L - t) (cap - t)) (l.drop t)) := Lib.hid (hasB_drop hv ht)
  have HLP : Hid (∀ b ∈ l.drop t, b < 256) := Lib.hid (fun b hb => hl b (List.mem_of_mem_drop hb))
  clear hv hD hl
  have q1 : (t : Int) ≤ cap := by omega
  by_cases hc : cap = t
  · subst hc
    obtain rfl : L = cap := by omega
    simp only [if_true, Nat.sub_self] at HP
    go_enter Try.func77, Try.ntmps77
    go_wp2_with fail
    ((with_reducible refine (get_any _ (l.drop L) HLP.out _ HP.out).mono ?_); rintro e w' ⟨rfl, m, rfl⟩)
    rw [HD.out]
    go_wp2
    go_ret2
    refine ⟨rfl, ?_, ?_, ?_⟩
    · rw [Int.natCast_add]
      exact World.cell?_setCell_same _ _ _ h1
    · exact (World.frozen?_setCell _ _ _ _).trans f1
    · exact gb_set (show w.grownBy (w.drewN m) (some B1) from ⟨rfl, rfl, rfl, Nat.le_refl _, fun _ _ _ => rfl⟩) (Or.inl rfl) _
  · rw [if_neg hc] at HP
    go_enter Try.func77, Try.ntmps77
    go_wp2_with fail
    ((with_reducible refine (get_any _ (l.drop t) HLP.out _ HP.out).mono ?_); rintro e w' ⟨rfl, m, rfl⟩)
    rw [HD.out]
    go_wp2
    go_ret2
    refine ⟨rfl, ?_, ?_, ?_⟩
    · rw [Int.natCast_add]
      exact World.cell?_setCell_same _ _ _ h1
    · exact (World.frozen?_setCell _ _ _ _).trans f1
    · exact gb_set (show w.grownBy (w.drewN m) (some B1) from ⟨rfl, rfl, rfl, Nat.le_refl _, fun _ _ _ => rfl⟩) (Or.inl rfl) _


def NumsV (W : World) (l : List Nat) (e : Ending) (w' : World) : Prop :=
  Below W.heap.size W w' ∧ match decNums l with
  | none => e = .returned (.tuple #[.slice none 0 0, .int .i64 0, .int .i64 3])
  | some (ns, u) => ∃ v, e = .returned (.tuple #[v, .int .i64 (u : Int), .int .i64 0]) ∧ HasInts w' v ns

/-- What a call of the closure leaves. -/
theorem after_next {W w2 w3 : World} {B1 : Nat} {b o : Nat} {x : Value} (hB : Below W.heap.size W w2) (hB1 : W.heap.size ≤ B1) (hg : w2.grownBy w3 (some B1)) (h0 : w2.cell? ⟨b, o, none⟩ = some x) (hne : b ≠ B1) :
    Below W.heap.size W w3 ∧ w3.cell? ⟨b, o, none⟩ = some x :=
  ⟨hB.grown hg hB.size (fun j hj => by have : B1 = j := by simpa using hj
                                       omega),
   (World.cell?_of_block (a := ⟨b, o, none⟩) (hg.block b (World.block_lt_of_cell? w2 ⟨b, o, none⟩ h0) (by simpa using hne))).trans h0⟩

set_option maxHeartbeats 4000000 in
theorem gnums_any (v : Value) (l : List Nat) (hl : ∀ b ∈ l, b < 256) (hlen : l.length ≤ 1000000) (w : World) (hv : HasB w v l) : Calls Try.prog 50 #[v] w (NumsV w l) := by
  obtain ⟨i0, hi, hz0, hz1, hz2⟩ := info_parts info_int
  have HV := Lib.hid hv
  have HL := Lib.hid hl
  obtain ⟨a, cap, rfl, hll, _⟩ := hv
  obtain ⟨L, hL⟩ : ∃ L, L = l.length := ⟨_, rfl⟩
  rw [← hL] at hll HV hlen ⊢
  have NL := Lib.hid hL
  clear hL hl hll
  cases hd : dec l with
  | none =>
    have HD : Hid (decV (l.drop 0) = .tuple #[.int .i64 0, .int .i64 ((0 : Nat) : Int), .int .i64 3]) := Lib.hid (by rw [List.drop_zero]; unfold decV; rw [hd]; rfl)
    have HN : Hid (decNums l = none) := Lib.hid (by unfold decNums; rw [hd])
    clear hd
    go_enter Try.func50, Try.ntmps50
    go_wp2_with fail
    have hw0 : Below w.heap.size w ((w.alloc (.cells #[.slice a L cap] 42)).alloc (.cells #[.int .i64 0] 3)) := ((Below.refl _ _).alloc (Nat.le_refl _) _).alloc (by simp) _
    have hc0 : ((w.alloc (.cells #[.slice a L cap] 42)).alloc (.cells #[.int .i64 0] 3)).cell? ⟨w.heap.size, 0, none⟩ = some (.slice a L cap) := cell_alloc _ (by rw [World.cell?_alloc_at _ _ _ _ rfl]; rfl)
    ((with_reducible refine (next_any w.heap.size (w.heap.size + 1) a L cap 0 l HL.out _ (hasB_keep HV.out hw0) hc0 (by rw [World.cell?_alloc_at _ _ _ _ (by simp)]; simp) (World.frozen?_alloc_at _ _ _ _ (by simp)) (Nat.zero_le _) _ _ _ false HD.out rfl (Nat.zero_le _)).mono ?_); rintro e w1 ⟨rfl, g1, f1, hg1⟩)
    have hA := after_next hw0 (by omega) hg1 hc0 (by omega)
    have HB1 := Lib.hid hA.1
    have g0 := hA.2
    have HS1 := hA.1.size
    clear hw0 hc0 hg1 hA
    go_wp2
    go_ret3
    refine ⟨HB1.out, ?_⟩
    rw [HN.out]
    rfl
  | some x =>
    obtain ⟨c, k⟩ := x
    have HD : Hid (decV (l.drop 0) = .tuple #[.int .i64 c, .int .i64 (k : Int), .int .i64 0]) := Lib.hid (by rw [List.drop_zero]; unfold decV; rw [hd])
    have hs := dec_some HL.out hd
    rw [← NL.out] at hs
    have hkL : 0 + k ≤ L := by omega
    have hci := hs.1
    unfold I64 at hci
    obtain ⟨hci1, hci2⟩ := hci
    have HKL : Hid (k ≤ L) := Lib.hid hs.2.2.2
    clear hs
    by_cases hneg : c < 0
    · have HN : Hid (decNums l = none) := Lib.hid (by unfold decNums; rw [hd]; simp only; rw [if_pos hneg])
      clear hd
      go_enter Try.func50, Try.ntmps50
      go_wp2_with fail
      have hw0 : Below w.heap.size w ((w.alloc (.cells #[.slice a L cap] 42)).alloc (.cells #[.int .i64 0] 3)) := ((Below.refl _ _).alloc (Nat.le_refl _) _).alloc (by simp) _
      have hc0 : ((w.alloc (.cells #[.slice a L cap] 42)).alloc (.cells #[.int .i64 0] 3)).cell? ⟨w.heap.size, 0, none⟩ = some (.slice a L cap) := cell_alloc _ (by rw [World.cell?_alloc_at _ _ _ _ rfl]; rfl)
      ((with_reducible refine (next_any w.heap.size (w.heap.size + 1) a L cap 0 l HL.out _ (hasB_keep HV.out hw0) hc0 (by rw [World.cell?_alloc_at _ _ _ _ (by simp)]; simp) (World.frozen?_alloc_at _ _ _ _ (by simp)) (Nat.zero_le _) _ _ _ true HD.out rfl hkL).mono ?_); rintro e w1 ⟨rfl, g1, f1, hg1⟩)
      have hA := after_next hw0 (by omega) hg1 hc0 (by omega)
      have HB1 := Lib.hid hA.1
      have g0 := hA.2
      have HS1 := hA.1.size
      clear hw0 hc0 hg1 hA
      go_wp2
      go_ret3
      refine ⟨HB1.out, ?_⟩
      rw [HN.out]
      rfl
    · obtain ⟨C, rfl⟩ := Int.eq_ofNat_of_zero_le (show 0 ≤ c by omega)
      have HN1 : Hid (decNums l = match decMany C (l.drop k) with | none => none | some (ns, u) => some (ns, k + u)) := Lib.hid (by
        unfold decNums; rw [hd]; simp only; rw [if_neg hneg]; rfl)
      clear hd hneg hci1 hci2
      by_cases hbig : (L : Int) - k < C
      · have HN : Hid (decNums l = none) := Lib.hid (by
          rw [HN1.out]
          cases hm : decMany C (l.drop k) with
          | none => rfl
          | some y =>
            obtain ⟨ns, u⟩ := y
            have h := decMany_used (fun b hb => HL.out b (List.mem_of_mem_drop hb)) hm
            rw [List.length_drop, ← NL.out] at h
            have := HKL.out
            omega)
        clear HN1
        go_enter Try.func50, Try.ntmps50
        go_wp2_with fail
        have hw0 : Below w.heap.size w ((w.alloc (.cells #[.slice a L cap] 42)).alloc (.cells #[.int .i64 0] 3)) := ((Below.refl _ _).alloc (Nat.le_refl _) _).alloc (by simp) _
        have hc0 : ((w.alloc (.cells #[.slice a L cap] 42)).alloc (.cells #[.int .i64 0] 3)).cell? ⟨w.heap.size, 0, none⟩ = some (.slice a L cap) := cell_alloc _ (by rw [World.cell?_alloc_at _ _ _ _ rfl]; rfl)
        ((with_reducible refine (next_any w.heap.size (w.heap.size + 1) a L cap 0 l HL.out _ (hasB_keep HV.out hw0) hc0 (by rw [World.cell?_alloc_at _ _ _ _ (by simp)]; simp) (World.frozen?_alloc_at _ _ _ _ (by simp)) (Nat.zero_le _) _ _ _ true HD.out rfl hkL).mono ?_); rintro e w1 ⟨rfl, g1, f1, hg1⟩)
        have hA := after_next hw0 (by omega) hg1 hc0 (by omega)
        have HB1 := Lib.hid hA.1
        have g0 := hA.2
        have HS1 := hA.1.size
        clear hw0 hc0 hg1 hA
        go_wp2
        go_ret3
        refine ⟨HB1.out, ?_⟩
        rw [HN.out]
        rfl
      · have hCL : C ≤ L := by have := HKL.out; omega
        have hbig' : (C : Int) ≤ (L : Int) - k := by omega
        clear hbig
        go_enter Try.func50, Try.ntmps50
        go_wp2_with fail
        have hw0 : Below w.heap.size w ((w.alloc (.cells #[.slice a L cap] 42)).alloc (.cells #[.int .i64 0] 3)) := ((Below.refl _ _).alloc (Nat.le_refl _) _).alloc (by simp) _
        have hc0 : ((w.alloc (.cells #[.slice a L cap] 42)).alloc (.cells #[.int .i64 0] 3)).cell? ⟨w.heap.size, 0, none⟩ = some (.slice a L cap) := cell_alloc _ (by rw [World.cell?_alloc_at _ _ _ _ rfl]; rfl)
        ((with_reducible refine (next_any w.heap.size (w.heap.size + 1) a L cap 0 l HL.out _ (hasB_keep HV.out hw0) hc0 (by rw [World.cell?_alloc_at _ _ _ _ (by simp)]; simp) (World.frozen?_alloc_at _ _ _ _ (by simp)) (Nat.zero_le _) _ _ _ true HD.out rfl hkL).mono ?_); rintro e w1 ⟨rfl, g1, f1, hg1⟩)
        have hA := after_next hw0 (by omega) hg1 hc0 (by omega)
        have HB1 := Lib.hid hA.1
        have g0 := hA.2
        have HS1 := hA.1.size
        clear hw0 hc0 hg1 hA
        go_wp2_with (first
          | (at_make; refine wpList_make_own _ rfl _ _ 22 rfl w1.heap.size 3 i0 (.int .i64 0) 1 Try.underlying22 hi hz0 hz1 _ _ _ C rfl rfl rfl (by rw [hz2]; omega) (by unfold maxLen; omega) (Nat.le_refl _) ?_; intro w2 hown2 hgrow2))
        have hlB1 : w.heap.size + 1 < w1.heap.size := World.block_lt_of_cell? w1 ⟨w.heap.size + 1, 0, none⟩ g1
        have hs2 : w1.heap.size ≤ w2.heap.size := hgrow2.size
        have hb2 : Hid (Below w.heap.size w w2) := Lib.hid (HB1.out.grown hgrow2 HB1.out.size (fun j hj => by cases hj))
        have e0 : w2.cell? ⟨w.heap.size, 0, none⟩ = some (.slice a L cap) := (World.cell?_of_block (a := ⟨w.heap.size, 0, none⟩) (hgrow2.block w.heap.size (by omega) (by simp))).trans g0
        have e1 : w2.cell? ⟨w.heap.size + 1, 0, none⟩ = some (.int .i64 ((k + 0 : Nat) : Int)) := (World.cell?_of_block (a := ⟨w.heap.size + 1, 0, none⟩) (hgrow2.block (w.heap.size + 1) hlB1 (by simp))).trans (by rw [g1, Nat.zero_add]; rfl)
        have e2 : w2.frozen? ⟨w.heap.size + 1, 0, none⟩ = false := (World.frozen?_of_block (a := ⟨w.heap.size + 1, 0, none⟩) (hgrow2.block (w.heap.size + 1) hlB1 (by simp))).trans f1
        have HO2 := Lib.hid hown2
        clear hown2 hgrow2 g0 g1 f1 hkL hbig'
        go_loopw [9, 35] (fun v i wr => ∃ (j : Nat) (ns : List Int) (u : Nat), j ≤ C ∧ i = .int .i64 j ∧ Hid (decMany j (l.drop k) = some (ns, u)) ∧ Hid (wr.ownsRow w1.heap.size 3 1 v j (ns.map (Value.int .i64))) ∧ Hid (Below w.heap.size w wr) ∧ wr.cell? ⟨w.heap.size, 0, none⟩ = some (.slice a L cap) ∧ wr.cell? ⟨w.heap.size + 1, 0, none⟩ = some (.int .i64 ((k + u : Nat) : Int)) ∧ wr.frozen? ⟨w.heap.size + 1, 0, none⟩ = false ∧ w1.heap.size ≤ wr.heap.size) (fun _ i _ => C - (intOf i).toNat)
        case atStart => exact ⟨0, [], 0, Nat.zero_le _, rfl, Lib.hid rfl, HO2, hb2, e0, e1, e2, hs2⟩
        case round =>
          obtain ⟨j, ns, u, hj, rfl, hdm, hown, hbw, m0, m1, m2, hsz⟩ := hrel
          have hU := decMany_used (fun b hb => HL.out b (List.mem_of_mem_drop hb)) hdm.out
          rw [List.length_drop, ← NL.out] at hU
          have hku : k + u ≤ L := by have := HKL.out; omega
          have HNL : Hid (ns.length = j) := Lib.hid hU.1
          clear hU
          by_cases hlt : j < C
          · cases hd2 : dec (l.drop (k + u)) with
            | none =>
              have HD2 : Hid (decV (l.drop (k + u)) = .tuple #[.int .i64 0, .int .i64 ((0 : Nat) : Int), .int .i64 3]) := Lib.hid (by unfold decV; rw [hd2]; rfl)
              have HN : Hid (decNums l = none) := Lib.hid (by
                rw [HN1.out]
                have h1 : decMany (j + 1) (l.drop k) = none := by unfold decMany; rw [hdm.out]; simp only; rw [List.drop_drop, hd2]
                have h2 := decMany_none h1 (C - (j + 1))
                rw [show j + 1 + (C - (j + 1)) = C by omega] at h2
                rw [h2])
              clear hd2
              go_wp2_with fail
              ((with_reducible refine (next_any w.heap.size (w.heap.size + 1) a L cap (k + u) l HL.out _ (hasB_keep HV.out hbw.out) m0 m1 m2 hku _ _ _ false HD2.out rfl (by omega)).mono ?_); rintro e w3 ⟨rfl, n1, n2, hg3⟩)
              have HB3 := Lib.hid (after_next hbw.out (by omega) hg3 m0 (by omega)).1
              clear hg3
              go_wp2
              go_ret3
              refine ⟨HB3.out, ?_⟩
              rw [HN.out]
              rfl
            | some y =>
              obtain ⟨n, k'⟩ := y
              have hs3 := dec_some (fun b hb => HL.out b (List.mem_of_mem_drop hb)) hd2
              rw [List.length_drop, ← NL.out] at hs3
              have hk' : k + u + k' ≤ L := by omega
              have HD2 : Hid (decV (l.drop (k + u)) = .tuple #[.int .i64 n, .int .i64 (k' : Int), .int .i64 0]) := Lib.hid (by unfold decV; rw [hd2])
              have HM : Hid (decMany (j + 1) (l.drop k) = some (ns ++ [n], u + k')) := Lib.hid (by unfold decMany; rw [hdm.out]; simp only; rw [List.drop_drop, hd2])
              clear hd2 hs3
              go_wp2_with fail
              ((with_reducible refine (next_any w.heap.size (w.heap.size + 1) a L cap (k + u) l HL.out _ (hasB_keep HV.out hbw.out) m0 m1 m2 hku _ _ _ true HD2.out rfl hk').mono ?_); rintro e w3 ⟨rfl, n1, n2, hg3⟩)
              have hA := after_next hbw.out (by omega) hg3 m0 (by omega)
              have HB3 := Lib.hid hA.1
              have n0 := hA.2
              have hs3 : wr.heap.size ≤ w3.heap.size := hg3.size
              have hblk : ∀ g, _ := fun g hg => (hown.out.lt g hg).1
              have HO3 := Lib.hid (hown.out.kept hg3 (Or.inr (fun hc => by have := hblk _ hc; omega)))
              clear hg3 hA hblk
              go_wp2_with (first
                | (at_builtin; refine wpList_append_own _ rfl _ _ 22 rfl w1.heap.size 3 i0 (.int .i64 0) 1 8 Try.underlying22 hi hz0 hz1 hz2 rfl (by decide) _ _ _ rfl (World.ownsRow.alloc HO3.out _) ⟨w3.heap.size, 0, none⟩ 1 1 [.int .i64 n] rfl rfl (fun j u hj => append_cell j u hj) (by intro u hu; simp at hu; subst hu; rfl) (by unfold maxLen; omega) (by omega) (by simp; omega) ?_; intro v' w4 hown' hgrow' _))
              have hne : ∀ b, b < w1.heap.size → some b ≠ Value.ownBlock _ := fun b hb hc => by
                have := (HO3.out.lt b hc.symm).1; omega
              have k0 : w4.cell? ⟨w.heap.size, 0, none⟩ = some (.slice a L cap) := (World.cell?_of_block (a := ⟨w.heap.size, 0, none⟩) (hgrow'.block w.heap.size (by simp; omega) (hne _ (by omega)))).trans (cell_alloc _ n0)
              have k1 : w4.cell? ⟨w.heap.size + 1, 0, none⟩ = some (.int .i64 ((k + (u + k') : Nat) : Int)) := (World.cell?_of_block (a := ⟨w.heap.size + 1, 0, none⟩) (hgrow'.block (w.heap.size + 1) (by simp; omega) (hne _ hlB1))).trans (cell_alloc _ (by rw [n1, Nat.add_assoc]))
              have k2 : w4.frozen? ⟨w.heap.size + 1, 0, none⟩ = false := (World.frozen?_of_block (a := ⟨w.heap.size + 1, 0, none⟩) (hgrow'.block (w.heap.size + 1) (by simp; omega) (hne _ hlB1))).trans (frozen_alloc _ (by omega) n2)
              have hs4 : w3.heap.size ≤ w4.heap.size := by have := hgrow'.size; simp at this; omega
              have HB4 := Lib.hid ((HB3.out.alloc HB3.out.size _).grown hgrow' (by have := HB3.out.size; simp; omega) (fun j hj => by have := (HO3.out.lt j hj).1; omega))
              have HO4 : Hid (w4.ownsRow w1.heap.size 3 1 v' (j + 1) ((ns ++ [n]).map (Value.int .i64))) := Lib.hid (by rw [List.map_append]; exact hown')
              clear hown' hgrow' hne
              go_roundw
              case rel => exact ⟨j + 1, ns ++ [n], u + k', by omega, by go_num, HM, HO4, HB4, k0, k1, k2, by omega⟩
              case measure => simp [intOf]; omega
          · obtain rfl : j = C := by omega
            have HN : Hid (decNums l = some (ns, k + u)) := Lib.hid (by rw [HN1.out, hdm.out])
            go_wp2
            go_quiet (fail)
            go_wp2
            go_ret3
            refine ⟨below_drewN hbw.out _, ?_⟩
            rw [HN.out]
            refine ⟨_, rfl, ?_⟩
            refine hasInts_drewN (hasInts_of_owns (B := w1.heap.size) ?_) _
            rw [HNL.out]
            exact hown.out
end Go.Proofs.Ytimjodpndhckdaa
