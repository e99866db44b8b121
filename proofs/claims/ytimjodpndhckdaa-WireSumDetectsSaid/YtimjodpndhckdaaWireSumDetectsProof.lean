/- WireSumDetects: the check sum tells one changed byte, and two neighbours changed about; a seal whose content was changed is not opened. For byte sequences of at most 600 bytes in all. No further condition. -/
import Derived.Test.YtimjodpndhckdaaRows
import Derived.Test.YtimjodpndhckdaaAux
import Derived.Test.YtimjodpndhckdaaWireA
import Derived.Test.YtimjodpndhckdaaWireB
import Derived.Test.YtimjodpndhckdaaWireC
import Derived.Test.YtimjodpndhckdaaWireD
import Derived.Test.YtimjodpndhckdaaWireE
import Derived.Test.YtimjodpndhckdaaWireF
import Derived.Test.YtimjodpndhckdaaWireK
import Derived.Test.YtimjodpndhckdaaWireM
import Derived.Test.YtimjodpndhckdaaWireN
import Derived.Test.YtimjodpndhckdaaWireO
import Derived.Test.YtimjodpndhckdaaWireQ
import Derived.Test.YtimjodpndhckdaaWireS
import Derived.Outline
import Derived.Deep.RegionHeld3
import Derived.Deep.DeepCutAuto
import Derived.WalkKit
import Derived.ProofKit
import Derived.OpenShut
import Derived.Lib.Hide
import Derived.Carry
namespace Go.Proofs.Ytimjodpndhckdaa.wireSumDetects
open Go.ChangeShapes Go.WideShapes Go.ChangeAt Go.RowKit
set_option linter.unusedVariables false

theorem hasB_one {w : World} {b x : Nat} (h : w.cell? ⟨b, 0, none⟩ = some (.int .u8 (x : Int))) : HasB w (.slice (some ⟨b, 0, none⟩) 1 1) [x] := by
  refine ⟨_, _, rfl, ⟨by simp, by simp, by omega, fun h => by cases h⟩, Or.inr ⟨b, 0, rfl, fun j hj => ?_⟩⟩
  obtain rfl : j = 0 := by simp at hj; omega
  simpa using h
theorem hasB_two {w : World} {b x y : Nat} (h : w.cell? ⟨b, 0, none⟩ = some (.int .u8 (x : Int))) (k : w.cell? ⟨b, 1, none⟩ = some (.int .u8 (y : Int))) : HasB w (.slice (some ⟨b, 0, none⟩) 2 2) [x, y] := by
  refine ⟨_, _, rfl, ⟨by simp, by simp, by omega, fun h => by cases h⟩, Or.inr ⟨b, 0, rfl, fun j hj => ?_⟩⟩
  have hj2 : j = 0 ∨ j = 1 := by simp at hj; omega
  rcases hj2 with rfl | rfl
  · simpa using h
  · simpa using k
theorem set_own {w : World} {B g P c J : Nat} {l : List Nat} (h : OwnB w B (.slice (some ⟨g, 0, none⟩) P c) l) (y : Nat) (hP : l.length = P) : OwnB (w.setCell ⟨g, J, none⟩ (.int .u8 (y : Int))) B (.slice (some ⟨g, 0, none⟩) P c) (l.set J y) := by
  have h0 : w.ownsRow B 5 1 (.slice (some ⟨g, 0, none⟩) P c) P (l.map bV) := by rw [← hP]; have := h; unfold OwnB at this; rw [hP] at this ⊢; exact this
  have h1 := (h0.stored J (.int .u8 (y : Int))).1
  unfold OwnB
  rw [List.length_set, hP, List.map_set]
  exact h1
theorem own_store {w : World} {B P J : Nat} {v : Value} {l : List Nat} (h : OwnB w B v l) (hP : l.length = P) (hJ : J < P) : ∃ g c, v = .slice (some ⟨g, 0, none⟩) P c ∧ P ≤ c ∧ B ≤ g ∧ (∃ y, w.cell? ⟨g, J, none⟩ = some (.int .u8 y)) ∧ w.frozen? ⟨g, J, none⟩ = false ∧ ∀ y : Nat, OwnB (w.setCell ⟨g, J, none⟩ (.int .u8 (y : Int))) B (.slice (some ⟨g, 0, none⟩) P c) (l.set J y) := by
  have h0 : w.ownsRow B 5 1 v P (l.map bV) := by rw [← hP]; exact h
  have h1 := h0
  obtain ⟨_, h2 | ⟨g, c, cur, rfl, hB, _, hc, _⟩⟩ := h1
  · omega
  · refine ⟨g, c, rfl, hc, hB, ⟨((l[J]'(by omega) : Nat) : Int), ?_⟩, h0.frozenAt J, fun y => set_own h y hP⟩
    rw [h0.cellAt J (by omega)]
    simp [List.getElem?_eq_getElem (show J < l.length by omega), bV]
theorem bytes3 {la lx lb : List Nat} (h1 : ∀ b ∈ la, b < 256) (h2 : ∀ b ∈ lx, b < 256) (h3 : ∀ b ∈ lb, b < 256) : ∀ b ∈ la ++ lx ++ lb, b < 256 := by
  intro b hb
  rcases List.mem_append.1 hb with hb | hb
  · rcases List.mem_append.1 hb with hb | hb
    · exact h1 b hb
    · exact h2 b hb
  · exact h3 b hb
theorem wpList_append_b (w : World) {ops : Array Oper} {rest : List Oper} {o : Oper} {a : Act} {Q : Exit → Act → World → Prop} (hg : o.guard = none) (s x : Operand) (ho : o.op = .call { callee := .builtin .append, args := #[s, x], argTypes := #[42, 42] })
    (B : Nat) (v : Value) (xs : List Nat) (hs : a.eval s = v) (hown : OwnB w B v xs) (u : Value) (ys : List Nat) (hx : a.eval x = u) (hr : HasB w u ys)
    (b1 : xs.length + ys.length ≤ 1000000) (hbase : B ≤ w.heap.size)
    (h : ∀ v' w', OwnB w' B v' (xs ++ ys) → Below B w w' → wpList Try.prog ops Q rest (a.put o.dst v') w') : wpList Try.prog ops Q (o :: rest) a w :=
  wpList_plain hg fun _ hK => wp_append_b s x ho B v xs hs hown u ys hx hr b1 hbase fun v' w' h1 h2 _ => hK _ _ (h v' w' h1 h2)
theorem join_s {w : World} (g g' : Nat) {aa ab ax : Option Addr} {L1 L2 L3 c1 c2 c3 : Nat} (la lb lx T : List Nat) (N : Nat) (hT : la ++ lx ++ lb = T) (hN : T.length = N) (hg : w.cell? ⟨g, 0, none⟩ = some (.slice aa L1 c1)) (hg' : w.cell? ⟨g', 0, none⟩ = some (.slice ab L2 c2)) (hva : HasB w (.slice aa L1 c1) la) (hvb : HasB w (.slice ab L2 c2) lb) (hvx : HasB w (.slice ax L3 c3) lx) (hlen : N ≤ 1000) :
    Calls Try.prog 19 #[.slice ax L3 c3, .pointer (some ⟨g, 0, none⟩), .pointer (some ⟨g', 0, none⟩)] w fun e w' => ∃ r c, e = .returned (.slice r N c) ∧ HasB w' (.slice r N c) T ∧ Below w.heap.size w w' := by
  subst hT hN
  refine (join_any w g g' aa ab ax L1 L2 L3 c1 c2 c3 la lb lx hg hg' hva hvb hvx (by simp at hlen; omega)).mono ?_
  rintro e w' ⟨v, rfl, hv, hb⟩
  have h := hasB_of_owns hv
  obtain ⟨r, c, rfl, _⟩ := id h
  exact ⟨r, c, rfl, h, hb⟩
theorem sum_s {v : Value} {w : World} (l : List Nat) (S : Int) (hS : (adler l : Int) = S) (hl : ∀ b ∈ l, b < 256) (hv : HasB w v l) : Calls Try.prog 20 #[v] w fun e w' => e = .returned (.int .i64 S) ∧ Below w.heap.size w w' :=
  (sum_any v l hl w hv).mono fun e w' ⟨he, hw⟩ => ⟨by rw [he, hS], hw ▸ Below.refl _ _⟩
theorem seal_p {v : Value} {w : World} (l T : List Nat) (P : Nat) (hT : sealB l = T) (hP : T.length = P) (hl : ∀ b ∈ l, b < 256) (hs : l.length ≤ 1000) (hv : HasB w v l) : Calls Try.prog 21 #[v] w fun e w' => ∃ r c, e = .returned (.slice r P c) ∧ HasB w' (.slice r P c) T ∧ Below w.heap.size w w' := by
  subst hT hP
  refine (seal_any v l hl (by omega) w hv).mono ?_
  rintro e w' ⟨v, rfl, hv, hb⟩
  have h := hasB_of_owns hv
  obtain ⟨r, c, rfl, _⟩ := id h
  exact ⟨r, c, rfl, h, hb⟩
theorem put_p {w : World} (n : Int) (P : Nat) (hP : (enc n).length = P) (hn : I64 n) : Calls Try.prog 22 #[.int .i64 n] w fun e w' => ∃ r c, e = .returned (.slice r P c) ∧ Below w.heap.size w w' := by
  subst hP
  refine (put_any n hn w).mono ?_
  rintro e w' ⟨v, rfl, hv, hb⟩
  obtain ⟨r, c, rfl, _⟩ := hasB_of_owns hv
  exact ⟨r, c, rfl, hb⟩
theorem open_p {v : Value} {w : World} (l p : List Nat) (n : Nat) (hl : ∀ b ∈ l, b < 256) (hlen : l.length ≤ 1000000) (hT : openB l = some (p, n)) (hv : HasB w v l) : Calls Try.prog 23 #[v] w fun e w' => ∃ r, e = .returned (.tuple #[r, .int .i64 (n : Int), .int .i64 0]) ∧ Below w.heap.size w w' :=
  (open_any v l hl hlen w hv).mono fun e w' ⟨hb, h⟩ => by
    rw [hT] at h
    obtain ⟨r, he, hr⟩ := h
    exact ⟨r, he, hb⟩
theorem open_q {v : Value} {w : World} (l : List Nat) (hl : ∀ b ∈ l, b < 256) (hlen : l.length ≤ 1000000) (hT : openB l = none) (hv : HasB w v l) : Calls Try.prog 23 #[v] w fun e w' => e = .returned (.tuple #[.slice none 0 0, .int .i64 0, .int .i64 3]) ∧ Below w.heap.size w w' :=
  (open_any v l hl hlen w hv).mono fun e w' ⟨hb, h⟩ => by
    rw [hT] at h
    exact ⟨h, hb⟩

set_option maxHeartbeats 8000000 in
set_option maxRecDepth 100000 in
theorem walk_big (w : World) (aa ab : Option Addr) (L1 L2 c1 c2 : Nat) (x y : Int) (h : 600 < L1 + L2) (hh : L1 + L2 ≤ 4611686018427387903) : Calls Try.prog 6 #[.slice aa L1 c1, .int .u8 x, .int .u8 y, .slice ab L2 c2] w fun e w' => e = .returned (.bool true) ∧ Below w.heap.size w w' := by
  have h1 : decide ((600 : Int) < (L1 : Int) + L2) = true := by simp; omega
  have q1 : 0 ≤ (L1 : Int) + L2 := by omega
  have q2 : (L1 : Int) + L2 ≤ 9223372036854775807 := by omega
  go_enter Try.func6, Try.ntmps6
  go_wp2_with fail
  ((with_reducible refine (sane_any _).mono ?_); rintro e w1 ⟨rfl, hb⟩)
  have HW := Lib.hid (below_alloc2 hb)
  have zz : w.heap.size + 2 ≤ w1.heap.size := by have := hb.size; (try simp at this); omega
  clear hb zz
  go_wp2
  go_ret
  exact ⟨rfl, HW.out⟩
set_option maxHeartbeats 8000000 in
set_option maxRecDepth 100000 in
theorem walk_eq (w : World) (aa ab : Option Addr) (L1 L2 c1 c2 : Nat) (X : Nat) (la lb : List Nat) (hla0 : L1 = la.length) (hlb0 : L2 = lb.length) (hva : HasB w (.slice aa L1 c1) la) (hvb : HasB w (.slice ab L2 c2) lb) (hla : ∀ b ∈ la, b < 256) (hlb : ∀ b ∈ lb, b < 256) (hX : X < 256) (h : L1 + L2 ≤ 600) : Calls Try.prog 6 #[.slice aa L1 c1, .int .u8 X, .int .u8 X, .slice ab L2 c2] w fun e w' => e = .returned (.bool true) ∧ Below w.heap.size w w' := by
  have h1 : decide ((600 : Int) < (L1 : Int) + L2) = false := by simp; omega
  have q1 : 0 ≤ (L1 : Int) + L2 := by omega
  have q2 : (L1 : Int) + L2 ≤ 600 := by omega
  have HVA := Lib.hid hva
  have HVB := Lib.hid hvb
  obtain ⟨N, hN⟩ : ∃ N, N = L1 + L2 + 1 := ⟨_, rfl⟩
  obtain ⟨M, hM⟩ : ∃ M, M = L1 + L2 + 2 := ⟨_, rfl⟩
  obtain ⟨T1, hT1⟩ : ∃ T, la ++ [X] ++ lb = T := ⟨_, rfl⟩
  obtain ⟨T3, hT3⟩ : ∃ T, la ++ [X, X] ++ lb = T := ⟨_, rfl⟩
  have n1 : T1.length = N := by rw [← hT1]; simp; omega
  have n3 : T3.length = M := by rw [← hT3]; simp; omega
  have m1 : ∀ b ∈ T1, b < 256 := by rw [← hT1]; exact bytes3 hla (by simp; omega) hlb
  have m3 : ∀ b ∈ T3, b < 256 := by rw [← hT3]; exact bytes3 hla (by simp; omega) hlb
  obtain ⟨S1, hS1⟩ : ∃ S, (adler T1 : Int) = S := ⟨_, rfl⟩
  obtain ⟨S3, hS3⟩ : ∃ S, (adler T3 : Int) = S := ⟨_, rfl⟩
  have ho := open_changed la lb X X hX (by omega) N (by rw [hT1]; omega) (by omega)
  rw [hT1] at ho
  obtain ⟨SB, hSB⟩ : ∃ S, sealB T1 = S := ⟨_, rfl⟩
  obtain ⟨P, hP⟩ : ∃ P, SB.length = P := ⟨_, rfl⟩
  obtain ⟨E, hE⟩ : ∃ E, (enc (N : Int)).length = E := ⟨_, rfl⟩
  obtain ⟨J, hJ⟩ : ∃ J, E + L1 = J := ⟨_, rfl⟩
  rw [hSB, hE, ← hla0, hJ] at ho
  have hE1 : E ≤ 10 := by rw [← hE]; exact enc_len (by unfold I64; omega)
  have hPP : P = E + N + (enc (adler T1 : Int)).length := by rw [← hP, ← hSB]; unfold sealB; rw [List.length_append, List.length_append, n1, hE]
  have hP1 := enc_len (adler_i64 T1)
  have hJP : J < P := by omega
  have hP2 : P ≤ 700 := by omega
  have hJ2 : (E : Int) + L1 = J := by omega
  have p1 : 0 ≤ (E : Int) + L1 := by omega
  have p2 : (E : Int) + L1 ≤ 700 := by omega
  have g1 : decide ((P : Int) ≤ (E : Int) + L1) = false := by simp; omega
  have g2 : decide ((P : Int) ≤ (J : Int)) = false := by simp; omega
  have hJ3 : (J : Int) < P := by omega
  have mS : ∀ b ∈ SB.set J X, b < 256 := fun b hb => by
    rcases List.mem_or_eq_of_mem_set hb with h | h
    · rw [← hSB] at h; unfold sealB at h
      rcases List.mem_append.1 h with h | h
      · rcases List.mem_append.1 h with h | h
        · exact enc_byte _ b h
        · exact m1 b h
      · exact enc_byte _ b h
    · omega
  have hN3 : N ≤ 700 := by omega
  have hM3 : M ≤ 700 := by omega
  rw [if_pos rfl] at ho
  have H_hla0 := Lib.hid hla0
  have H_hlb0 := Lib.hid hlb0
  have H_hN := Lib.hid hN
  have H_hM := Lib.hid hM
  have H_hJ := Lib.hid hJ
  have H_ho := Lib.hid ho
  have H_mS := Lib.hid mS
  have H_m1 := Lib.hid m1
  have H_m3 := Lib.hid m3
  have H_hT1 := Lib.hid hT1
  have H_hT3 := Lib.hid hT3
  have H_n1 := Lib.hid n1
  have H_n3 := Lib.hid n3
  have H_hS1 := Lib.hid hS1
  have H_hS3 := Lib.hid hS3
  have H_hSB := Lib.hid hSB
  have H_hP := Lib.hid hP
  have H_hE := Lib.hid hE
  clear hla0 hlb0 hN hM hJ ho mS m1 m3 hT1 hT3 n1 n3 hS1 hS3 hSB hP hE hva hvb hla hlb hPP hP1
  go_enter Try.func6, Try.ntmps6
  have HW := Lib.hid (Below.refl w.heap.size w)
  go_wp2_with fail
  obtain ⟨wr1, hwr⟩ : ∃ W, W = (((w.alloc (.cells #[.slice aa L1 c1] 42)).alloc (.cells #[.slice ab L2 c2] 42)).alloc (.cells #[.int .u8 (X : Int)] 5)) := ⟨_, rfl⟩
  rw [← hwr]
  have hb : Below w.heap.size w wr1 := by rw [hwr]; exact (Below.alloc (Below.alloc (Below.alloc (Below.refl _ w) (by first | exact Nat.le_refl _ | (simp; omega) | simp) _) (by first | exact Nat.le_refl _ | (simp; omega) | simp) _) (by first | exact Nat.le_refl _ | (simp; omega) | simp) _)
  have zz : w.heap.size + 3 ≤ wr1.heap.size := by rw [hwr]; simp
  replace HW := Lib.hid (below_step HW.out hb)
  have baq0 : wr1.cell? ⟨w.heap.size, 0, none⟩ = some (.slice aa L1 c1) := by rw [hwr]; exact cell_alloc _ (cell_alloc _ (by rw [World.cell?_alloc_at _ _ _ _ (by simp)]; rfl))
  have z0 : w.heap.size < wr1.heap.size := by omega
  have bbq0 : wr1.cell? ⟨w.heap.size + 1, 0, none⟩ = some (.slice ab L2 c2) := by rw [hwr]; exact cell_alloc _ (by rw [World.cell?_alloc_at _ _ _ _ (by simp)]; rfl)
  have z1 : w.heap.size + 1 < wr1.heap.size := by omega
  have bxq0 : wr1.cell? ⟨w.heap.size + 1 + 1, 0, none⟩ = some (.int .u8 (X : Int)) := by rw [hwr]; exact by rw [World.cell?_alloc_at _ _ _ _ (by simp)]; rfl
  have z2 : w.heap.size + 1 + 1 < wr1.heap.size := by omega
  clear hb zz hwr
  ((with_reducible refine (join_s _ _ la lb [X] T1 N H_hT1.out H_n1.out baq0 bbq0 (hasB_keep HVA.out HW.out) (hasB_keep HVB.out HW.out) (hasB_one bxq0) (by omega)).mono ?_); rintro e w2 ⟨r1, d1, rfl, hu, hb⟩)
  replace HW := Lib.hid (below_step HW.out (hb))
  have zz : wr1.heap.size + 0 ≤ w2.heap.size := by have := hb.size; (try simp at this); omega
  replace baq0 : w2.cell? ⟨w.heap.size, 0, none⟩ = some (.slice aa L1 c1) := cel_below hb (baq0)
  replace bbq0 : w2.cell? ⟨w.heap.size + 1, 0, none⟩ = some (.slice ab L2 c2) := cel_below hb (bbq0)
  replace z0 : w.heap.size < w2.heap.size := by omega
  replace z1 : w.heap.size + 1 < w2.heap.size := by omega
  replace z2 : w.heap.size + 1 + 1 < w2.heap.size := by omega
  have HU1 := Lib.hid (hu)
  clear hb zz
  clear hu
  go_wp2_with fail
  obtain ⟨wr3, hwr⟩ : ∃ W, W = (w2.alloc (.cells #[.int .u8 (X : Int)] 5)) := ⟨_, rfl⟩
  rw [← hwr]
  have hb : Below w2.heap.size w2 wr3 := by rw [hwr]; exact (Below.alloc (Below.refl _ w2) (by first | exact Nat.le_refl _ | (simp; omega) | simp) _)
  have zz : w2.heap.size + 1 ≤ wr3.heap.size := by rw [hwr]; simp
  replace HW := Lib.hid (below_step HW.out hb)
  replace baq0 : wr3.cell? ⟨w.heap.size, 0, none⟩ = some (.slice aa L1 c1) := cel_below hb baq0
  replace bbq0 : wr3.cell? ⟨w.heap.size + 1, 0, none⟩ = some (.slice ab L2 c2) := cel_below hb bbq0
  replace z0 : w.heap.size < wr3.heap.size := by omega
  replace z1 : w.heap.size + 1 < wr3.heap.size := by omega
  replace z2 : w.heap.size + 1 + 1 < wr3.heap.size := by omega
  replace HU1 := Lib.hid (hasB_keep HU1.out hb)
  have bxq0 : wr3.cell? ⟨w2.heap.size, 0, none⟩ = some (.int .u8 (X : Int)) := by rw [hwr]; exact by rw [World.cell?_alloc_at _ _ _ _ (by simp)]; rfl
  have z3 : w2.heap.size < wr3.heap.size := by omega
  clear hb zz hwr
  ((with_reducible refine (join_s _ _ la lb [X] T1 N H_hT1.out H_n1.out baq0 bbq0 (hasB_keep HVA.out HW.out) (hasB_keep HVB.out HW.out) (hasB_one bxq0) (by omega)).mono ?_); rintro e w4 ⟨r2, d2, rfl, hu, hb⟩)
  replace HW := Lib.hid (below_step HW.out (hb))
  have zz : wr3.heap.size + 0 ≤ w4.heap.size := by have := hb.size; (try simp at this); omega
  replace baq0 : w4.cell? ⟨w.heap.size, 0, none⟩ = some (.slice aa L1 c1) := cel_below hb (baq0)
  replace bbq0 : w4.cell? ⟨w.heap.size + 1, 0, none⟩ = some (.slice ab L2 c2) := cel_below hb (bbq0)
  replace z0 : w.heap.size < w4.heap.size := by omega
  replace z1 : w.heap.size + 1 < w4.heap.size := by omega
  replace z2 : w.heap.size + 1 + 1 < w4.heap.size := by omega
  replace z3 : w2.heap.size < w4.heap.size := by omega
  replace HU1 := Lib.hid (hasB_keep HU1.out (below_step (Below.refl _ wr3) hb))
  have HU2 := Lib.hid (hu)
  clear hb zz
  clear hu
  go_wp2_with fail
  ((with_reducible refine (sum_s T1 S1 H_hS1.out H_m1.out HU1.out).mono ?_); rintro e w5 ⟨rfl, hb⟩)
  replace HW := Lib.hid (below_step HW.out (hb))
  have zz : w4.heap.size + 0 ≤ w5.heap.size := by have := hb.size; (try simp at this); omega
  replace baq0 : w5.cell? ⟨w.heap.size, 0, none⟩ = some (.slice aa L1 c1) := cel_below hb (baq0)
  replace bbq0 : w5.cell? ⟨w.heap.size + 1, 0, none⟩ = some (.slice ab L2 c2) := cel_below hb (bbq0)
  replace z0 : w.heap.size < w5.heap.size := by omega
  replace z1 : w.heap.size + 1 < w5.heap.size := by omega
  replace z2 : w.heap.size + 1 + 1 < w5.heap.size := by omega
  replace z3 : w2.heap.size < w5.heap.size := by omega
  replace HU1 := Lib.hid (hasB_keep HU1.out (below_step (Below.refl _ w4) hb))
  replace HU2 := Lib.hid (hasB_keep HU2.out (below_step (Below.refl _ w4) hb))
  clear hb zz
  go_wp2_with fail
  ((with_reducible refine (sum_s T1 S1 H_hS1.out H_m1.out HU2.out).mono ?_); rintro e w6 ⟨rfl, hb⟩)
  replace HW := Lib.hid (below_step HW.out (hb))
  have zz : w5.heap.size + 0 ≤ w6.heap.size := by have := hb.size; (try simp at this); omega
  replace baq0 : w6.cell? ⟨w.heap.size, 0, none⟩ = some (.slice aa L1 c1) := cel_below hb (baq0)
  replace bbq0 : w6.cell? ⟨w.heap.size + 1, 0, none⟩ = some (.slice ab L2 c2) := cel_below hb (bbq0)
  replace z0 : w.heap.size < w6.heap.size := by omega
  replace z1 : w.heap.size + 1 < w6.heap.size := by omega
  replace z2 : w.heap.size + 1 + 1 < w6.heap.size := by omega
  replace z3 : w2.heap.size < w6.heap.size := by omega
  replace HU1 := Lib.hid (hasB_keep HU1.out (below_step (Below.refl _ w5) hb))
  replace HU2 := Lib.hid (hasB_keep HU2.out (below_step (Below.refl _ w5) hb))
  clear hb zz
  go_wp2_with fail
  obtain ⟨wr7, hwr⟩ : ∃ W, W = (w6.alloc (.cells #[.int .u8 (X : Int), .int .u8 (X : Int)] 5)) := ⟨_, rfl⟩
  rw [← hwr]
  have hb : Below w6.heap.size w6 wr7 := by rw [hwr]; exact (Below.alloc (Below.refl _ w6) (by first | exact Nat.le_refl _ | (simp; omega) | simp) _)
  have zz : w6.heap.size + 1 ≤ wr7.heap.size := by rw [hwr]; simp
  replace HW := Lib.hid (below_step HW.out hb)
  replace baq0 : wr7.cell? ⟨w.heap.size, 0, none⟩ = some (.slice aa L1 c1) := cel_below hb baq0
  replace bbq0 : wr7.cell? ⟨w.heap.size + 1, 0, none⟩ = some (.slice ab L2 c2) := cel_below hb bbq0
  replace z0 : w.heap.size < wr7.heap.size := by omega
  replace z1 : w.heap.size + 1 < wr7.heap.size := by omega
  replace z2 : w.heap.size + 1 + 1 < wr7.heap.size := by omega
  replace z3 : w2.heap.size < wr7.heap.size := by omega
  replace HU1 := Lib.hid (hasB_keep HU1.out hb)
  replace HU2 := Lib.hid (hasB_keep HU2.out hb)
  have bxq0 : wr7.cell? ⟨w6.heap.size, 0, none⟩ = some (.int .u8 (X : Int)) := by rw [hwr]; exact by rw [World.cell?_alloc_at _ _ _ _ (by simp)]; rfl
  have bxq1 : wr7.cell? ⟨w6.heap.size, 1, none⟩ = some (.int .u8 (X : Int)) := by rw [hwr]; exact by rw [World.cell?_alloc_at _ _ _ _ (by simp)]; rfl
  have z4 : w6.heap.size < wr7.heap.size := by omega
  clear hb zz hwr
  ((with_reducible refine (join_s _ _ la lb [X, X] T3 M H_hT3.out H_n3.out baq0 bbq0 (hasB_keep HVA.out HW.out) (hasB_keep HVB.out HW.out) (hasB_two bxq0 bxq1) (by omega)).mono ?_); rintro e w8 ⟨r3, d3, rfl, hu, hb⟩)
  replace HW := Lib.hid (below_step HW.out (hb))
  have zz : wr7.heap.size + 0 ≤ w8.heap.size := by have := hb.size; (try simp at this); omega
  replace baq0 : w8.cell? ⟨w.heap.size, 0, none⟩ = some (.slice aa L1 c1) := cel_below hb (baq0)
  replace bbq0 : w8.cell? ⟨w.heap.size + 1, 0, none⟩ = some (.slice ab L2 c2) := cel_below hb (bbq0)
  replace z0 : w.heap.size < w8.heap.size := by omega
  replace z1 : w.heap.size + 1 < w8.heap.size := by omega
  replace z2 : w.heap.size + 1 + 1 < w8.heap.size := by omega
  replace z3 : w2.heap.size < w8.heap.size := by omega
  replace z4 : w6.heap.size < w8.heap.size := by omega
  replace HU1 := Lib.hid (hasB_keep HU1.out (below_step (Below.refl _ wr7) hb))
  replace HU2 := Lib.hid (hasB_keep HU2.out (below_step (Below.refl _ wr7) hb))
  have HU3 := Lib.hid (hu)
  clear hb zz
  clear hu
  go_wp2_with fail
  ((with_reducible refine (sum_s T3 S3 H_hS3.out H_m3.out HU3.out).mono ?_); rintro e w9 ⟨rfl, hb⟩)
  replace HW := Lib.hid (below_step HW.out (hb))
  have zz : w8.heap.size + 0 ≤ w9.heap.size := by have := hb.size; (try simp at this); omega
  replace baq0 : w9.cell? ⟨w.heap.size, 0, none⟩ = some (.slice aa L1 c1) := cel_below hb (baq0)
  replace bbq0 : w9.cell? ⟨w.heap.size + 1, 0, none⟩ = some (.slice ab L2 c2) := cel_below hb (bbq0)
  replace z0 : w.heap.size < w9.heap.size := by omega
  replace z1 : w.heap.size + 1 < w9.heap.size := by omega
  replace z2 : w.heap.size + 1 + 1 < w9.heap.size := by omega
  replace z3 : w2.heap.size < w9.heap.size := by omega
  replace z4 : w6.heap.size < w9.heap.size := by omega
  replace HU1 := Lib.hid (hasB_keep HU1.out (below_step (Below.refl _ w8) hb))
  replace HU2 := Lib.hid (hasB_keep HU2.out (below_step (Below.refl _ w8) hb))
  replace HU3 := Lib.hid (hasB_keep HU3.out (below_step (Below.refl _ w8) hb))
  clear hb zz
  go_wp2_with fail
  obtain ⟨wr10, hwr⟩ : ∃ W, W = (w9.alloc (.cells #[.int .u8 (X : Int), .int .u8 (X : Int)] 5)) := ⟨_, rfl⟩
  rw [← hwr]
  have hb : Below w9.heap.size w9 wr10 := by rw [hwr]; exact (Below.alloc (Below.refl _ w9) (by first | exact Nat.le_refl _ | (simp; omega) | simp) _)
  have zz : w9.heap.size + 1 ≤ wr10.heap.size := by rw [hwr]; simp
  replace HW := Lib.hid (below_step HW.out hb)
  replace baq0 : wr10.cell? ⟨w.heap.size, 0, none⟩ = some (.slice aa L1 c1) := cel_below hb baq0
  replace bbq0 : wr10.cell? ⟨w.heap.size + 1, 0, none⟩ = some (.slice ab L2 c2) := cel_below hb bbq0
  replace z0 : w.heap.size < wr10.heap.size := by omega
  replace z1 : w.heap.size + 1 < wr10.heap.size := by omega
  replace z2 : w.heap.size + 1 + 1 < wr10.heap.size := by omega
  replace z3 : w2.heap.size < wr10.heap.size := by omega
  replace z4 : w6.heap.size < wr10.heap.size := by omega
  replace HU1 := Lib.hid (hasB_keep HU1.out hb)
  replace HU2 := Lib.hid (hasB_keep HU2.out hb)
  replace HU3 := Lib.hid (hasB_keep HU3.out hb)
  have bxq0 : wr10.cell? ⟨w9.heap.size, 0, none⟩ = some (.int .u8 (X : Int)) := by rw [hwr]; exact by rw [World.cell?_alloc_at _ _ _ _ (by simp)]; rfl
  have bxq1 : wr10.cell? ⟨w9.heap.size, 1, none⟩ = some (.int .u8 (X : Int)) := by rw [hwr]; exact by rw [World.cell?_alloc_at _ _ _ _ (by simp)]; rfl
  have z5 : w9.heap.size < wr10.heap.size := by omega
  clear hb zz hwr
  ((with_reducible refine (join_s _ _ la lb [X, X] T3 M H_hT3.out H_n3.out baq0 bbq0 (hasB_keep HVA.out HW.out) (hasB_keep HVB.out HW.out) (hasB_two bxq0 bxq1) (by omega)).mono ?_); rintro e w11 ⟨r4, d4, rfl, hu, hb⟩)
  replace HW := Lib.hid (below_step HW.out (hb))
  have zz : wr10.heap.size + 0 ≤ w11.heap.size := by have := hb.size; (try simp at this); omega
  replace baq0 : w11.cell? ⟨w.heap.size, 0, none⟩ = some (.slice aa L1 c1) := cel_below hb (baq0)
  replace bbq0 : w11.cell? ⟨w.heap.size + 1, 0, none⟩ = some (.slice ab L2 c2) := cel_below hb (bbq0)
  replace z0 : w.heap.size < w11.heap.size := by omega
  replace z1 : w.heap.size + 1 < w11.heap.size := by omega
  replace z2 : w.heap.size + 1 + 1 < w11.heap.size := by omega
  replace z3 : w2.heap.size < w11.heap.size := by omega
  replace z4 : w6.heap.size < w11.heap.size := by omega
  replace z5 : w9.heap.size < w11.heap.size := by omega
  replace HU1 := Lib.hid (hasB_keep HU1.out (below_step (Below.refl _ wr10) hb))
  replace HU2 := Lib.hid (hasB_keep HU2.out (below_step (Below.refl _ wr10) hb))
  replace HU3 := Lib.hid (hasB_keep HU3.out (below_step (Below.refl _ wr10) hb))
  have HU4 := Lib.hid (hu)
  clear hb zz
  clear hu
  go_wp2_with fail
  ((with_reducible refine (sum_s T3 S3 H_hS3.out H_m3.out HU4.out).mono ?_); rintro e w12 ⟨rfl, hb⟩)
  replace HW := Lib.hid (below_step HW.out (hb))
  have zz : w11.heap.size + 0 ≤ w12.heap.size := by have := hb.size; (try simp at this); omega
  replace baq0 : w12.cell? ⟨w.heap.size, 0, none⟩ = some (.slice aa L1 c1) := cel_below hb (baq0)
  replace bbq0 : w12.cell? ⟨w.heap.size + 1, 0, none⟩ = some (.slice ab L2 c2) := cel_below hb (bbq0)
  replace z0 : w.heap.size < w12.heap.size := by omega
  replace z1 : w.heap.size + 1 < w12.heap.size := by omega
  replace z2 : w.heap.size + 1 + 1 < w12.heap.size := by omega
  replace z3 : w2.heap.size < w12.heap.size := by omega
  replace z4 : w6.heap.size < w12.heap.size := by omega
  replace z5 : w9.heap.size < w12.heap.size := by omega
  replace HU1 := Lib.hid (hasB_keep HU1.out (below_step (Below.refl _ w11) hb))
  replace HU2 := Lib.hid (hasB_keep HU2.out (below_step (Below.refl _ w11) hb))
  replace HU3 := Lib.hid (hasB_keep HU3.out (below_step (Below.refl _ w11) hb))
  replace HU4 := Lib.hid (hasB_keep HU4.out (below_step (Below.refl _ w11) hb))
  clear hb zz
  go_wp2_with fail
  ((with_reducible refine (seal_p T1 SB P H_hSB.out H_hP.out H_m1.out (by rw [H_n1.out]; omega) HU1.out).mono ?_); rintro e w13 ⟨r5, d5, rfl, hu, hb⟩)
  replace HW := Lib.hid (below_step HW.out (hb))
  have zz : w12.heap.size + 0 ≤ w13.heap.size := by have := hb.size; (try simp at this); omega
  replace baq0 : w13.cell? ⟨w.heap.size, 0, none⟩ = some (.slice aa L1 c1) := cel_below hb (baq0)
  replace bbq0 : w13.cell? ⟨w.heap.size + 1, 0, none⟩ = some (.slice ab L2 c2) := cel_below hb (bbq0)
  replace z0 : w.heap.size < w13.heap.size := by omega
  replace z1 : w.heap.size + 1 < w13.heap.size := by omega
  replace z2 : w.heap.size + 1 + 1 < w13.heap.size := by omega
  replace z3 : w2.heap.size < w13.heap.size := by omega
  replace z4 : w6.heap.size < w13.heap.size := by omega
  replace z5 : w9.heap.size < w13.heap.size := by omega
  replace HU1 := Lib.hid (hasB_keep HU1.out (below_step (Below.refl _ w12) hb))
  replace HU2 := Lib.hid (hasB_keep HU2.out (below_step (Below.refl _ w12) hb))
  replace HU3 := Lib.hid (hasB_keep HU3.out (below_step (Below.refl _ w12) hb))
  replace HU4 := Lib.hid (hasB_keep HU4.out (below_step (Below.refl _ w12) hb))
  have HU5 := Lib.hid (hu)
  clear hb zz
  clear hu
  go_upto_region 8 with fail
  refine wp_region_held_drew (S := fun W => W.cell? ⟨w.heap.size, 0, none⟩ = some (.slice aa L1 c1) ∧ HasB W (.slice r5 P d5) SB) (by kernel_rfl) ?_ (fun hHeld => ?_)
  · (try dsimp only); exact ⟨by first | assumption | go_simp, HU5.out⟩
  replace HW := Lib.hid (below_drews HW.out 1)
  first | (refine wpAnyH_take (i := 0) (oi := ?oi1) (v := ?v1) ?hi1 (by kernel_rfl) (by kernel_rfl) (by kernel_rfl) ?hQ1 (Or.inl ⟨?hw1, ?hy1⟩) (by assumption) ?rest1; (case hi1 => (simp only [List.getElem?_toArray, List.getElem?_cons_zero]; rfl)); (case hQ1 => exact fun _ _ _ h => h); (case hw1 => rfl); (case hy1 => ((intro w hSw); (try dsimp only at hSw); go_simp; (try with_reducible rfl)))) | (refine wpAnyH_take (i := 0) (oi := ?oi2) (v := undef) ?hi2 (by kernel_rfl) (by kernel_rfl) (by kernel_rfl) ?hQ2 (Or.inr ⟨?hw2, rfl⟩) (by assumption) ?rest2; (case hi2 => (simp only [List.getElem?_toArray, List.getElem?_cons_zero]; rfl)); (case hQ2 => exact fun _ _ _ h => h); (case hw2 => rfl))
  (try simp only [Act.put, List.setIfInBounds_toArray, List.set_cons_zero, List.set_cons_succ])
  first | (refine wpAnyH_take (i := 1) (oi := ?oi3) (v := ?v3) ?hi3 (by kernel_rfl) (by kernel_rfl) (by kernel_rfl) ?hQ3 (Or.inl ⟨?hw3, ?hy3⟩) (by assumption) ?rest3; (case hi3 => (simp only [List.getElem?_toArray, List.getElem?_cons_succ, List.getElem?_cons_zero]; rfl)); (case hQ3 => exact fun _ _ _ h => h); (case hw3 => rfl); (case hy3 => ((intro w hSw); (try dsimp only at hSw); go_simp; (try with_reducible rfl)))) | (refine wpAnyH_take (i := 1) (oi := ?oi4) (v := undef) ?hi4 (by kernel_rfl) (by kernel_rfl) (by kernel_rfl) ?hQ4 (Or.inr ⟨?hw4, rfl⟩) (by assumption) ?rest4; (case hi4 => (simp only [List.getElem?_toArray, List.getElem?_cons_succ, List.getElem?_cons_zero]; rfl)); (case hQ4 => exact fun _ _ _ h => h); (case hw4 => rfl))
  (try simp only [Act.put, List.setIfInBounds_toArray, List.set_cons_zero, List.set_cons_succ])
  first | (refine wpAnyH_take (i := 4) (oi := ?oi5) (v := ?v5) ?hi5 (by kernel_rfl) (by kernel_rfl) (by kernel_rfl) ?hQ5 (Or.inl ⟨?hw5, ?hy5⟩) (by assumption) ?rest5; (case hi5 => (simp only [List.getElem?_toArray, List.getElem?_cons_succ, List.getElem?_cons_zero]; rfl)); (case hQ5 => exact fun _ _ _ h => h); (case hw5 => rfl); (case hy5 => ((intro w hSw); (try dsimp only at hSw); go_simp; (try with_reducible rfl)))) | (refine wpAnyH_take (i := 4) (oi := ?oi6) (v := undef) ?hi6 (by kernel_rfl) (by kernel_rfl) (by kernel_rfl) ?hQ6 (Or.inr ⟨?hw6, rfl⟩) (by assumption) ?rest6; (case hi6 => (simp only [List.getElem?_toArray, List.getElem?_cons_succ, List.getElem?_cons_zero]; rfl)); (case hQ6 => exact fun _ _ _ h => h); (case hw6 => rfl))
  (try simp only [Act.put, List.setIfInBounds_toArray, List.set_cons_zero, List.set_cons_succ])
  first | (refine wpAnyH_take (i := 5) (oi := ?oi7) (v := ?v7) ?hi7 (by kernel_rfl) (by kernel_rfl) (by kernel_rfl) ?hQ7 (Or.inl ⟨?hw7, ?hy7⟩) (by assumption) ?rest7; (case hi7 => (simp only [List.getElem?_toArray, List.getElem?_cons_succ, List.getElem?_cons_zero]; rfl)); (case hQ7 => exact fun _ _ _ h => h); (case hw7 => rfl); (case hy7 => ((intro w hSw); (try dsimp only at hSw); go_simp; (try with_reducible rfl)))) | (refine wpAnyH_take (i := 5) (oi := ?oi8) (v := undef) ?hi8 (by kernel_rfl) (by kernel_rfl) (by kernel_rfl) ?hQ8 (Or.inr ⟨?hw8, rfl⟩) (by assumption) ?rest8; (case hi8 => (simp only [List.getElem?_toArray, List.getElem?_cons_succ, List.getElem?_cons_zero]; rfl)); (case hQ8 => exact fun _ _ _ h => h); (case hw8 => rfl))
  (try simp only [Act.put, List.setIfInBounds_toArray, List.set_cons_zero, List.set_cons_succ])
  refine wpAnyH_ready (rs := [2]) (by kernel_rfl) (by simp) ?_
  refine AllReadyH.cons (o := ?oi9) ?hi9 (fun K hK => ?rest9) AllReadyH.nil
  (case hi9 => (simp only [List.getElem?_toArray, List.getElem?_cons_succ, List.getElem?_cons_zero]; rfl))
  obtain ⟨s0, t0⟩ := hHeld
  go_simp
  ((with_reducible refine (put_p _ E H_hE.out (by unfold I64; omega)).mono ?_); rintro e wx1 ⟨r6, d6, rfl, hb⟩)
  replace HW := Lib.hid (below_step HW.out hb)
  refine hK.out _ _ ?_ (fun hHeld => ?_)
  · (try dsimp only); exact ⟨cel_below hb s0, hasB_keep t0 hb⟩
  clear hK K s0 t0 hb
  (try simp only [Act.put, List.setIfInBounds_toArray, List.set_cons_zero, List.set_cons_succ])
  first | (refine wpAnyH_take (i := 3) (oi := ?oi10) (v := ?v10) ?hi10 (by kernel_rfl) (by kernel_rfl) (by kernel_rfl) ?hQ10 (Or.inl ⟨?hw10, ?hy10⟩) (by assumption) ?rest10; (case hi10 => (simp only [List.getElem?_toArray, List.getElem?_cons_succ, List.getElem?_cons_zero]; rfl)); (case hQ10 => exact fun _ _ _ h => h); (case hw10 => rfl); (case hy10 => ((intro w hSw); (try dsimp only at hSw); go_simp; (try with_reducible rfl)))) | (refine wpAnyH_take (i := 3) (oi := ?oi11) (v := undef) ?hi11 (by kernel_rfl) (by kernel_rfl) (by kernel_rfl) ?hQ11 (Or.inr ⟨?hw11, rfl⟩) (by assumption) ?rest11; (case hi11 => (simp only [List.getElem?_toArray, List.getElem?_cons_succ, List.getElem?_cons_zero]; rfl)); (case hQ11 => exact fun _ _ _ h => h); (case hw11 => rfl))
  (try simp only [Act.put, List.setIfInBounds_toArray, List.set_cons_zero, List.set_cons_succ])
  first | (refine wpAnyH_take (i := 6) (oi := ?oi12) (v := ?v12) ?hi12 (by kernel_rfl) (by kernel_rfl) (by kernel_rfl) ?hQ12 (Or.inl ⟨?hw12, ?hy12⟩) (by assumption) ?rest12; (case hi12 => (simp only [List.getElem?_toArray, List.getElem?_cons_succ, List.getElem?_cons_zero]; rfl)); (case hQ12 => exact fun _ _ _ h => h); (case hw12 => rfl); (case hy12 => ((intro w hSw); (try dsimp only at hSw); go_simp; (try with_reducible rfl)))) | (refine wpAnyH_take (i := 6) (oi := ?oi13) (v := undef) ?hi13 (by kernel_rfl) (by kernel_rfl) (by kernel_rfl) ?hQ13 (Or.inr ⟨?hw13, rfl⟩) (by assumption) ?rest13; (case hi13 => (simp only [List.getElem?_toArray, List.getElem?_cons_succ, List.getElem?_cons_zero]; rfl)); (case hQ13 => exact fun _ _ _ h => h); (case hw13 => rfl))
  (try simp only [Act.put, List.setIfInBounds_toArray, List.set_cons_zero, List.set_cons_succ])
  first | (refine wpAnyH_take (i := 7) (oi := ?oi14) (v := ?v14) ?hi14 (by kernel_rfl) (by kernel_rfl) (by kernel_rfl) ?hQ14 (Or.inl ⟨?hw14, ?hy14⟩) (by assumption) ?rest14; (case hi14 => (simp only [List.getElem?_toArray, List.getElem?_cons_succ, List.getElem?_cons_zero]; rfl)); (case hQ14 => exact fun _ _ _ h => h); (case hw14 => rfl); (case hy14 => ((intro w hSw); (try dsimp only at hSw); go_simp; (try with_reducible rfl)))) | (refine wpAnyH_take (i := 7) (oi := ?oi15) (v := undef) ?hi15 (by kernel_rfl) (by kernel_rfl) (by kernel_rfl) ?hQ15 (Or.inr ⟨?hw15, rfl⟩) (by assumption) ?rest15; (case hi15 => (simp only [List.getElem?_toArray, List.getElem?_cons_succ, List.getElem?_cons_zero]; rfl)); (case hQ15 => exact fun _ _ _ h => h); (case hw15 => rfl))
  (try simp only [Act.put, List.setIfInBounds_toArray, List.set_cons_zero, List.set_cons_succ])
  refine wpAnyH_done (by kernel_rfl) ?_ _
  obtain ⟨s0, t0⟩ := hHeld
  have HU6 := Lib.hid t0
  clear t0
  try rw [hJ2]
  go_wp2_with (first
    | (at_builtin; refine wpList_append_b _ rfl _ _ rfl wx1.heap.size _ [] rfl (own_empty _) _ SB rfl (hasB_keep HU6.out (below_new1 _ _)) (by have := H_hP.out; simp; omega) (by simp) ?_; intro v7 w7 ho7 hb7; obtain ⟨g, c7, rfl, c71, c72, ⟨y7, rc⟩, rf, hst⟩ := own_store (J := J) (show OwnB w7 wx1.heap.size v7 SB from ho7) H_hP.out (by omega); replace HW := Lib.hid (below_step HW.out ((below_new1 _ _).trans hb7)); have HST := Lib.hid hst; clear hb7 ho7 hst; have c73 : w.heap.size ≤ g := by have := World.block_lt_of_cell? wx1 _ s0; dsimp only at this; omega)
    | fail)
  ((with_reducible refine (open_p (SB.set J X) _ _ H_mS.out (by rw [List.length_set, H_hP.out]; omega) H_ho.out (hasB_of_owns (HST.out X))).mono ?_); rintro e w8x ⟨r8, rfl, hb⟩)
  replace HW := Lib.hid (below_step (HW.out.setCell (by dsimp only; omega) _) hb)
  clear hb
  go_wp2_with fail
  ((with_reducible refine (sane_any _).mono ?_); rintro e w9x ⟨rfl, hb⟩)
  replace HW := Lib.hid (below_step HW.out hb)
  clear hb
  go_wp2
  go_ret
  exact ⟨rfl, HW.out⟩

set_option maxHeartbeats 8000000 in
set_option maxRecDepth 100000 in
theorem walk_ne (w : World) (aa ab : Option Addr) (L1 L2 c1 c2 : Nat) (X Y : Nat) (la lb : List Nat) (hla0 : L1 = la.length) (hlb0 : L2 = lb.length) (hva : HasB w (.slice aa L1 c1) la) (hvb : HasB w (.slice ab L2 c2) lb) (hla : ∀ b ∈ la, b < 256) (hlb : ∀ b ∈ lb, b < 256) (hX : X < 256) (hY : Y < 256) (hXY : ¬ X = Y) (h : L1 + L2 ≤ 600) : Calls Try.prog 6 #[.slice aa L1 c1, .int .u8 X, .int .u8 Y, .slice ab L2 c2] w fun e w' => e = .returned (.bool true) ∧ Below w.heap.size w w' := by
  have h1 : decide ((600 : Int) < (L1 : Int) + L2) = false := by simp; omega
  have q1 : 0 ≤ (L1 : Int) + L2 := by omega
  have q2 : (L1 : Int) + L2 ≤ 600 := by omega
  have HVA := Lib.hid hva
  have HVB := Lib.hid hvb
  obtain ⟨N, hN⟩ : ∃ N, N = L1 + L2 + 1 := ⟨_, rfl⟩
  obtain ⟨M, hM⟩ : ∃ M, M = L1 + L2 + 2 := ⟨_, rfl⟩
  obtain ⟨T1, hT1⟩ : ∃ T, la ++ [X] ++ lb = T := ⟨_, rfl⟩
  obtain ⟨T2, hT2⟩ : ∃ T, la ++ [Y] ++ lb = T := ⟨_, rfl⟩
  obtain ⟨T3, hT3⟩ : ∃ T, la ++ [X, Y] ++ lb = T := ⟨_, rfl⟩
  obtain ⟨T4, hT4⟩ : ∃ T, la ++ [Y, X] ++ lb = T := ⟨_, rfl⟩
  have n1 : T1.length = N := by rw [← hT1]; simp; omega
  have n2 : T2.length = N := by rw [← hT2]; simp; omega
  have n3 : T3.length = M := by rw [← hT3]; simp; omega
  have n4 : T4.length = M := by rw [← hT4]; simp; omega
  have m1 : ∀ b ∈ T1, b < 256 := by rw [← hT1]; exact bytes3 hla (by simp; omega) hlb
  have m2 : ∀ b ∈ T2, b < 256 := by rw [← hT2]; exact bytes3 hla (by simp; omega) hlb
  have m3 : ∀ b ∈ T3, b < 256 := by rw [← hT3]; exact bytes3 hla (by simp; omega) hlb
  have m4 : ∀ b ∈ T4, b < 256 := by rw [← hT4]; exact bytes3 hla (by simp; omega) hlb
  obtain ⟨S1, hS1⟩ : ∃ S, (adler T1 : Int) = S := ⟨_, rfl⟩
  obtain ⟨S3, hS3⟩ : ∃ S, (adler T3 : Int) = S := ⟨_, rfl⟩
  obtain ⟨S2, hS2⟩ : ∃ S, (adler T2 : Int) = S := ⟨_, rfl⟩
  obtain ⟨S4, hS4⟩ : ∃ S, (adler T4 : Int) = S := ⟨_, rfl⟩
  have e12 : S1 ≠ S2 := fun h => hXY ((adler_one la lb X Y hX hY).1 (by rw [hT1, hT2]; omega))
  have e34 : S3 ≠ S4 := fun h => hXY ((adler_two la lb X Y hX hY).1 (by rw [hT3, hT4]; omega))
  have f1 : (S1 == S2) = false := by simp [e12]
  have f2 : decide (S1 = S2) = false := by simp [e12]
  have f3 : (S3 == S4) = false := by simp [e34]
  have f4 : decide (S3 = S4) = false := by simp [e34]
  have f5 : ((X : Int) == (Y : Int)) = false := by simp; omega
  have f6 : decide ((X : Int) = (Y : Int)) = false := by simp; omega
  have ho := open_changed la lb X Y hX (by omega) N (by rw [hT1]; omega) (by omega)
  rw [hT1] at ho
  obtain ⟨SB, hSB⟩ : ∃ S, sealB T1 = S := ⟨_, rfl⟩
  obtain ⟨P, hP⟩ : ∃ P, SB.length = P := ⟨_, rfl⟩
  obtain ⟨E, hE⟩ : ∃ E, (enc (N : Int)).length = E := ⟨_, rfl⟩
  obtain ⟨J, hJ⟩ : ∃ J, E + L1 = J := ⟨_, rfl⟩
  rw [hSB, hE, ← hla0, hJ] at ho
  have hE1 : E ≤ 10 := by rw [← hE]; exact enc_len (by unfold I64; omega)
  have hPP : P = E + N + (enc (adler T1 : Int)).length := by rw [← hP, ← hSB]; unfold sealB; rw [List.length_append, List.length_append, n1, hE]
  have hP1 := enc_len (adler_i64 T1)
  have hJP : J < P := by omega
  have hP2 : P ≤ 700 := by omega
  have hJ2 : (E : Int) + L1 = J := by omega
  have p1 : 0 ≤ (E : Int) + L1 := by omega
  have p2 : (E : Int) + L1 ≤ 700 := by omega
  have g1 : decide ((P : Int) ≤ (E : Int) + L1) = false := by simp; omega
  have g2 : decide ((P : Int) ≤ (J : Int)) = false := by simp; omega
  have hJ3 : (J : Int) < P := by omega
  have mS : ∀ b ∈ SB.set J Y, b < 256 := fun b hb => by
    rcases List.mem_or_eq_of_mem_set hb with h | h
    · rw [← hSB] at h; unfold sealB at h
      rcases List.mem_append.1 h with h | h
      · rcases List.mem_append.1 h with h | h
        · exact enc_byte _ b h
        · exact m1 b h
      · exact enc_byte _ b h
    · omega
  have hN3 : N ≤ 700 := by omega
  have hM3 : M ≤ 700 := by omega
  rw [if_neg hXY] at ho
  have H_hla0 := Lib.hid hla0
  have H_hlb0 := Lib.hid hlb0
  have H_hN := Lib.hid hN
  have H_hM := Lib.hid hM
  have H_hJ := Lib.hid hJ
  have H_ho := Lib.hid ho
  have H_mS := Lib.hid mS
  have H_m1 := Lib.hid m1
  have H_m3 := Lib.hid m3
  have H_hT1 := Lib.hid hT1
  have H_hT3 := Lib.hid hT3
  have H_n1 := Lib.hid n1
  have H_n3 := Lib.hid n3
  have H_hS1 := Lib.hid hS1
  have H_hS3 := Lib.hid hS3
  have H_hSB := Lib.hid hSB
  have H_hP := Lib.hid hP
  have H_hE := Lib.hid hE
  have H_m2 := Lib.hid m2
  have H_m4 := Lib.hid m4
  have H_hT2 := Lib.hid hT2
  have H_hT4 := Lib.hid hT4
  have H_n2 := Lib.hid n2
  have H_n4 := Lib.hid n4
  have H_hS2 := Lib.hid hS2
  have H_hS4 := Lib.hid hS4
  clear hla0 hlb0 hN hM hJ ho mS m1 m3 hT1 hT3 n1 n3 hS1 hS3 hSB hP hE m2 m4 hT2 hT4 n2 n4 hS2 hS4 hva hvb hla hlb hPP hP1
  go_enter Try.func6, Try.ntmps6
  have HW := Lib.hid (Below.refl w.heap.size w)
  go_wp2_with fail
  obtain ⟨wr1, hwr⟩ : ∃ W, W = (((w.alloc (.cells #[.slice aa L1 c1] 42)).alloc (.cells #[.slice ab L2 c2] 42)).alloc (.cells #[.int .u8 (X : Int)] 5)) := ⟨_, rfl⟩
  rw [← hwr]
  have hb : Below w.heap.size w wr1 := by rw [hwr]; exact (Below.alloc (Below.alloc (Below.alloc (Below.refl _ w) (by first | exact Nat.le_refl _ | (simp; omega) | simp) _) (by first | exact Nat.le_refl _ | (simp; omega) | simp) _) (by first | exact Nat.le_refl _ | (simp; omega) | simp) _)
  have zz : w.heap.size + 3 ≤ wr1.heap.size := by rw [hwr]; simp
  replace HW := Lib.hid (below_step HW.out hb)
  have baq0 : wr1.cell? ⟨w.heap.size, 0, none⟩ = some (.slice aa L1 c1) := by rw [hwr]; exact cell_alloc _ (cell_alloc _ (by rw [World.cell?_alloc_at _ _ _ _ (by simp)]; rfl))
  have z0 : w.heap.size < wr1.heap.size := by omega
  have bbq0 : wr1.cell? ⟨w.heap.size + 1, 0, none⟩ = some (.slice ab L2 c2) := by rw [hwr]; exact cell_alloc _ (by rw [World.cell?_alloc_at _ _ _ _ (by simp)]; rfl)
  have z1 : w.heap.size + 1 < wr1.heap.size := by omega
  have bxq0 : wr1.cell? ⟨w.heap.size + 1 + 1, 0, none⟩ = some (.int .u8 (X : Int)) := by rw [hwr]; exact by rw [World.cell?_alloc_at _ _ _ _ (by simp)]; rfl
  have z2 : w.heap.size + 1 + 1 < wr1.heap.size := by omega
  clear hb zz hwr
  ((with_reducible refine (join_s _ _ la lb [X] T1 N H_hT1.out H_n1.out baq0 bbq0 (hasB_keep HVA.out HW.out) (hasB_keep HVB.out HW.out) (hasB_one bxq0) (by omega)).mono ?_); rintro e w2 ⟨r1, d1, rfl, hu, hb⟩)
  replace HW := Lib.hid (below_step HW.out (hb))
  have zz : wr1.heap.size + 0 ≤ w2.heap.size := by have := hb.size; (try simp at this); omega
  replace baq0 : w2.cell? ⟨w.heap.size, 0, none⟩ = some (.slice aa L1 c1) := cel_below hb (baq0)
  replace bbq0 : w2.cell? ⟨w.heap.size + 1, 0, none⟩ = some (.slice ab L2 c2) := cel_below hb (bbq0)
  replace z0 : w.heap.size < w2.heap.size := by omega
  replace z1 : w.heap.size + 1 < w2.heap.size := by omega
  replace z2 : w.heap.size + 1 + 1 < w2.heap.size := by omega
  have HU1 := Lib.hid (hu)
  clear hb zz
  clear hu
  go_wp2_with fail
  obtain ⟨wr3, hwr⟩ : ∃ W, W = (w2.alloc (.cells #[.int .u8 (Y : Int)] 5)) := ⟨_, rfl⟩
  rw [← hwr]
  have hb : Below w2.heap.size w2 wr3 := by rw [hwr]; exact (Below.alloc (Below.refl _ w2) (by first | exact Nat.le_refl _ | (simp; omega) | simp) _)
  have zz : w2.heap.size + 1 ≤ wr3.heap.size := by rw [hwr]; simp
  replace HW := Lib.hid (below_step HW.out hb)
  replace baq0 : wr3.cell? ⟨w.heap.size, 0, none⟩ = some (.slice aa L1 c1) := cel_below hb baq0
  replace bbq0 : wr3.cell? ⟨w.heap.size + 1, 0, none⟩ = some (.slice ab L2 c2) := cel_below hb bbq0
  replace z0 : w.heap.size < wr3.heap.size := by omega
  replace z1 : w.heap.size + 1 < wr3.heap.size := by omega
  replace z2 : w.heap.size + 1 + 1 < wr3.heap.size := by omega
  replace HU1 := Lib.hid (hasB_keep HU1.out hb)
  have bxq0 : wr3.cell? ⟨w2.heap.size, 0, none⟩ = some (.int .u8 (Y : Int)) := by rw [hwr]; exact by rw [World.cell?_alloc_at _ _ _ _ (by simp)]; rfl
  have z3 : w2.heap.size < wr3.heap.size := by omega
  clear hb zz hwr
  ((with_reducible refine (join_s _ _ la lb [Y] T2 N H_hT2.out H_n2.out baq0 bbq0 (hasB_keep HVA.out HW.out) (hasB_keep HVB.out HW.out) (hasB_one bxq0) (by omega)).mono ?_); rintro e w4 ⟨r2, d2, rfl, hu, hb⟩)
  replace HW := Lib.hid (below_step HW.out (hb))
  have zz : wr3.heap.size + 0 ≤ w4.heap.size := by have := hb.size; (try simp at this); omega
  replace baq0 : w4.cell? ⟨w.heap.size, 0, none⟩ = some (.slice aa L1 c1) := cel_below hb (baq0)
  replace bbq0 : w4.cell? ⟨w.heap.size + 1, 0, none⟩ = some (.slice ab L2 c2) := cel_below hb (bbq0)
  replace z0 : w.heap.size < w4.heap.size := by omega
  replace z1 : w.heap.size + 1 < w4.heap.size := by omega
  replace z2 : w.heap.size + 1 + 1 < w4.heap.size := by omega
  replace z3 : w2.heap.size < w4.heap.size := by omega
  replace HU1 := Lib.hid (hasB_keep HU1.out (below_step (Below.refl _ wr3) hb))
  have HU2 := Lib.hid (hu)
  clear hb zz
  clear hu
  go_wp2_with fail
  ((with_reducible refine (sum_s T1 S1 H_hS1.out H_m1.out HU1.out).mono ?_); rintro e w5 ⟨rfl, hb⟩)
  replace HW := Lib.hid (below_step HW.out (hb))
  have zz : w4.heap.size + 0 ≤ w5.heap.size := by have := hb.size; (try simp at this); omega
  replace baq0 : w5.cell? ⟨w.heap.size, 0, none⟩ = some (.slice aa L1 c1) := cel_below hb (baq0)
  replace bbq0 : w5.cell? ⟨w.heap.size + 1, 0, none⟩ = some (.slice ab L2 c2) := cel_below hb (bbq0)
  replace z0 : w.heap.size < w5.heap.size := by omega
  replace z1 : w.heap.size + 1 < w5.heap.size := by omega
  replace z2 : w.heap.size + 1 + 1 < w5.heap.size := by omega
  replace z3 : w2.heap.size < w5.heap.size := by omega
  replace HU1 := Lib.hid (hasB_keep HU1.out (below_step (Below.refl _ w4) hb))
  replace HU2 := Lib.hid (hasB_keep HU2.out (below_step (Below.refl _ w4) hb))
  clear hb zz
  go_wp2_with fail
  ((with_reducible refine (sum_s T2 S2 H_hS2.out H_m2.out HU2.out).mono ?_); rintro e w6 ⟨rfl, hb⟩)
  replace HW := Lib.hid (below_step HW.out (hb))
  have zz : w5.heap.size + 0 ≤ w6.heap.size := by have := hb.size; (try simp at this); omega
  replace baq0 : w6.cell? ⟨w.heap.size, 0, none⟩ = some (.slice aa L1 c1) := cel_below hb (baq0)
  replace bbq0 : w6.cell? ⟨w.heap.size + 1, 0, none⟩ = some (.slice ab L2 c2) := cel_below hb (bbq0)
  replace z0 : w.heap.size < w6.heap.size := by omega
  replace z1 : w.heap.size + 1 < w6.heap.size := by omega
  replace z2 : w.heap.size + 1 + 1 < w6.heap.size := by omega
  replace z3 : w2.heap.size < w6.heap.size := by omega
  replace HU1 := Lib.hid (hasB_keep HU1.out (below_step (Below.refl _ w5) hb))
  replace HU2 := Lib.hid (hasB_keep HU2.out (below_step (Below.refl _ w5) hb))
  clear hb zz
  go_wp2_with fail
  obtain ⟨wr7, hwr⟩ : ∃ W, W = (w6.alloc (.cells #[.int .u8 (X : Int), .int .u8 (Y : Int)] 5)) := ⟨_, rfl⟩
  rw [← hwr]
  have hb : Below w6.heap.size w6 wr7 := by rw [hwr]; exact (Below.alloc (Below.refl _ w6) (by first | exact Nat.le_refl _ | (simp; omega) | simp) _)
  have zz : w6.heap.size + 1 ≤ wr7.heap.size := by rw [hwr]; simp
  replace HW := Lib.hid (below_step HW.out hb)
  replace baq0 : wr7.cell? ⟨w.heap.size, 0, none⟩ = some (.slice aa L1 c1) := cel_below hb baq0
  replace bbq0 : wr7.cell? ⟨w.heap.size + 1, 0, none⟩ = some (.slice ab L2 c2) := cel_below hb bbq0
  replace z0 : w.heap.size < wr7.heap.size := by omega
  replace z1 : w.heap.size + 1 < wr7.heap.size := by omega
  replace z2 : w.heap.size + 1 + 1 < wr7.heap.size := by omega
  replace z3 : w2.heap.size < wr7.heap.size := by omega
  replace HU1 := Lib.hid (hasB_keep HU1.out hb)
  replace HU2 := Lib.hid (hasB_keep HU2.out hb)
  have bxq0 : wr7.cell? ⟨w6.heap.size, 0, none⟩ = some (.int .u8 (X : Int)) := by rw [hwr]; exact by rw [World.cell?_alloc_at _ _ _ _ (by simp)]; rfl
  have bxq1 : wr7.cell? ⟨w6.heap.size, 1, none⟩ = some (.int .u8 (Y : Int)) := by rw [hwr]; exact by rw [World.cell?_alloc_at _ _ _ _ (by simp)]; rfl
  have z4 : w6.heap.size < wr7.heap.size := by omega
  clear hb zz hwr
  ((with_reducible refine (join_s _ _ la lb [X, Y] T3 M H_hT3.out H_n3.out baq0 bbq0 (hasB_keep HVA.out HW.out) (hasB_keep HVB.out HW.out) (hasB_two bxq0 bxq1) (by omega)).mono ?_); rintro e w8 ⟨r3, d3, rfl, hu, hb⟩)
  replace HW := Lib.hid (below_step HW.out (hb))
  have zz : wr7.heap.size + 0 ≤ w8.heap.size := by have := hb.size; (try simp at this); omega
  replace baq0 : w8.cell? ⟨w.heap.size, 0, none⟩ = some (.slice aa L1 c1) := cel_below hb (baq0)
  replace bbq0 : w8.cell? ⟨w.heap.size + 1, 0, none⟩ = some (.slice ab L2 c2) := cel_below hb (bbq0)
  replace z0 : w.heap.size < w8.heap.size := by omega
  replace z1 : w.heap.size + 1 < w8.heap.size := by omega
  replace z2 : w.heap.size + 1 + 1 < w8.heap.size := by omega
  replace z3 : w2.heap.size < w8.heap.size := by omega
  replace z4 : w6.heap.size < w8.heap.size := by omega
  replace HU1 := Lib.hid (hasB_keep HU1.out (below_step (Below.refl _ wr7) hb))
  replace HU2 := Lib.hid (hasB_keep HU2.out (below_step (Below.refl _ wr7) hb))
  have HU3 := Lib.hid (hu)
  clear hb zz
  clear hu
  go_wp2_with fail
  ((with_reducible refine (sum_s T3 S3 H_hS3.out H_m3.out HU3.out).mono ?_); rintro e w9 ⟨rfl, hb⟩)
  replace HW := Lib.hid (below_step HW.out (hb))
  have zz : w8.heap.size + 0 ≤ w9.heap.size := by have := hb.size; (try simp at this); omega
  replace baq0 : w9.cell? ⟨w.heap.size, 0, none⟩ = some (.slice aa L1 c1) := cel_below hb (baq0)
  replace bbq0 : w9.cell? ⟨w.heap.size + 1, 0, none⟩ = some (.slice ab L2 c2) := cel_below hb (bbq0)
  replace z0 : w.heap.size < w9.heap.size := by omega
  replace z1 : w.heap.size + 1 < w9.heap.size := by omega
  replace z2 : w.heap.size + 1 + 1 < w9.heap.size := by omega
  replace z3 : w2.heap.size < w9.heap.size := by omega
  replace z4 : w6.heap.size < w9.heap.size := by omega
  replace HU1 := Lib.hid (hasB_keep HU1.out (below_step (Below.refl _ w8) hb))
  replace HU2 := Lib.hid (hasB_keep HU2.out (below_step (Below.refl _ w8) hb))
  replace HU3 := Lib.hid (hasB_keep HU3.out (below_step (Below.refl _ w8) hb))
  clear hb zz
  go_wp2_with fail
  obtain ⟨wr10, hwr⟩ : ∃ W, W = (w9.alloc (.cells #[.int .u8 (Y : Int), .int .u8 (X : Int)] 5)) := ⟨_, rfl⟩
  rw [← hwr]
  have hb : Below w9.heap.size w9 wr10 := by rw [hwr]; exact (Below.alloc (Below.refl _ w9) (by first | exact Nat.le_refl _ | (simp; omega) | simp) _)
  have zz : w9.heap.size + 1 ≤ wr10.heap.size := by rw [hwr]; simp
  replace HW := Lib.hid (below_step HW.out hb)
  replace baq0 : wr10.cell? ⟨w.heap.size, 0, none⟩ = some (.slice aa L1 c1) := cel_below hb baq0
  replace bbq0 : wr10.cell? ⟨w.heap.size + 1, 0, none⟩ = some (.slice ab L2 c2) := cel_below hb bbq0
  replace z0 : w.heap.size < wr10.heap.size := by omega
  replace z1 : w.heap.size + 1 < wr10.heap.size := by omega
  replace z2 : w.heap.size + 1 + 1 < wr10.heap.size := by omega
  replace z3 : w2.heap.size < wr10.heap.size := by omega
  replace z4 : w6.heap.size < wr10.heap.size := by omega
  replace HU1 := Lib.hid (hasB_keep HU1.out hb)
  replace HU2 := Lib.hid (hasB_keep HU2.out hb)
  replace HU3 := Lib.hid (hasB_keep HU3.out hb)
  have bxq0 : wr10.cell? ⟨w9.heap.size, 0, none⟩ = some (.int .u8 (Y : Int)) := by rw [hwr]; exact by rw [World.cell?_alloc_at _ _ _ _ (by simp)]; rfl
  have bxq1 : wr10.cell? ⟨w9.heap.size, 1, none⟩ = some (.int .u8 (X : Int)) := by rw [hwr]; exact by rw [World.cell?_alloc_at _ _ _ _ (by simp)]; rfl
  have z5 : w9.heap.size < wr10.heap.size := by omega
  clear hb zz hwr
  ((with_reducible refine (join_s _ _ la lb [Y, X] T4 M H_hT4.out H_n4.out baq0 bbq0 (hasB_keep HVA.out HW.out) (hasB_keep HVB.out HW.out) (hasB_two bxq0 bxq1) (by omega)).mono ?_); rintro e w11 ⟨r4, d4, rfl, hu, hb⟩)
  replace HW := Lib.hid (below_step HW.out (hb))
  have zz : wr10.heap.size + 0 ≤ w11.heap.size := by have := hb.size; (try simp at this); omega
  replace baq0 : w11.cell? ⟨w.heap.size, 0, none⟩ = some (.slice aa L1 c1) := cel_below hb (baq0)
  replace bbq0 : w11.cell? ⟨w.heap.size + 1, 0, none⟩ = some (.slice ab L2 c2) := cel_below hb (bbq0)
  replace z0 : w.heap.size < w11.heap.size := by omega
  replace z1 : w.heap.size + 1 < w11.heap.size := by omega
  replace z2 : w.heap.size + 1 + 1 < w11.heap.size := by omega
  replace z3 : w2.heap.size < w11.heap.size := by omega
  replace z4 : w6.heap.size < w11.heap.size := by omega
  replace z5 : w9.heap.size < w11.heap.size := by omega
  replace HU1 := Lib.hid (hasB_keep HU1.out (below_step (Below.refl _ wr10) hb))
  replace HU2 := Lib.hid (hasB_keep HU2.out (below_step (Below.refl _ wr10) hb))
  replace HU3 := Lib.hid (hasB_keep HU3.out (below_step (Below.refl _ wr10) hb))
  have HU4 := Lib.hid (hu)
  clear hb zz
  clear hu
  go_wp2_with fail
  ((with_reducible refine (sum_s T4 S4 H_hS4.out H_m4.out HU4.out).mono ?_); rintro e w12 ⟨rfl, hb⟩)
  replace HW := Lib.hid (below_step HW.out (hb))
  have zz : w11.heap.size + 0 ≤ w12.heap.size := by have := hb.size; (try simp at this); omega
  replace baq0 : w12.cell? ⟨w.heap.size, 0, none⟩ = some (.slice aa L1 c1) := cel_below hb (baq0)
  replace bbq0 : w12.cell? ⟨w.heap.size + 1, 0, none⟩ = some (.slice ab L2 c2) := cel_below hb (bbq0)
  replace z0 : w.heap.size < w12.heap.size := by omega
  replace z1 : w.heap.size + 1 < w12.heap.size := by omega
  replace z2 : w.heap.size + 1 + 1 < w12.heap.size := by omega
  replace z3 : w2.heap.size < w12.heap.size := by omega
  replace z4 : w6.heap.size < w12.heap.size := by omega
  replace z5 : w9.heap.size < w12.heap.size := by omega
  replace HU1 := Lib.hid (hasB_keep HU1.out (below_step (Below.refl _ w11) hb))
  replace HU2 := Lib.hid (hasB_keep HU2.out (below_step (Below.refl _ w11) hb))
  replace HU3 := Lib.hid (hasB_keep HU3.out (below_step (Below.refl _ w11) hb))
  replace HU4 := Lib.hid (hasB_keep HU4.out (below_step (Below.refl _ w11) hb))
  clear hb zz
  go_wp2_with fail
  ((with_reducible refine (seal_p T1 SB P H_hSB.out H_hP.out H_m1.out (by rw [H_n1.out]; omega) HU1.out).mono ?_); rintro e w13 ⟨r5, d5, rfl, hu, hb⟩)
  replace HW := Lib.hid (below_step HW.out (hb))
  have zz : w12.heap.size + 0 ≤ w13.heap.size := by have := hb.size; (try simp at this); omega
  replace baq0 : w13.cell? ⟨w.heap.size, 0, none⟩ = some (.slice aa L1 c1) := cel_below hb (baq0)
  replace bbq0 : w13.cell? ⟨w.heap.size + 1, 0, none⟩ = some (.slice ab L2 c2) := cel_below hb (bbq0)
  replace z0 : w.heap.size < w13.heap.size := by omega
  replace z1 : w.heap.size + 1 < w13.heap.size := by omega
  replace z2 : w.heap.size + 1 + 1 < w13.heap.size := by omega
  replace z3 : w2.heap.size < w13.heap.size := by omega
  replace z4 : w6.heap.size < w13.heap.size := by omega
  replace z5 : w9.heap.size < w13.heap.size := by omega
  replace HU1 := Lib.hid (hasB_keep HU1.out (below_step (Below.refl _ w12) hb))
  replace HU2 := Lib.hid (hasB_keep HU2.out (below_step (Below.refl _ w12) hb))
  replace HU3 := Lib.hid (hasB_keep HU3.out (below_step (Below.refl _ w12) hb))
  replace HU4 := Lib.hid (hasB_keep HU4.out (below_step (Below.refl _ w12) hb))
  have HU5 := Lib.hid (hu)
  clear hb zz
  clear hu
  go_upto_region 8 with fail
  refine wp_region_held_drew (S := fun W => W.cell? ⟨w.heap.size, 0, none⟩ = some (.slice aa L1 c1) ∧ HasB W (.slice r5 P d5) SB) (by kernel_rfl) ?_ (fun hHeld => ?_)
  · (try dsimp only); exact ⟨by first | assumption | go_simp, HU5.out⟩
  replace HW := Lib.hid (below_drews HW.out 1)
  first | (refine wpAnyH_take (i := 0) (oi := ?oi16) (v := ?v16) ?hi16 (by kernel_rfl) (by kernel_rfl) (by kernel_rfl) ?hQ16 (Or.inl ⟨?hw16, ?hy16⟩) (by assumption) ?rest16; (case hi16 => (simp only [List.getElem?_toArray, List.getElem?_cons_zero]; rfl)); (case hQ16 => exact fun _ _ _ h => h); (case hw16 => rfl); (case hy16 => ((intro w hSw); (try dsimp only at hSw); go_simp; (try with_reducible rfl)))) | (refine wpAnyH_take (i := 0) (oi := ?oi17) (v := undef) ?hi17 (by kernel_rfl) (by kernel_rfl) (by kernel_rfl) ?hQ17 (Or.inr ⟨?hw17, rfl⟩) (by assumption) ?rest17; (case hi17 => (simp only [List.getElem?_toArray, List.getElem?_cons_zero]; rfl)); (case hQ17 => exact fun _ _ _ h => h); (case hw17 => rfl))
  (try simp only [Act.put, List.setIfInBounds_toArray, List.set_cons_zero, List.set_cons_succ])
  first | (refine wpAnyH_take (i := 1) (oi := ?oi18) (v := ?v18) ?hi18 (by kernel_rfl) (by kernel_rfl) (by kernel_rfl) ?hQ18 (Or.inl ⟨?hw18, ?hy18⟩) (by assumption) ?rest18; (case hi18 => (simp only [List.getElem?_toArray, List.getElem?_cons_succ, List.getElem?_cons_zero]; rfl)); (case hQ18 => exact fun _ _ _ h => h); (case hw18 => rfl); (case hy18 => ((intro w hSw); (try dsimp only at hSw); go_simp; (try with_reducible rfl)))) | (refine wpAnyH_take (i := 1) (oi := ?oi19) (v := undef) ?hi19 (by kernel_rfl) (by kernel_rfl) (by kernel_rfl) ?hQ19 (Or.inr ⟨?hw19, rfl⟩) (by assumption) ?rest19; (case hi19 => (simp only [List.getElem?_toArray, List.getElem?_cons_succ, List.getElem?_cons_zero]; rfl)); (case hQ19 => exact fun _ _ _ h => h); (case hw19 => rfl))
  (try simp only [Act.put, List.setIfInBounds_toArray, List.set_cons_zero, List.set_cons_succ])
  first | (refine wpAnyH_take (i := 4) (oi := ?oi20) (v := ?v20) ?hi20 (by kernel_rfl) (by kernel_rfl) (by kernel_rfl) ?hQ20 (Or.inl ⟨?hw20, ?hy20⟩) (by assumption) ?rest20; (case hi20 => (simp only [List.getElem?_toArray, List.getElem?_cons_succ, List.getElem?_cons_zero]; rfl)); (case hQ20 => exact fun _ _ _ h => h); (case hw20 => rfl); (case hy20 => ((intro w hSw); (try dsimp only at hSw); go_simp; (try with_reducible rfl)))) | (refine wpAnyH_take (i := 4) (oi := ?oi21) (v := undef) ?hi21 (by kernel_rfl) (by kernel_rfl) (by kernel_rfl) ?hQ21 (Or.inr ⟨?hw21, rfl⟩) (by assumption) ?rest21; (case hi21 => (simp only [List.getElem?_toArray, List.getElem?_cons_succ, List.getElem?_cons_zero]; rfl)); (case hQ21 => exact fun _ _ _ h => h); (case hw21 => rfl))
  (try simp only [Act.put, List.setIfInBounds_toArray, List.set_cons_zero, List.set_cons_succ])
  first | (refine wpAnyH_take (i := 5) (oi := ?oi22) (v := ?v22) ?hi22 (by kernel_rfl) (by kernel_rfl) (by kernel_rfl) ?hQ22 (Or.inl ⟨?hw22, ?hy22⟩) (by assumption) ?rest22; (case hi22 => (simp only [List.getElem?_toArray, List.getElem?_cons_succ, List.getElem?_cons_zero]; rfl)); (case hQ22 => exact fun _ _ _ h => h); (case hw22 => rfl); (case hy22 => ((intro w hSw); (try dsimp only at hSw); go_simp; (try with_reducible rfl)))) | (refine wpAnyH_take (i := 5) (oi := ?oi23) (v := undef) ?hi23 (by kernel_rfl) (by kernel_rfl) (by kernel_rfl) ?hQ23 (Or.inr ⟨?hw23, rfl⟩) (by assumption) ?rest23; (case hi23 => (simp only [List.getElem?_toArray, List.getElem?_cons_succ, List.getElem?_cons_zero]; rfl)); (case hQ23 => exact fun _ _ _ h => h); (case hw23 => rfl))
  (try simp only [Act.put, List.setIfInBounds_toArray, List.set_cons_zero, List.set_cons_succ])
  refine wpAnyH_ready (rs := [2]) (by kernel_rfl) (by simp) ?_
  refine AllReadyH.cons (o := ?oi24) ?hi24 (fun K hK => ?rest24) AllReadyH.nil
  (case hi24 => (simp only [List.getElem?_toArray, List.getElem?_cons_succ, List.getElem?_cons_zero]; rfl))
  obtain ⟨s0, t0⟩ := hHeld
  go_simp
  ((with_reducible refine (put_p _ E H_hE.out (by unfold I64; omega)).mono ?_); rintro e wx1 ⟨r6, d6, rfl, hb⟩)
  replace HW := Lib.hid (below_step HW.out hb)
  refine hK.out _ _ ?_ (fun hHeld => ?_)
  · (try dsimp only); exact ⟨cel_below hb s0, hasB_keep t0 hb⟩
  clear hK K s0 t0 hb
  (try simp only [Act.put, List.setIfInBounds_toArray, List.set_cons_zero, List.set_cons_succ])
  first | (refine wpAnyH_take (i := 3) (oi := ?oi25) (v := ?v25) ?hi25 (by kernel_rfl) (by kernel_rfl) (by kernel_rfl) ?hQ25 (Or.inl ⟨?hw25, ?hy25⟩) (by assumption) ?rest25; (case hi25 => (simp only [List.getElem?_toArray, List.getElem?_cons_succ, List.getElem?_cons_zero]; rfl)); (case hQ25 => exact fun _ _ _ h => h); (case hw25 => rfl); (case hy25 => ((intro w hSw); (try dsimp only at hSw); go_simp; (try with_reducible rfl)))) | (refine wpAnyH_take (i := 3) (oi := ?oi26) (v := undef) ?hi26 (by kernel_rfl) (by kernel_rfl) (by kernel_rfl) ?hQ26 (Or.inr ⟨?hw26, rfl⟩) (by assumption) ?rest26; (case hi26 => (simp only [List.getElem?_toArray, List.getElem?_cons_succ, List.getElem?_cons_zero]; rfl)); (case hQ26 => exact fun _ _ _ h => h); (case hw26 => rfl))
  (try simp only [Act.put, List.setIfInBounds_toArray, List.set_cons_zero, List.set_cons_succ])
  first | (refine wpAnyH_take (i := 6) (oi := ?oi27) (v := ?v27) ?hi27 (by kernel_rfl) (by kernel_rfl) (by kernel_rfl) ?hQ27 (Or.inl ⟨?hw27, ?hy27⟩) (by assumption) ?rest27; (case hi27 => (simp only [List.getElem?_toArray, List.getElem?_cons_succ, List.getElem?_cons_zero]; rfl)); (case hQ27 => exact fun _ _ _ h => h); (case hw27 => rfl); (case hy27 => ((intro w hSw); (try dsimp only at hSw); go_simp; (try with_reducible rfl)))) | (refine wpAnyH_take (i := 6) (oi := ?oi28) (v := undef) ?hi28 (by kernel_rfl) (by kernel_rfl) (by kernel_rfl) ?hQ28 (Or.inr ⟨?hw28, rfl⟩) (by assumption) ?rest28; (case hi28 => (simp only [List.getElem?_toArray, List.getElem?_cons_succ, List.getElem?_cons_zero]; rfl)); (case hQ28 => exact fun _ _ _ h => h); (case hw28 => rfl))
  (try simp only [Act.put, List.setIfInBounds_toArray, List.set_cons_zero, List.set_cons_succ])
  first | (refine wpAnyH_take (i := 7) (oi := ?oi29) (v := ?v29) ?hi29 (by kernel_rfl) (by kernel_rfl) (by kernel_rfl) ?hQ29 (Or.inl ⟨?hw29, ?hy29⟩) (by assumption) ?rest29; (case hi29 => (simp only [List.getElem?_toArray, List.getElem?_cons_succ, List.getElem?_cons_zero]; rfl)); (case hQ29 => exact fun _ _ _ h => h); (case hw29 => rfl); (case hy29 => ((intro w hSw); (try dsimp only at hSw); go_simp; (try with_reducible rfl)))) | (refine wpAnyH_take (i := 7) (oi := ?oi30) (v := undef) ?hi30 (by kernel_rfl) (by kernel_rfl) (by kernel_rfl) ?hQ30 (Or.inr ⟨?hw30, rfl⟩) (by assumption) ?rest30; (case hi30 => (simp only [List.getElem?_toArray, List.getElem?_cons_succ, List.getElem?_cons_zero]; rfl)); (case hQ30 => exact fun _ _ _ h => h); (case hw30 => rfl))
  (try simp only [Act.put, List.setIfInBounds_toArray, List.set_cons_zero, List.set_cons_succ])
  refine wpAnyH_done (by kernel_rfl) ?_ _
  obtain ⟨s0, t0⟩ := hHeld
  have HU6 := Lib.hid t0
  clear t0
  try rw [hJ2]
  go_wp2_with (first
    | (at_builtin; refine wpList_append_b _ rfl _ _ rfl wx1.heap.size _ [] rfl (own_empty _) _ SB rfl (hasB_keep HU6.out (below_new1 _ _)) (by have := H_hP.out; simp; omega) (by simp) ?_; intro v7 w7 ho7 hb7; obtain ⟨g, c7, rfl, c71, c72, ⟨y7, rc⟩, rf, hst⟩ := own_store (J := J) (show OwnB w7 wx1.heap.size v7 SB from ho7) H_hP.out (by omega); replace HW := Lib.hid (below_step HW.out ((below_new1 _ _).trans hb7)); have HST := Lib.hid hst; clear hb7 ho7 hst; have c73 : w.heap.size ≤ g := by have := World.block_lt_of_cell? wx1 _ s0; dsimp only at this; omega)
    | fail)
  ((with_reducible refine (open_q (SB.set J Y) H_mS.out (by rw [List.length_set, H_hP.out]; omega) H_ho.out (hasB_of_owns (HST.out Y))).mono ?_); rintro e w8x ⟨rfl, hb⟩)
  replace HW := Lib.hid (below_step (HW.out.setCell (by dsimp only; omega) _) hb)
  clear hb
  go_wp2_with fail
  ((with_reducible refine (sane_any _).mono ?_); rintro e w9x ⟨rfl, hb⟩)
  replace HW := Lib.hid (below_step HW.out hb)
  clear hb
  go_wp2
  go_ret
  exact ⟨rfl, HW.out⟩

theorem walk (w : World) (v : Value) (la : List Nat) (hv : HasB w v la) (hla : ∀ x ∈ la, x < 256) (xa : la.length ≤ 140737488351232) (x : Int) (hx8 : (Lit.int .u8 x).wf = true) (y : Int) (hy8 : (Lit.int .u8 y).wf = true) (u : Value) (lb : List Nat) (hu : HasB w u lb) (hlb : ∀ x ∈ lb, x < 256) (xb : lb.length ≤ 140737488351232) :
    Calls Try.prog 6 #[v, .int .u8 x, .int .u8 y, u] w fun e w' => e = .returned (.bool true) ∧ Below w.heap.size w w' := by
  obtain ⟨X, rfl⟩ : ∃ X : Nat, x = X := ⟨x.toNat, by have := (u8_of_wf hx8).1; omega⟩
  obtain ⟨Y, rfl⟩ : ∃ Y : Nat, y = Y := ⟨y.toNat, by have := (u8_of_wf hy8).1; omega⟩
  have h1 := (u8_of_wf hx8).2
  have h2 := (u8_of_wf hy8).2
  have hv0 := hv
  have hu0 := hu
  obtain ⟨aa, c1, rfl, _, _⟩ := hv0
  obtain ⟨ab, c2, rfl, _, _⟩ := hu0
  by_cases h : la.length + lb.length ≤ 600
  · by_cases hXY : X = Y
    · subst hXY
      exact walk_eq w aa ab _ _ c1 c2 X la lb rfl rfl hv hu hla hlb (by omega) h
    · exact walk_ne w aa ab _ _ c1 c2 X Y la lb rfl rfl hv hu hla hlb (by omega) (by omega) hXY h
  · exact walk_big w aa ab _ _ c1 c2 X Y (by omega) (by omega)

theorem own : ownKnob Try.prog.godebug = none := by kernel_rfl
theorem laidOut : laidOutB Try.prog = true := by kernel_rfl

set_option maxRecDepth 100000 in
theorem lifted (os : Os) (started : os.Started) (H : Type) (enc : TypeId × Value → H) :
    ReturnsInHanded {} Try.checked os 6 .any (Rows.wireSumDetectsSpec.pre6 enc Try.prog Try.f6 Rows.wireSumDetectsRow.domain false) (Rows.wireSumDetectsSpec.post enc Try.prog Try.f6 false true false false) := by
  refine returnsInHanded_of_change_sized (C := Try.checked) own started (by kernel_rfl) Try.func6
    (ChangeSpec.witness6 (enc := enc) (C := Try.checked) false ⟨#[], #[.slice none 0 0, .int .u8 0, .int .u8 0, .slice none 0 0], []⟩ 8 (by kernel_rfl) (by kernel_rfl) (by kernel_rfl) (by kernel_rfl)) ?_
  intro W base args ds gs before hval0 hW hcnd hsz0 _
  have hsz : (DataW.weightsEach Try.prog (Try.f6.params.toList ++ Rows.wireSumDetectsSpec.plain.varTypes Try.prog) (ds ++ gs)).all (· ≤ reachBytes) = true := hsz0
  have hval : ∀ (j : Nat) t v, Try.f6.params[j]? = some t → args[j]? = some v → Value.okWide Try.prog W .any base t v := hval0
  have hW' := hW
  obtain ⟨p, q, hA0, hV, rfl, hfz, hnd⟩ := hW
  have hA : DataW.TrodAll enc Try.prog W 0 (fun _ => true) true Try.f6.params.toList args.toList ds p := hA0
  rw [Try.params6] at hA hval hsz
  obtain ⟨v0, vs0, d0, ds0, p0, q0, hargs, rfl, rfl, h0, r0⟩ := trodAll_cons hA
  obtain ⟨v1, vs1, d1, ds1, p1, q1, rfl, rfl, rfl, h1, r1⟩ := trodAll_cons r0
  obtain ⟨v2, vs2, d2, ds2, p2, q2, rfl, rfl, rfl, h2, r2⟩ := trodAll_cons r1
  obtain ⟨v3, vs3, d3, ds3, p3, q3, rfl, rfl, rfl, h3, r3⟩ := trodAll_cons r2
  obtain ⟨rfl, rfl, rfl⟩ := trodAll_nil r3
  obtain rfl : args = #[v0, v1, v2, v3] := by cases args; simp_all
  obtain ⟨rfl, rfl⟩ := trodVars_none hV
  clear hA0 hval0
  simp only [List.append_nil] at hW'
  have lt0 : ∀ x ∈ p0, x.block < W.heap.size := fun x hx => hW'.lt x (by simp [hx])
  have lt1 : ∀ x ∈ p1, x.block < W.heap.size := fun x hx => hW'.lt x (by simp [hx])
  have lt2 : ∀ x ∈ p2, x.block < W.heap.size := fun x hx => hW'.lt x (by simp [hx])
  have lt3 : ∀ x ∈ p3, x.block < W.heap.size := fun x hx => hW'.lt x (by simp [hx])
  have back0 : ∀ W', Below W.heap.size W W' → DataW.Trod enc Try.prog W' 0 (fun b => decide (b < W.heap.size)) true 42 v0 d0 p0 := fun W' hb => Below.trod laidOut (by kernel_rfl) (of_decide_eq_true (by kernel_rfl)) h0 hb lt0
  have back1 : ∀ W', Below W.heap.size W W' → DataW.Trod enc Try.prog W' 0 (fun b => decide (b < W.heap.size)) true 5 v1 d1 p1 := fun W' hb => Below.trod laidOut (by kernel_rfl) (of_decide_eq_true (by kernel_rfl)) h1 hb lt1
  have back2 : ∀ W', Below W.heap.size W W' → DataW.Trod enc Try.prog W' 0 (fun b => decide (b < W.heap.size)) true 5 v2 d2 p2 := fun W' hb => Below.trod laidOut (by kernel_rfl) (of_decide_eq_true (by kernel_rfl)) h2 hb lt2
  have back3 : ∀ W', Below W.heap.size W W' → DataW.Trod enc Try.prog W' 0 (fun b => decide (b < W.heap.size)) true 42 v3 d3 p3 := fun W' hb => Below.trod laidOut (by kernel_rfl) (of_decide_eq_true (by kernel_rfl)) h3 hb lt3
  obtain ⟨l0, k0, b0, y0⟩ := open_bytess (hval 0 42 v0 rfl rfl) h0
  have x0 : l0.length ≤ 140737488351232 := by
    rcases y0 with hq | ⟨e, s, rfl, hq⟩
    · omega
    · have := sized_slice hsz (j := 0) (t := 42) (e := 5) rfl rfl Try.underlying42
      rw [bytes_u8] at this; simp only [reachBytes] at this; omega
  obtain ⟨a1, rfl, rfl, rfl, w1⟩ := open_int Try.underlying5 (hval 1 5 v1 rfl rfl) h1
  obtain ⟨a2, rfl, rfl, rfl, w2⟩ := open_int Try.underlying5 (hval 2 5 v2 rfl rfl) h2
  obtain ⟨l3, k3, b3, y3⟩ := open_bytess (hval 3 42 v3 rfl rfl) h3
  have x3 : l3.length ≤ 140737488351232 := by
    rcases y3 with hq | ⟨e, s, rfl, hq⟩
    · omega
    · have := sized_slice hsz (j := 3) (t := 42) (e := 5) rfl rfl Try.underlying42
      rw [bytes_u8] at this; simp only [reachBytes] at this; omega
  refine (walk W v0 l0 k0 b0 x0 a1 w1 a2 w2 v3 l3 k3 b3 x3).mono fun e W' ⟨he, hg⟩ => ?_
  subst he
  exact ⟨_, rfl, _, _, _, [], _, [], hW', (trodAll_cons_mk (shut_bool Try.underlying4 _) trodAll_mk0), (trodAll_cons_mk (back0 _ hg) (trodAll_cons_mk (back1 _ hg) (trodAll_cons_mk (back2 _ hg) (trodAll_cons_mk (back3 _ hg) trodAll_mk0)))), rfl, hg.frame _, fun h => by cases h⟩

theorem over : Rows.wireSumDetectsRow.holds Try.pinned (OpenSpec.ofChange Rows.wireSumDetectsSpec) :=
  OpenClaim.holds_of_wide 6 Try.f6 rfl rfl rfl rfl rfl rfl rfl ⟨rfl, rfl, rfl, rfl, rfl⟩ rfl rfl rfl rfl rfl (by kernel_rfl) Try.func6 (by kernel_rfl)
    (of_decide_eq_true (by kernel_rfl)) (by unfold Func.isWrapper; first | (rw [if_pos (by decide +kernel)]; kernel_rfl) | (rw [if_neg (by decide +kernel)]; exact ⟨rfl, rfl⟩))
    (fun os started H enc _ => lifted os started H enc)

/-- The given statement. -/
theorem proved : Rows.WireSumDetectsSaid :=
  over
#print axioms proved
end Go.Proofs.Ytimjodpndhckdaa.wireSumDetects
