/- MemAllSplits: for every memory of at most 60 cells and every list of at most 30 accesses, performing the list in two parts gives the same memory and results as performing it at once. No condition. -/
import Derived.Test.YtimjodpndhckdaaRows
import Derived.Test.YtimjodpndhckdaaAux
import Derived.Test.YtimjodpndhckdaaTag
import Derived.Test.YtimjodpndhckdaaMemS
import Derived.Test.YtimjodpndhckdaaMemO
import Derived.Test.YtimjodpndhckdaaMemT
import Derived.Test.YtimjodpndhckdaaMemR
import Derived.Outline
import Derived.Deep.RegionHeld3
import Derived.Deep.DeepCutAuto
import Derived.WalkKit
import Derived.ProofKit
import Derived.OpenShut
import Derived.Lib.Hide
import Derived.Carry
namespace Go.Proofs.Ytimjodpndhckdaa.memAllSplits
open Go.ChangeShapes Go.WideShapes Go.ChangeAt Go.RowKit
set_option linter.unusedVariables false

theorem rsame_s {v u : Value} {w : World} (zs : List Int) (hv : HasInts w v zs) (hu : HasInts w u zs) : Calls Try.prog 15 #[.agg #[v], .agg #[u]] w fun e w' => e = .returned (.bool true) ∧ Below w.heap.size w w' :=
  (rsame_any v u zs zs w hv hu).mono fun e w' ⟨he, hb⟩ => ⟨by rw [he]; simp, hb⟩
theorem told_s {v u : Value} {w : World} (zs : List (Int × Bool)) (hv : HasRes w v zs) (hu : HasRes w u zs) : Calls Try.prog 16 #[v, u] w fun e w' => e = .returned (.bool true) ∧ Below w.heap.size w w' :=
  (told_any v u zs zs w hv hu).mono fun e w' ⟨he, n, hw⟩ => ⟨by rw [he]; simp, hw ▸ below_drewN (Below.refl _ _) n⟩
/-- One call of All, with its error, memory and results named. -/
theorem all_n {v x : Value} {w : World} (zs Z : List Int) (l : List AccD) (R : List (Int × Bool)) (E : Int) (n : Nat) (hn : zs.length = n) (hs : n ≤ 1000) (hl : l.length ≤ 1000) (hE : errOf n l = E) (hZ : (if E = 0 then stZ zs l else zs) = Z) (hR : (if E = 0 then stR zs l else []) = R) (hv : HasInts w v zs) (hx : HasAccs w x l) :
    Calls Try.prog 13 #[.agg #[v], x] w fun e w' => ∃ a1 c1 a2 l2 c2, e = .returned (.tuple #[.agg #[.slice a1 n c1], .slice a2 l2 c2, .int .i64 E]) ∧ HasInts w' (.slice a1 n c1) Z ∧ HasRes w' (.slice a2 l2 c2) R ∧ NilOk (.slice a2 l2 c2) ∧ Below w.heap.size w w' := by
  subst hn hE
  refine (allN_any v x zs l w hv hx (by omega) (by omega)).mono ?_
  rintro e w' ⟨u, r, rfl, hu, hr, hb, hnil⟩
  have hu2 : HasInts w' u Z := by rw [← hZ]; exact hu
  have hr2 : HasRes w' r R := by rw [← hR]; exact hr
  have hlz : Z.length = zs.length := by rw [← hZ]; split; exact stZ_length _ _; rfl
  have hu3 := hu2
  have hr3 := hr2
  obtain ⟨a1, c1, rfl, _⟩ := hu3
  obtain ⟨a2, c2, rfl, _⟩ := hr3
  rw [hlz] at hu2 ⊢
  exact ⟨a1, c1, a2, _, c2, rfl, hu2, hr2, hnil, hb⟩

set_option maxHeartbeats 8000000 in
set_option maxRecDepth 100000 in
theorem walk_big (w : World) (a : Option Addr) (L cap : Nat) (b : Option Addr) (M cp : Nat) (x : Int) (h : 60 < L ∨ (L ≤ 60 ∧ 30 < M)) : Calls Try.prog 4 #[.agg #[.slice a L cap], .slice b M cp, .int .u8 x] w fun e w' => e = .returned (.bool true) ∧ Below w.heap.size w w' := by
  rcases h with h | ⟨h, h2⟩
  · have h1 : decide ((60 : Int) < L) = true := by simp; omega
    go_enter Try.func4, Try.ntmps4
    go_wp2_with fail
    ((with_reducible refine (sane_any _).mono ?_); rintro e w1 ⟨rfl, hb⟩)
    have HW := Lib.hid (below_alloc1 hb)
    have zz : w.heap.size + 1 ≤ w1.heap.size := by have := hb.size; (try simp at this); omega
    have mmq0 : w1.cell? ⟨w.heap.size, 0, none⟩ = some (.slice a L cap) := cel_below hb (by rw [World.cell?_alloc_at _ _ _ _ (by simp)]; rfl)
    have z0 : w.heap.size < w1.heap.size := by omega
    clear hb zz
    go_wp2
    go_ret
    exact ⟨rfl, HW.out⟩
  · have h1 : decide ((60 : Int) < L) = false := by simp; omega
    have h3 : decide ((30 : Int) < M) = true := by simp; omega
    go_enter Try.func4, Try.ntmps4
    go_wp2_with fail
    ((with_reducible refine (sane_any _).mono ?_); rintro e w1 ⟨rfl, hb⟩)
    have HW := Lib.hid (below_alloc1 hb)
    have zz : w.heap.size + 1 ≤ w1.heap.size := by have := hb.size; (try simp at this); omega
    have mmq0 : w1.cell? ⟨w.heap.size, 0, none⟩ = some (.slice a L cap) := cel_below hb (by rw [World.cell?_alloc_at _ _ _ _ (by simp)]; rfl)
    have z0 : w.heap.size < w1.heap.size := by omega
    clear hb zz
    go_wp2
    go_ret
    exact ⟨rfl, HW.out⟩
set_option maxHeartbeats 8000000 in
set_option maxRecDepth 100000 in
theorem walk_sm (w : World) (a : Option Addr) (L cap : Nat) (b : Option Addr) (M cp : Nat) (x : Int) (zs : List Int) (l : List AccD) (hL : L = zs.length) (hM : M = l.length) (hv : HasInts w (.slice a L cap) zs) (hx : HasAccs w (.slice b M cp) l) (hcp : M ≤ cp) (h : L ≤ 60) (h2 : M ≤ 30) (hx0 : 0 ≤ x) (hx255 : x ≤ 255) : Calls Try.prog 4 #[.agg #[.slice a L cap], .slice b M cp, .int .u8 x] w fun e w' => e = .returned (.bool true) ∧ Below w.heap.size w w' := by
  have h1 : decide ((60 : Int) < L) = false := by simp; omega
  have h3 : decide ((30 : Int) < M) = false := by simp; omega
  have HV := Lib.hid hv
  have HX := Lib.hid hx
  obtain ⟨k, hk⟩ : ∃ k : Nat, x % ((M : Int) + 1) = k := ⟨(x % ((M : Int) + 1)).toNat, by have := Int.emod_nonneg x (show ((M : Int) + 1) ≠ 0 by omega); omega⟩
  have hkM : k ≤ M := by have := Int.emod_lt_of_pos x (show 0 < (M : Int) + 1 by omega); omega
  have hk0 : (k : Int) ≤ M := by omega
  have hk1 : (k : Int) ≤ cp := by omega
  have hkc : k ≤ cp := by omega
  obtain ⟨E, hE⟩ : ∃ E, errOf L l = E := ⟨_, rfl⟩
  obtain ⟨Z, hZ⟩ : ∃ Z, (if E = 0 then stZ zs l else zs) = Z := ⟨_, rfl⟩
  obtain ⟨R, hR⟩ : ∃ R, (if E = 0 then stR zs l else []) = R := ⟨_, rfl⟩
  obtain ⟨E1, hE1⟩ : ∃ E, errOf L (l.take k) = E := ⟨_, rfl⟩
  obtain ⟨Z1, hZ1⟩ : ∃ Z, (if E1 = 0 then stZ zs (l.take k) else zs) = Z := ⟨_, rfl⟩
  obtain ⟨R1, hR1⟩ : ∃ R, (if E1 = 0 then stR zs (l.take k) else []) = R := ⟨_, rfl⟩
  have hZ1l : Z1.length = L := by rw [← hZ1]; split; rw [stZ_length, hL]; exact hL.symm
  obtain ⟨E2, hE2⟩ : ∃ E, errOf L (l.drop k) = E := ⟨_, rfl⟩
  obtain ⟨Z2, hZ2⟩ : ∃ Z, (if E2 = 0 then stZ Z1 (l.drop k) else Z1) = Z := ⟨_, rfl⟩
  obtain ⟨R2, hR2⟩ : ∃ R, (if E2 = 0 then stR Z1 (l.drop k) else []) = R := ⟨_, rfl⟩
  have hEE : E = if E1 = 0 then E2 else E1 := by rw [← hE, ← hE1, ← hE2, ← errOf_append, List.take_append_drop]
  have HZZ : Hid (E1 = 0 → E2 = 0 → Z = Z2 ∧ R = R1 ++ R2) := Lib.hid (fun e1 e2 => by
    have e : E = 0 := by rw [hEE, if_pos e1, e2]
    rw [← hZ, ← hR, if_pos e, if_pos e, ← hZ2, ← hR2, if_pos e2, if_pos e2, ← hR1, ← hZ1, if_pos e1, if_pos e1, ← stZ_append, ← stR_append, List.take_append_drop]
    exact ⟨rfl, rfl⟩)
  have HRL : Hid (R1.length ≤ 30 ∧ R2.length ≤ 30) := Lib.hid (by
    constructor
    · rw [← hR1]; split
      · rw [stR_length, List.length_take]; omega
      · simp
    · rw [← hR2]; split
      · rw [stR_length, List.length_drop]; omega
      · simp)
  have A0 := Lib.hid (fun (w : World) (h1 : HasInts w (.slice a L cap) zs) (h2 : HasAccs w (.slice b M cp) l) => all_n zs Z l R E L hL.symm (by omega) (by omega) hE hZ hR h1 h2)
  have A1 := Lib.hid (fun (w : World) (x : Value) (h1 : HasInts w (.slice a L cap) zs) (h2 : HasAccs w x (l.take k)) => all_n zs Z1 (l.take k) R1 E1 L hL.symm (by omega) (by rw [List.length_take]; omega) hE1 hZ1 hR1 h1 h2)
  have A2 := Lib.hid (fun (w : World) (y x : Value) (h1 : HasInts w y Z1) (h2 : HasAccs w x (l.drop k)) => all_n Z1 Z2 (l.drop k) R2 E2 L hZ1l (by omega) (by rw [List.length_drop]; omega) hE2 hZ2 hR2 h1 h2)
  have HEE := Lib.hid hEE
  have HLM := Lib.hid hM
  clear hE hZ hR hE1 hZ1 hR1 hE2 hZ2 hR2 hEE hL hM hv hx hZ1l
  go_enter Try.func4, Try.ntmps4
  go_wp2_with fail
  ((with_reducible refine (sane_any _).mono ?_); rintro e w1 ⟨rfl, hb⟩)
  have HW := Lib.hid (below_alloc1 hb)
  have zz : w.heap.size + 1 ≤ w1.heap.size := by have := hb.size; (try simp at this); omega
  have mmq0 : w1.cell? ⟨w.heap.size, 0, none⟩ = some (.slice a L cap) := cel_below hb (by rw [World.cell?_alloc_at _ _ _ _ (by simp)]; rfl)
  have z0 : w.heap.size < w1.heap.size := by omega
  clear hb zz
  go_wp2_with fail
  ((with_reducible refine (A0.out _ (hasInts_keep HV.out HW.out) (hasAccs_keep HX.out HW.out)).mono ?_); rintro e w2 ⟨a1, c1, a2, l2, c2, rfl, hu, hr, hnl, hb⟩)
  replace HW := Lib.hid (below_step HW.out (hb))
  have zz : w1.heap.size + 0 ≤ w2.heap.size := by have := hb.size; (try simp at this); omega
  replace mmq0 : w2.cell? ⟨w.heap.size, 0, none⟩ = some (.slice a L cap) := cel_below hb (mmq0)
  replace z0 : w.heap.size < w2.heap.size := by omega
  have HU0 := Lib.hid (hu)
  have HR0 := Lib.hid (hr)
  clear hb zz
  clear hu hr hnl
  go_upto_region 6 with fail
  obtain ⟨wr3, hwr⟩ : ∃ W, W = w2.alloc (.cells #[.slice a1 L c1] 24) := ⟨_, rfl⟩
  rw [← hwr]
  have hb : Below w2.heap.size w2 wr3 := by rw [hwr]; exact (Below.alloc (Below.refl _ w2) (by first | exact Nat.le_refl _ | (simp; omega) | simp) _)
  have zz : w2.heap.size + 1 ≤ wr3.heap.size := by rw [hwr]; simp
  replace HW := Lib.hid (below_step HW.out hb)
  replace mmq0 : wr3.cell? ⟨w.heap.size, 0, none⟩ = some (.slice a L cap) := cel_below hb mmq0
  replace z0 : w.heap.size < wr3.heap.size := by omega
  replace HU0 := Lib.hid (hasInts_keep HU0.out hb)
  replace HR0 := Lib.hid (hasRes_keep HR0.out hb)
  have xxq0 : wr3.cell? ⟨w2.heap.size, 0, none⟩ = some (.slice a1 L c1) := by rw [hwr]; exact by rw [World.cell?_alloc_at _ _ _ _ (by simp)]; rfl
  have z1 : w2.heap.size < wr3.heap.size := by omega
  clear hb zz hwr
  have HWr := Lib.hid HW.out
  go_cut [12, 13, 14] (fun s1 s2 s3 wx => ∃ (g : Nat) (an : Option Addr) (cn : Nat) (ar : Option Addr) (lr cr : Nat), s1 = .pointer (some ⟨g, 0, none⟩) ∧ s2 = .slice ar lr cr ∧ s3 = .int .i64 E1 ∧ wr3.heap.size ≤ g ∧ g < wx.heap.size ∧ wx.cell? ⟨g, 0, none⟩ = some (.slice an L cn) ∧ HasInts wx (.slice an L cn) Z1 ∧ HasRes wx (.slice ar lr cr) R1 ∧ NilOk (.slice ar lr cr) ∧ Below wr3.heap.size wr3 wx)
  case first =>
    have HW := Lib.hid (Below.refl wr3.heap.size wr3)
    have HWS := Lib.hid (Nat.le_refl wr3.heap.size)
    refine wp_region_held_drew (S := fun W => W.cell? ⟨w.heap.size, 0, none⟩ = some (.slice a L cap)) (by kernel_rfl) ?_ (fun hHeld => ?_)
    · (try dsimp only); exact by first | assumption | go_simp
    replace HW := Lib.hid (show Below _ _ (World.drew wr3) from below_drews HW.out 1)
    obtain ⟨wy0, hwy⟩ : ∃ W, W = World.drew wr3 := ⟨_, rfl⟩
    rw [← hwy] at HW ⊢
    have hHeld2 := hHeld
    rw [← hwy] at hHeld2
    clear hHeld
    have LO : wr3.heap.size ≤ wy0.heap.size := by rw [hwy]; exact Nat.le_refl _
    have hb : Below wr3.heap.size wr3 wy0 := by rw [hwy]; exact below_drews (Below.refl _ _) 1
    clear hb hwy
    have s0 := hHeld2
    clear hHeld2
    (try dsimp only at s0)
    have hHeld : (fun W => W.cell? ⟨w.heap.size, 0, none⟩ = some (.slice a L cap)) wy0 := s0
    first | (refine wpAnyH_take (i := 0) (oi := ?oi1) (v := ?v1) ?hi1 (by kernel_rfl) (by kernel_rfl) (by kernel_rfl) ?hQ1 (Or.inl ⟨?hw1, ?hy1⟩) (by assumption) ?rest1; (case hi1 => (simp only [List.getElem?_toArray, List.getElem?_cons_zero]; rfl)); (case hQ1 => exact fun _ _ _ h => h); (case hw1 => rfl); (case hy1 => ((intro w hSw); (try dsimp only at hSw); go_simp; (try with_reducible rfl)))) | (refine wpAnyH_take (i := 0) (oi := ?oi2) (v := undef) ?hi2 (by kernel_rfl) (by kernel_rfl) (by kernel_rfl) ?hQ2 (Or.inr ⟨?hw2, rfl⟩) (by assumption) ?rest2; (case hi2 => (simp only [List.getElem?_toArray, List.getElem?_cons_zero]; rfl)); (case hQ2 => exact fun _ _ _ h => h); (case hw2 => rfl))
    (try simp only [Act.put, List.setIfInBounds_toArray, List.set_cons_zero, List.set_cons_succ])
    first | (refine wpAnyH_take (i := 1) (oi := ?oi3) (v := ?v3) ?hi3 (by kernel_rfl) (by kernel_rfl) (by kernel_rfl) ?hQ3 (Or.inl ⟨?hw3, ?hy3⟩) (by assumption) ?rest3; (case hi3 => (simp only [List.getElem?_toArray, List.getElem?_cons_succ, List.getElem?_cons_zero]; rfl)); (case hQ3 => exact fun _ _ _ h => h); (case hw3 => rfl); (case hy3 => ((intro w hSw); (try dsimp only at hSw); go_simp; (try with_reducible rfl)))) | (refine wpAnyH_take (i := 1) (oi := ?oi4) (v := undef) ?hi4 (by kernel_rfl) (by kernel_rfl) (by kernel_rfl) ?hQ4 (Or.inr ⟨?hw4, rfl⟩) (by assumption) ?rest4; (case hi4 => (simp only [List.getElem?_toArray, List.getElem?_cons_succ, List.getElem?_cons_zero]; rfl)); (case hQ4 => exact fun _ _ _ h => h); (case hw4 => rfl))
    (try simp only [Act.put, List.setIfInBounds_toArray, List.set_cons_zero, List.set_cons_succ])
    first | (refine wpAnyH_take (i := 2) (oi := ?oi5) (v := ?v5) ?hi5 (by kernel_rfl) (by kernel_rfl) (by kernel_rfl) ?hQ5 (Or.inl ⟨?hw5, ?hy5⟩) (by assumption) ?rest5; (case hi5 => (simp only [List.getElem?_toArray, List.getElem?_cons_succ, List.getElem?_cons_zero]; rfl)); (case hQ5 => exact fun _ _ _ h => h); (case hw5 => rfl); (case hy5 => ((intro w hSw); (try dsimp only at hSw); go_simp; (try with_reducible rfl)))) | (refine wpAnyH_take (i := 2) (oi := ?oi6) (v := undef) ?hi6 (by kernel_rfl) (by kernel_rfl) (by kernel_rfl) ?hQ6 (Or.inr ⟨?hw6, rfl⟩) (by assumption) ?rest6; (case hi6 => (simp only [List.getElem?_toArray, List.getElem?_cons_succ, List.getElem?_cons_zero]; rfl)); (case hQ6 => exact fun _ _ _ h => h); (case hw6 => rfl))
    (try simp only [Act.put, List.setIfInBounds_toArray, List.set_cons_zero, List.set_cons_succ])
    first | (refine wpAnyH_take (i := 3) (oi := ?oi7) (v := ?v7) ?hi7 (by kernel_rfl) (by kernel_rfl) (by kernel_rfl) ?hQ7 (Or.inl ⟨?hw7, ?hy7⟩) (by assumption) ?rest7; (case hi7 => (simp only [List.getElem?_toArray, List.getElem?_cons_succ, List.getElem?_cons_zero]; rfl)); (case hQ7 => exact fun _ _ _ h => h); (case hw7 => rfl); (case hy7 => ((intro w hSw); (try dsimp only at hSw); go_simp; (try with_reducible rfl)))) | (refine wpAnyH_take (i := 3) (oi := ?oi8) (v := undef) ?hi8 (by kernel_rfl) (by kernel_rfl) (by kernel_rfl) ?hQ8 (Or.inr ⟨?hw8, rfl⟩) (by assumption) ?rest8; (case hi8 => (simp only [List.getElem?_toArray, List.getElem?_cons_succ, List.getElem?_cons_zero]; rfl)); (case hQ8 => exact fun _ _ _ h => h); (case hw8 => rfl))
    (try simp only [Act.put, List.setIfInBounds_toArray, List.set_cons_zero, List.set_cons_succ])
    clear hHeld
    refine wpAnyH_ready (rs := [4, 9]) (by kernel_rfl) (by simp) ?_
    refine AllReadyH.cons (o := ?oi9) ?hi9 (fun K hK => ?rest9) (AllReadyH.cons (o := ?oi10) ?hi10 (fun K hK => ?rest10) AllReadyH.nil)
    (case hi9 => (simp only [List.getElem?_toArray, List.getElem?_cons_succ, List.getElem?_cons_zero]; rfl))
    (case hi10 => (simp only [List.getElem?_toArray, List.getElem?_cons_succ, List.getElem?_cons_zero]; rfl))
    case rest9 =>
      go_simp
      ((with_reducible refine (A1.out _ _ (hasInts_keep HV.out (below_step HWr.out HW.out)) (hasAccs_take (hasAccs_keep HX.out (below_step HWr.out HW.out)) hkM)).mono ?_); rintro e wz11 ⟨an, cn, ar, lr, cr, rfl, hu, hr, hnl, hb⟩)
      replace HW := Lib.hid (below_step HW.out hb)
      replace s0 := cel_below hb s0
      have HM1 := Lib.hid hu
      have HM2 := Lib.hid hr
      have HNL := Lib.hid hnl
      clear hu hr hnl
      replace LO := Nat.le_trans LO hb.size
      clear hb
      refine hK.out _ _ ?_ (fun _ => ?_)
      · (try dsimp only); exact s0
      clear hK K
      (try simp only [Act.put, List.setIfInBounds_toArray, List.set_cons_zero, List.set_cons_succ])
      have hHeld : (fun W => W.cell? ⟨w.heap.size, 0, none⟩ = some (.slice a L cap)) wz11 := s0
      first | (refine wpAnyH_take (i := 5) (oi := ?oi12) (v := ?v12) ?hi12 (by kernel_rfl) (by kernel_rfl) (by kernel_rfl) ?hQ12 (Or.inl ⟨?hw12, ?hy12⟩) (by assumption) ?rest12; (case hi12 => (simp only [List.getElem?_toArray, List.getElem?_cons_succ, List.getElem?_cons_zero]; rfl)); (case hQ12 => exact fun _ _ _ h => h); (case hw12 => rfl); (case hy12 => ((intro w hSw); (try dsimp only at hSw); go_simp; (try with_reducible rfl)))) | (refine wpAnyH_take (i := 5) (oi := ?oi13) (v := undef) ?hi13 (by kernel_rfl) (by kernel_rfl) (by kernel_rfl) ?hQ13 (Or.inr ⟨?hw13, rfl⟩) (by assumption) ?rest13; (case hi13 => (simp only [List.getElem?_toArray, List.getElem?_cons_succ, List.getElem?_cons_zero]; rfl)); (case hQ13 => exact fun _ _ _ h => h); (case hw13 => rfl))
      (try simp only [Act.put, List.setIfInBounds_toArray, List.set_cons_zero, List.set_cons_succ])
      first | (refine wpAnyH_take (i := 6) (oi := ?oi14) (v := ?v14) ?hi14 (by kernel_rfl) (by kernel_rfl) (by kernel_rfl) ?hQ14 (Or.inl ⟨?hw14, ?hy14⟩) (by assumption) ?rest14; (case hi14 => (simp only [List.getElem?_toArray, List.getElem?_cons_succ, List.getElem?_cons_zero]; rfl)); (case hQ14 => exact fun _ _ _ h => h); (case hw14 => rfl); (case hy14 => ((intro w hSw); (try dsimp only at hSw); go_simp; (try with_reducible rfl)))) | (refine wpAnyH_take (i := 6) (oi := ?oi15) (v := undef) ?hi15 (by kernel_rfl) (by kernel_rfl) (by kernel_rfl) ?hQ15 (Or.inr ⟨?hw15, rfl⟩) (by assumption) ?rest15; (case hi15 => (simp only [List.getElem?_toArray, List.getElem?_cons_succ, List.getElem?_cons_zero]; rfl)); (case hQ15 => exact fun _ _ _ h => h); (case hw15 => rfl))
      (try simp only [Act.put, List.setIfInBounds_toArray, List.set_cons_zero, List.set_cons_succ])
      first | (refine wpAnyH_take (i := 7) (oi := ?oi16) (v := ?v16) ?hi16 (by kernel_rfl) (by kernel_rfl) (by kernel_rfl) ?hQ16 (Or.inl ⟨?hw16, ?hy16⟩) (by assumption) ?rest16; (case hi16 => (simp only [List.getElem?_toArray, List.getElem?_cons_succ, List.getElem?_cons_zero]; rfl)); (case hQ16 => exact fun _ _ _ h => h); (case hw16 => rfl); (case hy16 => ((intro w hSw); (try dsimp only at hSw); go_simp; (try with_reducible rfl)))) | (refine wpAnyH_take (i := 7) (oi := ?oi17) (v := undef) ?hi17 (by kernel_rfl) (by kernel_rfl) (by kernel_rfl) ?hQ17 (Or.inr ⟨?hw17, rfl⟩) (by assumption) ?rest17; (case hi17 => (simp only [List.getElem?_toArray, List.getElem?_cons_succ, List.getElem?_cons_zero]; rfl)); (case hQ17 => exact fun _ _ _ h => h); (case hw17 => rfl))
      (try simp only [Act.put, List.setIfInBounds_toArray, List.set_cons_zero, List.set_cons_succ])
      first | (refine wpAnyH_take (i := 8) (oi := ?oi18) (v := ?v18) ?hi18 (by kernel_rfl) (by kernel_rfl) (by kernel_rfl) ?hQ18 (Or.inl ⟨?hw18, ?hy18⟩) (by assumption) ?rest18; (case hi18 => (simp only [List.getElem?_toArray, List.getElem?_cons_succ, List.getElem?_cons_zero]; rfl)); (case hQ18 => exact fun _ _ _ h => h); (case hw18 => rfl); (case hy18 => ((intro w hSw); (try dsimp only at hSw); go_simp; (try with_reducible rfl)))) | (refine wpAnyH_take (i := 8) (oi := ?oi19) (v := undef) ?hi19 (by kernel_rfl) (by kernel_rfl) (by kernel_rfl) ?hQ19 (Or.inr ⟨?hw19, rfl⟩) (by assumption) ?rest19; (case hi19 => (simp only [List.getElem?_toArray, List.getElem?_cons_succ, List.getElem?_cons_zero]; rfl)); (case hQ19 => exact fun _ _ _ h => h); (case hw19 => rfl))
      (try simp only [Act.put, List.setIfInBounds_toArray, List.set_cons_zero, List.set_cons_succ])
      clear hHeld
      refine wpAnyH_ready (rs := [9]) (by kernel_rfl) (by simp) ?_
      refine AllReadyH.cons (o := ?oi20) ?hi20 (fun K hK => ?rest20) AllReadyH.nil
      (case hi20 => (simp only [List.getElem?_toArray, List.getElem?_cons_succ, List.getElem?_cons_zero]; rfl))
      go_simp
      obtain ⟨wz21, hwy⟩ : ∃ W, W = wz11.alloc (.cells #[.slice none 0 0] 24) := ⟨_, rfl⟩
      rw [← hwy]
      have hb : Below wz11.heap.size wz11 wz21 := by rw [hwy]; exact below_new1 _ _
      have mc0 : wz21.cell? ⟨wz11.heap.size, 0, none⟩ = some (.slice none 0 0) := by rw [hwy, World.cell?_alloc_at _ _ _ _ rfl]; rfl
      have mf0 : wz21.frozen? ⟨wz11.heap.size, 0, none⟩ = false := by rw [hwy]; exact World.frozen?_alloc_at _ _ _ _ rfl
      have mt : Tag wz21 wz11.heap.size 24 := by rw [hwy]; exact tag_new _ _ _
      have mz : wz11.heap.size < wz21.heap.size := by rw [hwy]; simp
      have ml := LO
      replace HW := Lib.hid (below_step HW.out hb)
      replace s0 := cel_below hb s0
      replace HM1 := Lib.hid (hasInts_keep HM1.out hb)
      replace HM2 := Lib.hid (hasRes_keep HM2.out hb)
      replace LO := Nat.le_trans LO hb.size
      clear hb hwy
      refine hK.out _ _ ?_ (fun _ => ?_)
      · (try dsimp only); exact s0
      clear hK K
      (try simp only [Act.put, List.setIfInBounds_toArray, List.set_cons_zero, List.set_cons_succ])
      refine wpAnyH_ready (rs := [10]) (by kernel_rfl) (by simp) ?_
      refine AllReadyH.cons (o := ?oi22) ?hi22 (fun K hK => ?rest22) AllReadyH.nil
      (case hi22 => (simp only [List.getElem?_toArray, List.getElem?_cons_succ, List.getElem?_cons_zero]; rfl))
      go_simp
      obtain ⟨wz23, hwy⟩ : ∃ W, W = (wz21.setCell ⟨wz11.heap.size, 0, none⟩ (.slice an L cn)) := ⟨_, rfl⟩
      rw [← hwy]
      replace s0 : wz23.cell? ⟨w.heap.size, 0, none⟩ = some (.slice a L cap) := by rw [hwy]; exact keepA_ (s0) (Or.inl (by omega))
      replace HM1 := Lib.hid (hasInts_setS HM1.out mc0 (u := .slice an L cn))
      rw [← hwy] at HM1
      replace HM2 := Lib.hid (hasRes_setS HM2.out mc0 (u := .slice an L cn))
      rw [← hwy] at HM2
      have md0 : wz23.cell? ⟨wz11.heap.size, 0, none⟩ = some (.slice an L cn) := by rw [hwy]; exact World.cell?_setCell_same _ _ _ mc0
      replace mt : Tag wz23 wz11.heap.size 24 := by rw [hwy]; exact (tag_set mt _ _)
      replace mf0 : wz23.frozen? ⟨wz11.heap.size, 0, none⟩ = false := by rw [hwy]; simpa using mf0
      replace HW := Lib.hid (Below.setCell (p := ⟨wz11.heap.size, 0, none⟩) HW.out (by have := HWS.out; dsimp only; omega) (.slice an L cn))
      rw [← hwy] at HW
      have hsz : wz23.heap.size = wz21.heap.size := by rw [hwy]; simp
      replace mz : wz11.heap.size < wz23.heap.size := by omega
      replace LO : _ ≤ wz23.heap.size := Nat.le_trans LO (Nat.le_of_eq hsz.symm)
      clear hsz hwy mc0
      have mc0 := md0
      clear md0
      refine hK.out _ _ ?_ (fun _ => ?_)
      · (try dsimp only); exact s0
      clear hK K
      (try simp only [Act.put, List.setIfInBounds_toArray, List.set_cons_zero, List.set_cons_succ])
      have hHeld : (fun W => W.cell? ⟨w.heap.size, 0, none⟩ = some (.slice a L cap)) wz23 := s0
      first | (refine wpAnyH_take (i := 11) (oi := ?oi24) (v := ?v24) ?hi24 (by kernel_rfl) (by kernel_rfl) (by kernel_rfl) ?hQ24 (Or.inl ⟨?hw24, ?hy24⟩) (by assumption) ?rest24; (case hi24 => (simp only [List.getElem?_toArray, List.getElem?_cons_succ, List.getElem?_cons_zero]; rfl)); (case hQ24 => exact fun _ _ _ h => h); (case hw24 => rfl); (case hy24 => ((intro w hSw); (try dsimp only at hSw); go_simp; (try with_reducible rfl)))) | (refine wpAnyH_take (i := 11) (oi := ?oi25) (v := undef) ?hi25 (by kernel_rfl) (by kernel_rfl) (by kernel_rfl) ?hQ25 (Or.inr ⟨?hw25, rfl⟩) (by assumption) ?rest25; (case hi25 => (simp only [List.getElem?_toArray, List.getElem?_cons_succ, List.getElem?_cons_zero]; rfl)); (case hQ25 => exact fun _ _ _ h => h); (case hw25 => rfl))
      (try simp only [Act.put, List.setIfInBounds_toArray, List.set_cons_zero, List.set_cons_succ])
      first | (refine wpAnyH_take (i := 12) (oi := ?oi26) (v := ?v26) ?hi26 (by kernel_rfl) (by kernel_rfl) (by kernel_rfl) ?hQ26 (Or.inl ⟨?hw26, ?hy26⟩) (by assumption) ?rest26; (case hi26 => (simp only [List.getElem?_toArray, List.getElem?_cons_succ, List.getElem?_cons_zero]; rfl)); (case hQ26 => exact fun _ _ _ h => h); (case hw26 => rfl); (case hy26 => ((intro w hSw); (try dsimp only at hSw); go_simp; (try with_reducible rfl)))) | (refine wpAnyH_take (i := 12) (oi := ?oi27) (v := undef) ?hi27 (by kernel_rfl) (by kernel_rfl) (by kernel_rfl) ?hQ27 (Or.inr ⟨?hw27, rfl⟩) (by assumption) ?rest27; (case hi27 => (simp only [List.getElem?_toArray, List.getElem?_cons_succ, List.getElem?_cons_zero]; rfl)); (case hQ27 => exact fun _ _ _ h => h); (case hw27 => rfl))
      (try simp only [Act.put, List.setIfInBounds_toArray, List.set_cons_zero, List.set_cons_succ])
      clear hHeld
      refine wpAnyH_done (by kernel_rfl) ?_ _
      go_wp2_with fail
      go_meet
      exact ⟨wz11.heap.size, an, cn, ar, lr, cr, rfl, rfl, rfl, ml, mz, mc0, HM1.out, HM2.out, HNL.out, HW.out⟩
    case rest10 =>
      go_simp
      obtain ⟨wz28, hwy⟩ : ∃ W, W = wy0.alloc (.cells #[.slice none 0 0] 24) := ⟨_, rfl⟩
      rw [← hwy]
      have hb : Below wy0.heap.size wy0 wz28 := by rw [hwy]; exact below_new1 _ _
      have mc0 : wz28.cell? ⟨wy0.heap.size, 0, none⟩ = some (.slice none 0 0) := by rw [hwy, World.cell?_alloc_at _ _ _ _ rfl]; rfl
      have mf0 : wz28.frozen? ⟨wy0.heap.size, 0, none⟩ = false := by rw [hwy]; exact World.frozen?_alloc_at _ _ _ _ rfl
      have mt : Tag wz28 wy0.heap.size 24 := by rw [hwy]; exact tag_new _ _ _
      have mz : wy0.heap.size < wz28.heap.size := by rw [hwy]; simp
      have ml := LO
      replace HW := Lib.hid (below_step HW.out hb)
      replace s0 := cel_below hb s0
      replace LO := Nat.le_trans LO hb.size
      clear hb hwy
      refine hK.out _ _ ?_ (fun _ => ?_)
      · (try dsimp only); exact s0
      clear hK K
      (try simp only [Act.put, List.setIfInBounds_toArray, List.set_cons_zero, List.set_cons_succ])
      refine wpAnyH_ready (rs := [4]) (by kernel_rfl) (by simp) ?_
      refine AllReadyH.cons (o := ?oi29) ?hi29 (fun K hK => ?rest29) AllReadyH.nil
      (case hi29 => (simp only [List.getElem?_toArray, List.getElem?_cons_succ, List.getElem?_cons_zero]; rfl))
      go_simp
      ((with_reducible refine (A1.out _ _ (hasInts_keep HV.out (below_step HWr.out HW.out)) (hasAccs_take (hasAccs_keep HX.out (below_step HWr.out HW.out)) hkM)).mono ?_); rintro e wz30 ⟨an, cn, ar, lr, cr, rfl, hu, hr, hnl, hb⟩)
      replace HW := Lib.hid (below_step HW.out hb)
      replace s0 := cel_below hb s0
      replace mc0 := cel_below hb mc0
      replace mf0 := fro_below hb mz mf0
      replace mz := lt_below hb mz
      replace mt := tag_below mt hb
      have HM1 := Lib.hid hu
      have HM2 := Lib.hid hr
      have HNL := Lib.hid hnl
      clear hu hr hnl
      replace LO := Nat.le_trans LO hb.size
      clear hb
      refine hK.out _ _ ?_ (fun _ => ?_)
      · (try dsimp only); exact s0
      clear hK K
      (try simp only [Act.put, List.setIfInBounds_toArray, List.set_cons_zero, List.set_cons_succ])
      have hHeld : (fun W => W.cell? ⟨w.heap.size, 0, none⟩ = some (.slice a L cap)) wz30 := s0
      first | (refine wpAnyH_take (i := 5) (oi := ?oi31) (v := ?v31) ?hi31 (by kernel_rfl) (by kernel_rfl) (by kernel_rfl) ?hQ31 (Or.inl ⟨?hw31, ?hy31⟩) (by assumption) ?rest31; (case hi31 => (simp only [List.getElem?_toArray, List.getElem?_cons_succ, List.getElem?_cons_zero]; rfl)); (case hQ31 => exact fun _ _ _ h => h); (case hw31 => rfl); (case hy31 => ((intro w hSw); (try dsimp only at hSw); go_simp; (try with_reducible rfl)))) | (refine wpAnyH_take (i := 5) (oi := ?oi32) (v := undef) ?hi32 (by kernel_rfl) (by kernel_rfl) (by kernel_rfl) ?hQ32 (Or.inr ⟨?hw32, rfl⟩) (by assumption) ?rest32; (case hi32 => (simp only [List.getElem?_toArray, List.getElem?_cons_succ, List.getElem?_cons_zero]; rfl)); (case hQ32 => exact fun _ _ _ h => h); (case hw32 => rfl))
      (try simp only [Act.put, List.setIfInBounds_toArray, List.set_cons_zero, List.set_cons_succ])
      first | (refine wpAnyH_take (i := 6) (oi := ?oi33) (v := ?v33) ?hi33 (by kernel_rfl) (by kernel_rfl) (by kernel_rfl) ?hQ33 (Or.inl ⟨?hw33, ?hy33⟩) (by assumption) ?rest33; (case hi33 => (simp only [List.getElem?_toArray, List.getElem?_cons_succ, List.getElem?_cons_zero]; rfl)); (case hQ33 => exact fun _ _ _ h => h); (case hw33 => rfl); (case hy33 => ((intro w hSw); (try dsimp only at hSw); go_simp; (try with_reducible rfl)))) | (refine wpAnyH_take (i := 6) (oi := ?oi34) (v := undef) ?hi34 (by kernel_rfl) (by kernel_rfl) (by kernel_rfl) ?hQ34 (Or.inr ⟨?hw34, rfl⟩) (by assumption) ?rest34; (case hi34 => (simp only [List.getElem?_toArray, List.getElem?_cons_succ, List.getElem?_cons_zero]; rfl)); (case hQ34 => exact fun _ _ _ h => h); (case hw34 => rfl))
      (try simp only [Act.put, List.setIfInBounds_toArray, List.set_cons_zero, List.set_cons_succ])
      first | (refine wpAnyH_take (i := 7) (oi := ?oi35) (v := ?v35) ?hi35 (by kernel_rfl) (by kernel_rfl) (by kernel_rfl) ?hQ35 (Or.inl ⟨?hw35, ?hy35⟩) (by assumption) ?rest35; (case hi35 => (simp only [List.getElem?_toArray, List.getElem?_cons_succ, List.getElem?_cons_zero]; rfl)); (case hQ35 => exact fun _ _ _ h => h); (case hw35 => rfl); (case hy35 => ((intro w hSw); (try dsimp only at hSw); go_simp; (try with_reducible rfl)))) | (refine wpAnyH_take (i := 7) (oi := ?oi36) (v := undef) ?hi36 (by kernel_rfl) (by kernel_rfl) (by kernel_rfl) ?hQ36 (Or.inr ⟨?hw36, rfl⟩) (by assumption) ?rest36; (case hi36 => (simp only [List.getElem?_toArray, List.getElem?_cons_succ, List.getElem?_cons_zero]; rfl)); (case hQ36 => exact fun _ _ _ h => h); (case hw36 => rfl))
      (try simp only [Act.put, List.setIfInBounds_toArray, List.set_cons_zero, List.set_cons_succ])
      first | (refine wpAnyH_take (i := 8) (oi := ?oi37) (v := ?v37) ?hi37 (by kernel_rfl) (by kernel_rfl) (by kernel_rfl) ?hQ37 (Or.inl ⟨?hw37, ?hy37⟩) (by assumption) ?rest37; (case hi37 => (simp only [List.getElem?_toArray, List.getElem?_cons_succ, List.getElem?_cons_zero]; rfl)); (case hQ37 => exact fun _ _ _ h => h); (case hw37 => rfl); (case hy37 => ((intro w hSw); (try dsimp only at hSw); go_simp; (try with_reducible rfl)))) | (refine wpAnyH_take (i := 8) (oi := ?oi38) (v := undef) ?hi38 (by kernel_rfl) (by kernel_rfl) (by kernel_rfl) ?hQ38 (Or.inr ⟨?hw38, rfl⟩) (by assumption) ?rest38; (case hi38 => (simp only [List.getElem?_toArray, List.getElem?_cons_succ, List.getElem?_cons_zero]; rfl)); (case hQ38 => exact fun _ _ _ h => h); (case hw38 => rfl))
      (try simp only [Act.put, List.setIfInBounds_toArray, List.set_cons_zero, List.set_cons_succ])
      clear hHeld
      refine wpAnyH_ready (rs := [10]) (by kernel_rfl) (by simp) ?_
      refine AllReadyH.cons (o := ?oi39) ?hi39 (fun K hK => ?rest39) AllReadyH.nil
      (case hi39 => (simp only [List.getElem?_toArray, List.getElem?_cons_succ, List.getElem?_cons_zero]; rfl))
      go_simp
      obtain ⟨wz40, hwy⟩ : ∃ W, W = (wz30.setCell ⟨wy0.heap.size, 0, none⟩ (.slice an L cn)) := ⟨_, rfl⟩
      rw [← hwy]
      replace s0 : wz40.cell? ⟨w.heap.size, 0, none⟩ = some (.slice a L cap) := by rw [hwy]; exact keepA_ (s0) (Or.inl (by omega))
      replace HM1 := Lib.hid (hasInts_setS HM1.out mc0 (u := .slice an L cn))
      rw [← hwy] at HM1
      replace HM2 := Lib.hid (hasRes_setS HM2.out mc0 (u := .slice an L cn))
      rw [← hwy] at HM2
      have md0 : wz40.cell? ⟨wy0.heap.size, 0, none⟩ = some (.slice an L cn) := by rw [hwy]; exact World.cell?_setCell_same _ _ _ mc0
      replace mt : Tag wz40 wy0.heap.size 24 := by rw [hwy]; exact (tag_set mt _ _)
      replace mf0 : wz40.frozen? ⟨wy0.heap.size, 0, none⟩ = false := by rw [hwy]; simpa using mf0
      replace HW := Lib.hid (Below.setCell (p := ⟨wy0.heap.size, 0, none⟩) HW.out (by have := HWS.out; dsimp only; omega) (.slice an L cn))
      rw [← hwy] at HW
      have hsz : wz40.heap.size = wz30.heap.size := by rw [hwy]; simp
      replace mz : wy0.heap.size < wz40.heap.size := by omega
      replace LO : _ ≤ wz40.heap.size := Nat.le_trans LO (Nat.le_of_eq hsz.symm)
      clear hsz hwy mc0
      have mc0 := md0
      clear md0
      refine hK.out _ _ ?_ (fun _ => ?_)
      · (try dsimp only); exact s0
      clear hK K
      (try simp only [Act.put, List.setIfInBounds_toArray, List.set_cons_zero, List.set_cons_succ])
      have hHeld : (fun W => W.cell? ⟨w.heap.size, 0, none⟩ = some (.slice a L cap)) wz40 := s0
      first | (refine wpAnyH_take (i := 11) (oi := ?oi41) (v := ?v41) ?hi41 (by kernel_rfl) (by kernel_rfl) (by kernel_rfl) ?hQ41 (Or.inl ⟨?hw41, ?hy41⟩) (by assumption) ?rest41; (case hi41 => (simp only [List.getElem?_toArray, List.getElem?_cons_succ, List.getElem?_cons_zero]; rfl)); (case hQ41 => exact fun _ _ _ h => h); (case hw41 => rfl); (case hy41 => ((intro w hSw); (try dsimp only at hSw); go_simp; (try with_reducible rfl)))) | (refine wpAnyH_take (i := 11) (oi := ?oi42) (v := undef) ?hi42 (by kernel_rfl) (by kernel_rfl) (by kernel_rfl) ?hQ42 (Or.inr ⟨?hw42, rfl⟩) (by assumption) ?rest42; (case hi42 => (simp only [List.getElem?_toArray, List.getElem?_cons_succ, List.getElem?_cons_zero]; rfl)); (case hQ42 => exact fun _ _ _ h => h); (case hw42 => rfl))
      (try simp only [Act.put, List.setIfInBounds_toArray, List.set_cons_zero, List.set_cons_succ])
      first | (refine wpAnyH_take (i := 12) (oi := ?oi43) (v := ?v43) ?hi43 (by kernel_rfl) (by kernel_rfl) (by kernel_rfl) ?hQ43 (Or.inl ⟨?hw43, ?hy43⟩) (by assumption) ?rest43; (case hi43 => (simp only [List.getElem?_toArray, List.getElem?_cons_succ, List.getElem?_cons_zero]; rfl)); (case hQ43 => exact fun _ _ _ h => h); (case hw43 => rfl); (case hy43 => ((intro w hSw); (try dsimp only at hSw); go_simp; (try with_reducible rfl)))) | (refine wpAnyH_take (i := 12) (oi := ?oi44) (v := undef) ?hi44 (by kernel_rfl) (by kernel_rfl) (by kernel_rfl) ?hQ44 (Or.inr ⟨?hw44, rfl⟩) (by assumption) ?rest44; (case hi44 => (simp only [List.getElem?_toArray, List.getElem?_cons_succ, List.getElem?_cons_zero]; rfl)); (case hQ44 => exact fun _ _ _ h => h); (case hw44 => rfl))
      (try simp only [Act.put, List.setIfInBounds_toArray, List.set_cons_zero, List.set_cons_succ])
      clear hHeld
      refine wpAnyH_done (by kernel_rfl) ?_ _
      go_wp2_with fail
      go_meet
      exact ⟨wy0.heap.size, an, cn, ar, lr, cr, rfl, rfl, rfl, ml, mz, mc0, HM1.out, HM2.out, HNL.out, HW.out⟩
  case rest =>
    obtain ⟨g1, b1, d1, b2, m2, d2, rfl, rfl, rfl, hg1, hgw1, hm1, hM1, hM2, hnl1, hb⟩ := hcut
    replace HW := Lib.hid (below_step HWr.out hb)
    have HY1 := Lib.hid hM1
    have HS1 := Lib.hid hM2
    have HN1 := Lib.hid hnl1
    replace HU0 := Lib.hid (hasInts_keep HU0.out hb)
    replace HR0 := Lib.hid (hasRes_keep HR0.out hb)
    replace mmq0 := cel_below hb mmq0
    replace xxq0 := cel_below hb xxq0
    clear hb hM1 hM2 hnl1 HWr
    obtain ⟨wq, hwq⟩ : ∃ W : World, W = wc := ⟨_, rfl⟩
    rw [← hwq] at HW HY1 HS1 HU0 HR0 hm1 hgw1 mmq0 xxq0 ⊢
    clear hwq
    by_cases he1 : E1 = 0
    case neg =>
      have hh1 : (E1 != 0) = true := by simp [he1]
      have hee : E = E1 := by rw [HEE.out, if_neg he1]
      subst hee
      clear he1
      go_wp2
      go_ret
      exact ⟨rfl, HW.out⟩
    have HE1 := Lib.hid he1
    subst he1
    have s_z : w.heap.size < wq.heap.size := World.block_lt_of_cell? wq _ mmq0
    have HK0 : Hid (k = cp → M = k) := Lib.hid (fun h => by omega)
    by_cases hck : cp = k
    case pos =>
      subst hck
      obtain rfl : M = cp := by omega
      go_upto_region 9 with fail
      have HWr := Lib.hid HW.out
      go_cut [15, 16, 17] (fun s1 s2 s3 wx => ∃ (g : Nat) (an : Option Addr) (cn : Nat) (ar : Option Addr) (lr cr : Nat), s1 = .pointer (some ⟨g, 0, none⟩) ∧ s2 = .slice ar lr cr ∧ s3 = .int .i64 E2 ∧ wq.heap.size ≤ g ∧ g < wx.heap.size ∧ wx.cell? ⟨g, 0, none⟩ = some (.slice an L cn) ∧ HasInts wx (.slice an L cn) Z2 ∧ HasRes wx (.slice ar lr cr) R2 ∧ NilOk (.slice ar lr cr) ∧ Below wq.heap.size wq wx)
      case first =>
        have HW := Lib.hid (Below.refl wq.heap.size wq)
        have HWS := Lib.hid (Nat.le_refl wq.heap.size)
        refine wp_region_held_drew (S := fun W => W.cell? ⟨g1, 0, none⟩ = some (.slice b1 L d1)) (by kernel_rfl) ?_ (fun hHeld => ?_)
        · (try dsimp only); exact by first | assumption | go_simp
        replace HW := Lib.hid (show Below _ _ (World.drew wq) from below_drews HW.out 1)
        obtain ⟨wy0, hwy⟩ : ∃ W, W = World.drew wq := ⟨_, rfl⟩
        rw [← hwy] at HW ⊢
        have hHeld2 := hHeld
        rw [← hwy] at hHeld2
        clear hHeld
        have LO : wq.heap.size ≤ wy0.heap.size := by rw [hwy]; exact Nat.le_refl _
        have hb : Below wq.heap.size wq wy0 := by rw [hwy]; exact below_drews (Below.refl _ _) 1
        clear hb hwy
        have s0 := hHeld2
        clear hHeld2
        (try dsimp only at s0)
        have hHeld : (fun W => W.cell? ⟨g1, 0, none⟩ = some (.slice b1 L d1)) wy0 := s0
        first | (refine wpAnyH_take (i := 0) (oi := ?oi45) (v := ?v45) ?hi45 (by kernel_rfl) (by kernel_rfl) (by kernel_rfl) ?hQ45 (Or.inl ⟨?hw45, ?hy45⟩) (by assumption) ?rest45; (case hi45 => (simp only [List.getElem?_toArray, List.getElem?_cons_zero]; rfl)); (case hQ45 => exact fun _ _ _ h => h); (case hw45 => rfl); (case hy45 => ((intro w hSw); (try dsimp only at hSw); go_simp; (try with_reducible rfl)))) | (refine wpAnyH_take (i := 0) (oi := ?oi46) (v := undef) ?hi46 (by kernel_rfl) (by kernel_rfl) (by kernel_rfl) ?hQ46 (Or.inr ⟨?hw46, rfl⟩) (by assumption) ?rest46; (case hi46 => (simp only [List.getElem?_toArray, List.getElem?_cons_zero]; rfl)); (case hQ46 => exact fun _ _ _ h => h); (case hw46 => rfl))
        (try simp only [Act.put, List.setIfInBounds_toArray, List.set_cons_zero, List.set_cons_succ])
        first | (refine wpAnyH_take (i := 1) (oi := ?oi47) (v := ?v47) ?hi47 (by kernel_rfl) (by kernel_rfl) (by kernel_rfl) ?hQ47 (Or.inl ⟨?hw47, ?hy47⟩) (by assumption) ?rest47; (case hi47 => (simp only [List.getElem?_toArray, List.getElem?_cons_succ, List.getElem?_cons_zero]; rfl)); (case hQ47 => exact fun _ _ _ h => h); (case hw47 => rfl); (case hy47 => ((intro w hSw); (try dsimp only at hSw); go_simp; (try with_reducible rfl)))) | (refine wpAnyH_take (i := 1) (oi := ?oi48) (v := undef) ?hi48 (by kernel_rfl) (by kernel_rfl) (by kernel_rfl) ?hQ48 (Or.inr ⟨?hw48, rfl⟩) (by assumption) ?rest48; (case hi48 => (simp only [List.getElem?_toArray, List.getElem?_cons_succ, List.getElem?_cons_zero]; rfl)); (case hQ48 => exact fun _ _ _ h => h); (case hw48 => rfl))
        (try simp only [Act.put, List.setIfInBounds_toArray, List.set_cons_zero, List.set_cons_succ])
        first | (refine wpAnyH_take (i := 2) (oi := ?oi49) (v := ?v49) ?hi49 (by kernel_rfl) (by kernel_rfl) (by kernel_rfl) ?hQ49 (Or.inl ⟨?hw49, ?hy49⟩) (by assumption) ?rest49; (case hi49 => (simp only [List.getElem?_toArray, List.getElem?_cons_succ, List.getElem?_cons_zero]; rfl)); (case hQ49 => exact fun _ _ _ h => h); (case hw49 => rfl); (case hy49 => ((intro w hSw); (try dsimp only at hSw); go_simp; (try with_reducible rfl)))) | (refine wpAnyH_take (i := 2) (oi := ?oi50) (v := undef) ?hi50 (by kernel_rfl) (by kernel_rfl) (by kernel_rfl) ?hQ50 (Or.inr ⟨?hw50, rfl⟩) (by assumption) ?rest50; (case hi50 => (simp only [List.getElem?_toArray, List.getElem?_cons_succ, List.getElem?_cons_zero]; rfl)); (case hQ50 => exact fun _ _ _ h => h); (case hw50 => rfl))
        (try simp only [Act.put, List.setIfInBounds_toArray, List.set_cons_zero, List.set_cons_succ])
        first | (refine wpAnyH_take (i := 3) (oi := ?oi51) (v := ?v51) ?hi51 (by kernel_rfl) (by kernel_rfl) (by kernel_rfl) ?hQ51 (Or.inl ⟨?hw51, ?hy51⟩) (by assumption) ?rest51; (case hi51 => (simp only [List.getElem?_toArray, List.getElem?_cons_succ, List.getElem?_cons_zero]; rfl)); (case hQ51 => exact fun _ _ _ h => h); (case hw51 => rfl); (case hy51 => ((intro w hSw); (try dsimp only at hSw); go_simp; (try with_reducible rfl)))) | (refine wpAnyH_take (i := 3) (oi := ?oi52) (v := undef) ?hi52 (by kernel_rfl) (by kernel_rfl) (by kernel_rfl) ?hQ52 (Or.inr ⟨?hw52, rfl⟩) (by assumption) ?rest52; (case hi52 => (simp only [List.getElem?_toArray, List.getElem?_cons_succ, List.getElem?_cons_zero]; rfl)); (case hQ52 => exact fun _ _ _ h => h); (case hw52 => rfl))
        (try simp only [Act.put, List.setIfInBounds_toArray, List.set_cons_zero, List.set_cons_succ])
        clear hHeld
        refine wpAnyH_ready (rs := [4, 9]) (by kernel_rfl) (by simp) ?_
        refine AllReadyH.cons (o := ?oi53) ?hi53 (fun K hK => ?rest53) (AllReadyH.cons (o := ?oi54) ?hi54 (fun K hK => ?rest54) AllReadyH.nil)
        (case hi53 => (simp only [List.getElem?_toArray, List.getElem?_cons_succ, List.getElem?_cons_zero]; rfl))
        (case hi54 => (simp only [List.getElem?_toArray, List.getElem?_cons_succ, List.getElem?_cons_zero]; rfl))
        case rest53 =>
          go_simp
          ((with_reducible refine (A2.out _ _ _ (hasInts_keep HY1.out HW.out) (hasAccs_drop (hasAccs_keep HX.out (below_step HWr.out HW.out)) hkM (by omega) (fun b o hb hk => by subst hb; first | omega | simp [Addr.add]))).mono ?_); rintro e wz55 ⟨an, cn, ar, lr, cr, rfl, hu, hr, hnl, hb⟩)
          replace HW := Lib.hid (below_step HW.out hb)
          replace s0 := cel_below hb s0
          have HM1 := Lib.hid hu
          have HM2 := Lib.hid hr
          have HNL := Lib.hid hnl
          clear hu hr hnl
          replace LO := Nat.le_trans LO hb.size
          clear hb
          refine hK.out _ _ ?_ (fun _ => ?_)
          · (try dsimp only); exact s0
          clear hK K
          (try simp only [Act.put, List.setIfInBounds_toArray, List.set_cons_zero, List.set_cons_succ])
          have hHeld : (fun W => W.cell? ⟨g1, 0, none⟩ = some (.slice b1 L d1)) wz55 := s0
          first | (refine wpAnyH_take (i := 5) (oi := ?oi56) (v := ?v56) ?hi56 (by kernel_rfl) (by kernel_rfl) (by kernel_rfl) ?hQ56 (Or.inl ⟨?hw56, ?hy56⟩) (by assumption) ?rest56; (case hi56 => (simp only [List.getElem?_toArray, List.getElem?_cons_succ, List.getElem?_cons_zero]; rfl)); (case hQ56 => exact fun _ _ _ h => h); (case hw56 => rfl); (case hy56 => ((intro w hSw); (try dsimp only at hSw); go_simp; (try with_reducible rfl)))) | (refine wpAnyH_take (i := 5) (oi := ?oi57) (v := undef) ?hi57 (by kernel_rfl) (by kernel_rfl) (by kernel_rfl) ?hQ57 (Or.inr ⟨?hw57, rfl⟩) (by assumption) ?rest57; (case hi57 => (simp only [List.getElem?_toArray, List.getElem?_cons_succ, List.getElem?_cons_zero]; rfl)); (case hQ57 => exact fun _ _ _ h => h); (case hw57 => rfl))
          (try simp only [Act.put, List.setIfInBounds_toArray, List.set_cons_zero, List.set_cons_succ])
          first | (refine wpAnyH_take (i := 6) (oi := ?oi58) (v := ?v58) ?hi58 (by kernel_rfl) (by kernel_rfl) (by kernel_rfl) ?hQ58 (Or.inl ⟨?hw58, ?hy58⟩) (by assumption) ?rest58; (case hi58 => (simp only [List.getElem?_toArray, List.getElem?_cons_succ, List.getElem?_cons_zero]; rfl)); (case hQ58 => exact fun _ _ _ h => h); (case hw58 => rfl); (case hy58 => ((intro w hSw); (try dsimp only at hSw); go_simp; (try with_reducible rfl)))) | (refine wpAnyH_take (i := 6) (oi := ?oi59) (v := undef) ?hi59 (by kernel_rfl) (by kernel_rfl) (by kernel_rfl) ?hQ59 (Or.inr ⟨?hw59, rfl⟩) (by assumption) ?rest59; (case hi59 => (simp only [List.getElem?_toArray, List.getElem?_cons_succ, List.getElem?_cons_zero]; rfl)); (case hQ59 => exact fun _ _ _ h => h); (case hw59 => rfl))
          (try simp only [Act.put, List.setIfInBounds_toArray, List.set_cons_zero, List.set_cons_succ])
          first | (refine wpAnyH_take (i := 7) (oi := ?oi60) (v := ?v60) ?hi60 (by kernel_rfl) (by kernel_rfl) (by kernel_rfl) ?hQ60 (Or.inl ⟨?hw60, ?hy60⟩) (by assumption) ?rest60; (case hi60 => (simp only [List.getElem?_toArray, List.getElem?_cons_succ, List.getElem?_cons_zero]; rfl)); (case hQ60 => exact fun _ _ _ h => h); (case hw60 => rfl); (case hy60 => ((intro w hSw); (try dsimp only at hSw); go_simp; (try with_reducible rfl)))) | (refine wpAnyH_take (i := 7) (oi := ?oi61) (v := undef) ?hi61 (by kernel_rfl) (by kernel_rfl) (by kernel_rfl) ?hQ61 (Or.inr ⟨?hw61, rfl⟩) (by assumption) ?rest61; (case hi61 => (simp only [List.getElem?_toArray, List.getElem?_cons_succ, List.getElem?_cons_zero]; rfl)); (case hQ61 => exact fun _ _ _ h => h); (case hw61 => rfl))
          (try simp only [Act.put, List.setIfInBounds_toArray, List.set_cons_zero, List.set_cons_succ])
          first | (refine wpAnyH_take (i := 8) (oi := ?oi62) (v := ?v62) ?hi62 (by kernel_rfl) (by kernel_rfl) (by kernel_rfl) ?hQ62 (Or.inl ⟨?hw62, ?hy62⟩) (by assumption) ?rest62; (case hi62 => (simp only [List.getElem?_toArray, List.getElem?_cons_succ, List.getElem?_cons_zero]; rfl)); (case hQ62 => exact fun _ _ _ h => h); (case hw62 => rfl); (case hy62 => ((intro w hSw); (try dsimp only at hSw); go_simp; (try with_reducible rfl)))) | (refine wpAnyH_take (i := 8) (oi := ?oi63) (v := undef) ?hi63 (by kernel_rfl) (by kernel_rfl) (by kernel_rfl) ?hQ63 (Or.inr ⟨?hw63, rfl⟩) (by assumption) ?rest63; (case hi63 => (simp only [List.getElem?_toArray, List.getElem?_cons_succ, List.getElem?_cons_zero]; rfl)); (case hQ63 => exact fun _ _ _ h => h); (case hw63 => rfl))
          (try simp only [Act.put, List.setIfInBounds_toArray, List.set_cons_zero, List.set_cons_succ])
          clear hHeld
          refine wpAnyH_ready (rs := [9]) (by kernel_rfl) (by simp) ?_
          refine AllReadyH.cons (o := ?oi64) ?hi64 (fun K hK => ?rest64) AllReadyH.nil
          (case hi64 => (simp only [List.getElem?_toArray, List.getElem?_cons_succ, List.getElem?_cons_zero]; rfl))
          go_simp
          obtain ⟨wz65, hwy⟩ : ∃ W, W = wz55.alloc (.cells #[.slice none 0 0] 24) := ⟨_, rfl⟩
          rw [← hwy]
          have hb : Below wz55.heap.size wz55 wz65 := by rw [hwy]; exact below_new1 _ _
          have mc0 : wz65.cell? ⟨wz55.heap.size, 0, none⟩ = some (.slice none 0 0) := by rw [hwy, World.cell?_alloc_at _ _ _ _ rfl]; rfl
          have mf0 : wz65.frozen? ⟨wz55.heap.size, 0, none⟩ = false := by rw [hwy]; exact World.frozen?_alloc_at _ _ _ _ rfl
          have mt : Tag wz65 wz55.heap.size 24 := by rw [hwy]; exact tag_new _ _ _
          have mz : wz55.heap.size < wz65.heap.size := by rw [hwy]; simp
          have ml := LO
          replace HW := Lib.hid (below_step HW.out hb)
          replace s0 := cel_below hb s0
          replace HM1 := Lib.hid (hasInts_keep HM1.out hb)
          replace HM2 := Lib.hid (hasRes_keep HM2.out hb)
          replace LO := Nat.le_trans LO hb.size
          clear hb hwy
          refine hK.out _ _ ?_ (fun _ => ?_)
          · (try dsimp only); exact s0
          clear hK K
          (try simp only [Act.put, List.setIfInBounds_toArray, List.set_cons_zero, List.set_cons_succ])
          refine wpAnyH_ready (rs := [10]) (by kernel_rfl) (by simp) ?_
          refine AllReadyH.cons (o := ?oi66) ?hi66 (fun K hK => ?rest66) AllReadyH.nil
          (case hi66 => (simp only [List.getElem?_toArray, List.getElem?_cons_succ, List.getElem?_cons_zero]; rfl))
          go_simp
          obtain ⟨wz67, hwy⟩ : ∃ W, W = (wz65.setCell ⟨wz55.heap.size, 0, none⟩ (.slice an L cn)) := ⟨_, rfl⟩
          rw [← hwy]
          replace s0 : wz67.cell? ⟨g1, 0, none⟩ = some (.slice b1 L d1) := by rw [hwy]; exact keepA_ (s0) (Or.inl (by omega))
          replace HM1 := Lib.hid (hasInts_setS HM1.out mc0 (u := .slice an L cn))
          rw [← hwy] at HM1
          replace HM2 := Lib.hid (hasRes_setS HM2.out mc0 (u := .slice an L cn))
          rw [← hwy] at HM2
          have md0 : wz67.cell? ⟨wz55.heap.size, 0, none⟩ = some (.slice an L cn) := by rw [hwy]; exact World.cell?_setCell_same _ _ _ mc0
          replace mt : Tag wz67 wz55.heap.size 24 := by rw [hwy]; exact (tag_set mt _ _)
          replace mf0 : wz67.frozen? ⟨wz55.heap.size, 0, none⟩ = false := by rw [hwy]; simpa using mf0
          replace HW := Lib.hid (Below.setCell (p := ⟨wz55.heap.size, 0, none⟩) HW.out (by have := HWS.out; dsimp only; omega) (.slice an L cn))
          rw [← hwy] at HW
          have hsz : wz67.heap.size = wz65.heap.size := by rw [hwy]; simp
          replace mz : wz55.heap.size < wz67.heap.size := by omega
          replace LO : _ ≤ wz67.heap.size := Nat.le_trans LO (Nat.le_of_eq hsz.symm)
          clear hsz hwy mc0
          have mc0 := md0
          clear md0
          refine hK.out _ _ ?_ (fun _ => ?_)
          · (try dsimp only); exact s0
          clear hK K
          (try simp only [Act.put, List.setIfInBounds_toArray, List.set_cons_zero, List.set_cons_succ])
          have hHeld : (fun W => W.cell? ⟨g1, 0, none⟩ = some (.slice b1 L d1)) wz67 := s0
          first | (refine wpAnyH_take (i := 11) (oi := ?oi68) (v := ?v68) ?hi68 (by kernel_rfl) (by kernel_rfl) (by kernel_rfl) ?hQ68 (Or.inl ⟨?hw68, ?hy68⟩) (by assumption) ?rest68; (case hi68 => (simp only [List.getElem?_toArray, List.getElem?_cons_succ, List.getElem?_cons_zero]; rfl)); (case hQ68 => exact fun _ _ _ h => h); (case hw68 => rfl); (case hy68 => ((intro w hSw); (try dsimp only at hSw); go_simp; (try with_reducible rfl)))) | (refine wpAnyH_take (i := 11) (oi := ?oi69) (v := undef) ?hi69 (by kernel_rfl) (by kernel_rfl) (by kernel_rfl) ?hQ69 (Or.inr ⟨?hw69, rfl⟩) (by assumption) ?rest69; (case hi69 => (simp only [List.getElem?_toArray, List.getElem?_cons_succ, List.getElem?_cons_zero]; rfl)); (case hQ69 => exact fun _ _ _ h => h); (case hw69 => rfl))
          (try simp only [Act.put, List.setIfInBounds_toArray, List.set_cons_zero, List.set_cons_succ])
          first | (refine wpAnyH_take (i := 12) (oi := ?oi70) (v := ?v70) ?hi70 (by kernel_rfl) (by kernel_rfl) (by kernel_rfl) ?hQ70 (Or.inl ⟨?hw70, ?hy70⟩) (by assumption) ?rest70; (case hi70 => (simp only [List.getElem?_toArray, List.getElem?_cons_succ, List.getElem?_cons_zero]; rfl)); (case hQ70 => exact fun _ _ _ h => h); (case hw70 => rfl); (case hy70 => ((intro w hSw); (try dsimp only at hSw); go_simp; (try with_reducible rfl)))) | (refine wpAnyH_take (i := 12) (oi := ?oi71) (v := undef) ?hi71 (by kernel_rfl) (by kernel_rfl) (by kernel_rfl) ?hQ71 (Or.inr ⟨?hw71, rfl⟩) (by assumption) ?rest71; (case hi71 => (simp only [List.getElem?_toArray, List.getElem?_cons_succ, List.getElem?_cons_zero]; rfl)); (case hQ71 => exact fun _ _ _ h => h); (case hw71 => rfl))
          (try simp only [Act.put, List.setIfInBounds_toArray, List.set_cons_zero, List.set_cons_succ])
          clear hHeld
          refine wpAnyH_done (by kernel_rfl) ?_ _
          go_wp2_with fail
          go_meet
          exact ⟨wz55.heap.size, an, cn, ar, lr, cr, rfl, rfl, rfl, ml, mz, mc0, HM1.out, HM2.out, HNL.out, HW.out⟩
        case rest54 =>
          go_simp
          obtain ⟨wz72, hwy⟩ : ∃ W, W = wy0.alloc (.cells #[.slice none 0 0] 24) := ⟨_, rfl⟩
          rw [← hwy]
          have hb : Below wy0.heap.size wy0 wz72 := by rw [hwy]; exact below_new1 _ _
          have mc0 : wz72.cell? ⟨wy0.heap.size, 0, none⟩ = some (.slice none 0 0) := by rw [hwy, World.cell?_alloc_at _ _ _ _ rfl]; rfl
          have mf0 : wz72.frozen? ⟨wy0.heap.size, 0, none⟩ = false := by rw [hwy]; exact World.frozen?_alloc_at _ _ _ _ rfl
          have mt : Tag wz72 wy0.heap.size 24 := by rw [hwy]; exact tag_new _ _ _
          have mz : wy0.heap.size < wz72.heap.size := by rw [hwy]; simp
          have ml := LO
          replace HW := Lib.hid (below_step HW.out hb)
          replace s0 := cel_below hb s0
          replace LO := Nat.le_trans LO hb.size
          clear hb hwy
          refine hK.out _ _ ?_ (fun _ => ?_)
          · (try dsimp only); exact s0
          clear hK K
          (try simp only [Act.put, List.setIfInBounds_toArray, List.set_cons_zero, List.set_cons_succ])
          refine wpAnyH_ready (rs := [4]) (by kernel_rfl) (by simp) ?_
          refine AllReadyH.cons (o := ?oi73) ?hi73 (fun K hK => ?rest73) AllReadyH.nil
          (case hi73 => (simp only [List.getElem?_toArray, List.getElem?_cons_succ, List.getElem?_cons_zero]; rfl))
          go_simp
          ((with_reducible refine (A2.out _ _ _ (hasInts_keep HY1.out HW.out) (hasAccs_drop (hasAccs_keep HX.out (below_step HWr.out HW.out)) hkM (by omega) (fun b o hb hk => by subst hb; first | omega | simp [Addr.add]))).mono ?_); rintro e wz74 ⟨an, cn, ar, lr, cr, rfl, hu, hr, hnl, hb⟩)
          replace HW := Lib.hid (below_step HW.out hb)
          replace s0 := cel_below hb s0
          replace mc0 := cel_below hb mc0
          replace mf0 := fro_below hb mz mf0
          replace mz := lt_below hb mz
          replace mt := tag_below mt hb
          have HM1 := Lib.hid hu
          have HM2 := Lib.hid hr
          have HNL := Lib.hid hnl
          clear hu hr hnl
          replace LO := Nat.le_trans LO hb.size
          clear hb
          refine hK.out _ _ ?_ (fun _ => ?_)
          · (try dsimp only); exact s0
          clear hK K
          (try simp only [Act.put, List.setIfInBounds_toArray, List.set_cons_zero, List.set_cons_succ])
          have hHeld : (fun W => W.cell? ⟨g1, 0, none⟩ = some (.slice b1 L d1)) wz74 := s0
          first | (refine wpAnyH_take (i := 5) (oi := ?oi75) (v := ?v75) ?hi75 (by kernel_rfl) (by kernel_rfl) (by kernel_rfl) ?hQ75 (Or.inl ⟨?hw75, ?hy75⟩) (by assumption) ?rest75; (case hi75 => (simp only [List.getElem?_toArray, List.getElem?_cons_succ, List.getElem?_cons_zero]; rfl)); (case hQ75 => exact fun _ _ _ h => h); (case hw75 => rfl); (case hy75 => ((intro w hSw); (try dsimp only at hSw); go_simp; (try with_reducible rfl)))) | (refine wpAnyH_take (i := 5) (oi := ?oi76) (v := undef) ?hi76 (by kernel_rfl) (by kernel_rfl) (by kernel_rfl) ?hQ76 (Or.inr ⟨?hw76, rfl⟩) (by assumption) ?rest76; (case hi76 => (simp only [List.getElem?_toArray, List.getElem?_cons_succ, List.getElem?_cons_zero]; rfl)); (case hQ76 => exact fun _ _ _ h => h); (case hw76 => rfl))
          (try simp only [Act.put, List.setIfInBounds_toArray, List.set_cons_zero, List.set_cons_succ])
          first | (refine wpAnyH_take (i := 6) (oi := ?oi77) (v := ?v77) ?hi77 (by kernel_rfl) (by kernel_rfl) (by kernel_rfl) ?hQ77 (Or.inl ⟨?hw77, ?hy77⟩) (by assumption) ?rest77; (case hi77 => (simp only [List.getElem?_toArray, List.getElem?_cons_succ, List.getElem?_cons_zero]; rfl)); (case hQ77 => exact fun _ _ _ h => h); (case hw77 => rfl); (case hy77 => ((intro w hSw); (try dsimp only at hSw); go_simp; (try with_reducible rfl)))) | (refine wpAnyH_take (i := 6) (oi := ?oi78) (v := undef) ?hi78 (by kernel_rfl) (by kernel_rfl) (by kernel_rfl) ?hQ78 (Or.inr ⟨?hw78, rfl⟩) (by assumption) ?rest78; (case hi78 => (simp only [List.getElem?_toArray, List.getElem?_cons_succ, List.getElem?_cons_zero]; rfl)); (case hQ78 => exact fun _ _ _ h => h); (case hw78 => rfl))
          (try simp only [Act.put, List.setIfInBounds_toArray, List.set_cons_zero, List.set_cons_succ])
          first | (refine wpAnyH_take (i := 7) (oi := ?oi79) (v := ?v79) ?hi79 (by kernel_rfl) (by kernel_rfl) (by kernel_rfl) ?hQ79 (Or.inl ⟨?hw79, ?hy79⟩) (by assumption) ?rest79; (case hi79 => (simp only [List.getElem?_toArray, List.getElem?_cons_succ, List.getElem?_cons_zero]; rfl)); (case hQ79 => exact fun _ _ _ h => h); (case hw79 => rfl); (case hy79 => ((intro w hSw); (try dsimp only at hSw); go_simp; (try with_reducible rfl)))) | (refine wpAnyH_take (i := 7) (oi := ?oi80) (v := undef) ?hi80 (by kernel_rfl) (by kernel_rfl) (by kernel_rfl) ?hQ80 (Or.inr ⟨?hw80, rfl⟩) (by assumption) ?rest80; (case hi80 => (simp only [List.getElem?_toArray, List.getElem?_cons_succ, List.getElem?_cons_zero]; rfl)); (case hQ80 => exact fun _ _ _ h => h); (case hw80 => rfl))
          (try simp only [Act.put, List.setIfInBounds_toArray, List.set_cons_zero, List.set_cons_succ])
          first | (refine wpAnyH_take (i := 8) (oi := ?oi81) (v := ?v81) ?hi81 (by kernel_rfl) (by kernel_rfl) (by kernel_rfl) ?hQ81 (Or.inl ⟨?hw81, ?hy81⟩) (by assumption) ?rest81; (case hi81 => (simp only [List.getElem?_toArray, List.getElem?_cons_succ, List.getElem?_cons_zero]; rfl)); (case hQ81 => exact fun _ _ _ h => h); (case hw81 => rfl); (case hy81 => ((intro w hSw); (try dsimp only at hSw); go_simp; (try with_reducible rfl)))) | (refine wpAnyH_take (i := 8) (oi := ?oi82) (v := undef) ?hi82 (by kernel_rfl) (by kernel_rfl) (by kernel_rfl) ?hQ82 (Or.inr ⟨?hw82, rfl⟩) (by assumption) ?rest82; (case hi82 => (simp only [List.getElem?_toArray, List.getElem?_cons_succ, List.getElem?_cons_zero]; rfl)); (case hQ82 => exact fun _ _ _ h => h); (case hw82 => rfl))
          (try simp only [Act.put, List.setIfInBounds_toArray, List.set_cons_zero, List.set_cons_succ])
          clear hHeld
          refine wpAnyH_ready (rs := [10]) (by kernel_rfl) (by simp) ?_
          refine AllReadyH.cons (o := ?oi83) ?hi83 (fun K hK => ?rest83) AllReadyH.nil
          (case hi83 => (simp only [List.getElem?_toArray, List.getElem?_cons_succ, List.getElem?_cons_zero]; rfl))
          go_simp
          obtain ⟨wz84, hwy⟩ : ∃ W, W = (wz74.setCell ⟨wy0.heap.size, 0, none⟩ (.slice an L cn)) := ⟨_, rfl⟩
          rw [← hwy]
          replace s0 : wz84.cell? ⟨g1, 0, none⟩ = some (.slice b1 L d1) := by rw [hwy]; exact keepA_ (s0) (Or.inl (by omega))
          replace HM1 := Lib.hid (hasInts_setS HM1.out mc0 (u := .slice an L cn))
          rw [← hwy] at HM1
          replace HM2 := Lib.hid (hasRes_setS HM2.out mc0 (u := .slice an L cn))
          rw [← hwy] at HM2
          have md0 : wz84.cell? ⟨wy0.heap.size, 0, none⟩ = some (.slice an L cn) := by rw [hwy]; exact World.cell?_setCell_same _ _ _ mc0
          replace mt : Tag wz84 wy0.heap.size 24 := by rw [hwy]; exact (tag_set mt _ _)
          replace mf0 : wz84.frozen? ⟨wy0.heap.size, 0, none⟩ = false := by rw [hwy]; simpa using mf0
          replace HW := Lib.hid (Below.setCell (p := ⟨wy0.heap.size, 0, none⟩) HW.out (by have := HWS.out; dsimp only; omega) (.slice an L cn))
          rw [← hwy] at HW
          have hsz : wz84.heap.size = wz74.heap.size := by rw [hwy]; simp
          replace mz : wy0.heap.size < wz84.heap.size := by omega
          replace LO : _ ≤ wz84.heap.size := Nat.le_trans LO (Nat.le_of_eq hsz.symm)
          clear hsz hwy mc0
          have mc0 := md0
          clear md0
          refine hK.out _ _ ?_ (fun _ => ?_)
          · (try dsimp only); exact s0
          clear hK K
          (try simp only [Act.put, List.setIfInBounds_toArray, List.set_cons_zero, List.set_cons_succ])
          have hHeld : (fun W => W.cell? ⟨g1, 0, none⟩ = some (.slice b1 L d1)) wz84 := s0
          first | (refine wpAnyH_take (i := 11) (oi := ?oi85) (v := ?v85) ?hi85 (by kernel_rfl) (by kernel_rfl) (by kernel_rfl) ?hQ85 (Or.inl ⟨?hw85, ?hy85⟩) (by assumption) ?rest85; (case hi85 => (simp only [List.getElem?_toArray, List.getElem?_cons_succ, List.getElem?_cons_zero]; rfl)); (case hQ85 => exact fun _ _ _ h => h); (case hw85 => rfl); (case hy85 => ((intro w hSw); (try dsimp only at hSw); go_simp; (try with_reducible rfl)))) | (refine wpAnyH_take (i := 11) (oi := ?oi86) (v := undef) ?hi86 (by kernel_rfl) (by kernel_rfl) (by kernel_rfl) ?hQ86 (Or.inr ⟨?hw86, rfl⟩) (by assumption) ?rest86; (case hi86 => (simp only [List.getElem?_toArray, List.getElem?_cons_succ, List.getElem?_cons_zero]; rfl)); (case hQ86 => exact fun _ _ _ h => h); (case hw86 => rfl))
          (try simp only [Act.put, List.setIfInBounds_toArray, List.set_cons_zero, List.set_cons_succ])
          first | (refine wpAnyH_take (i := 12) (oi := ?oi87) (v := ?v87) ?hi87 (by kernel_rfl) (by kernel_rfl) (by kernel_rfl) ?hQ87 (Or.inl ⟨?hw87, ?hy87⟩) (by assumption) ?rest87; (case hi87 => (simp only [List.getElem?_toArray, List.getElem?_cons_succ, List.getElem?_cons_zero]; rfl)); (case hQ87 => exact fun _ _ _ h => h); (case hw87 => rfl); (case hy87 => ((intro w hSw); (try dsimp only at hSw); go_simp; (try with_reducible rfl)))) | (refine wpAnyH_take (i := 12) (oi := ?oi88) (v := undef) ?hi88 (by kernel_rfl) (by kernel_rfl) (by kernel_rfl) ?hQ88 (Or.inr ⟨?hw88, rfl⟩) (by assumption) ?rest88; (case hi88 => (simp only [List.getElem?_toArray, List.getElem?_cons_succ, List.getElem?_cons_zero]; rfl)); (case hQ88 => exact fun _ _ _ h => h); (case hw88 => rfl))
          (try simp only [Act.put, List.setIfInBounds_toArray, List.set_cons_zero, List.set_cons_succ])
          clear hHeld
          refine wpAnyH_done (by kernel_rfl) ?_ _
          go_wp2_with fail
          go_meet
          exact ⟨wy0.heap.size, an, cn, ar, lr, cr, rfl, rfl, rfl, ml, mz, mc0, HM1.out, HM2.out, HNL.out, HW.out⟩
      case rest =>
        obtain ⟨g2, b3, d3, b4, m4, d4, rfl, rfl, rfl, hg2, hgw2, hm3, hM3, hM4, hnl3, hb⟩ := hcut
        replace HW := Lib.hid (below_step HWr.out hb)
        have HY3 := Lib.hid hM3
        have HS3 := Lib.hid hM4
        have HN3 := Lib.hid hnl3
        replace HU0 := Lib.hid (hasInts_keep HU0.out hb)
        replace HR0 := Lib.hid (hasRes_keep HR0.out hb)
        replace HS1 := Lib.hid (hasRes_keep HS1.out hb)
        replace xxq0 := cel_below hb xxq0
        clear hb hM3 hM4 hnl3 hm1 mmq0 HWr
        obtain ⟨wt, hwt⟩ : ∃ W : World, W = wc := ⟨_, rfl⟩
        rw [← hwt] at HW HY3 HS3 HU0 HR0 HS1 hm3 hgw2 xxq0 ⊢
        clear hwt
        by_cases he2 : E2 = 0
        case neg =>
          have hh2 : (E2 != 0) = true := by simp [he2]
          have hee : E = E2 := by rw [HEE.out, if_pos rfl]
          subst hee
          clear he2
          go_wp2
          go_ret
          exact ⟨rfl, HW.out⟩
        have hee : E = 0 := by rw [HEE.out, if_pos rfl, he2]
        obtain ⟨hzz, hrr⟩ := HZZ.out rfl he2
        subst he2 hee
        have HU0' : Hid (HasInts wt (.slice a1 L c1) Z2) := Lib.hid (by rw [← hzz]; exact HU0.out)
        have HR0' : Hid (HasRes wt (.slice a2 l2 c2) (R1 ++ R2)) := Lib.hid (by rw [← hrr]; exact HR0.out)
        clear hzz hrr HU0 HR0
        go_wp2_with fail
        ((with_reducible refine (rsame_s Z2 HU0'.out HY3.out).mono ?_); rintro e wu ⟨rfl, hb⟩)
        replace HW := Lib.hid (below_step HW.out hb)
        replace HR0' := Lib.hid (hasRes_keep HR0'.out hb)
        replace HS1 := Lib.hid (hasRes_keep HS1.out hb)
        replace HS3 := Lib.hid (hasRes_keep HS3.out hb)
        have HOE : Hid ((wu.alloc (.cells #[] 36)).ownsRow wu.heap.size 36 2 (.slice (some ⟨wu.heap.size, 0, none⟩) 0 0) 0 []) := Lib.hid (by
          have := World.ownsRow_lit (base := wu.heap.size) (e := 36) (size := 2) wu #[] 0 (Nat.le_refl _) (by unfold maxLen; omega) rfl
          simpa using this)
        clear hb hm3 hgw2 xxq0
        go_wp2_with (first
          | (at_builtin; refine wpList_append_res _ (by rfl) _ _ rfl wu.heap.size (.slice (some ⟨wu.heap.size, 0, none⟩) 0 0) 0 [] rfl HOE.out _ R1 rfl (hasRes_keep HS1.out (below_new1 _ _)) HN1.out (by have := HRL.out; omega) (by simp) ?_; intro v5 w5 hown5 hb5; have HO5 := Lib.hid hown5; have HB5 := Lib.hid hb5; clear hown5 hb5)
          | (at_builtin; refine wpList_append_res _ (by rfl) _ _ rfl wu.heap.size v5 (0 + R1.length) ([] ++ resCells R1) rfl HO5.out _ R2 rfl (hasRes_keep HS3.out ((below_new1 _ _).trans HB5.out)) HN3.out (by have := HRL.out; omega) (Nat.le_trans (by simp) HB5.out.size) ?_; intro v6 w6 hown6 hb6; have HO6 := Lib.hid hown6; have HB6 := Lib.hid hb6; clear hown6 hb6))
        have hbb : Below wu.heap.size wu w6 := ((below_new1 _ _).trans HB5.out).trans HB6.out
        have HT6 : Hid (HasRes w6 v6 (R1 ++ R2)) := Lib.hid (hasRes_of_owns (B := wu.heap.size) (by
          have h := HO6.out
          rw [List.length_append, resCells_append]
          simpa using h))
        ((with_reducible refine (told_s (R1 ++ R2) (hasRes_keep HR0'.out hbb) HT6.out).mono ?_); rintro e wv ⟨rfl, hb⟩)
        have HWv := Lib.hid (below_step (below_step HW.out hbb) hb)
        clear hb hbb
        go_wp2
        go_ret
        exact ⟨rfl, HWv.out⟩
    case neg =>
      go_upto_region 9 with fail
      have HWr := Lib.hid HW.out
      go_cut [15, 16, 17] (fun s1 s2 s3 wx => ∃ (g : Nat) (an : Option Addr) (cn : Nat) (ar : Option Addr) (lr cr : Nat), s1 = .pointer (some ⟨g, 0, none⟩) ∧ s2 = .slice ar lr cr ∧ s3 = .int .i64 E2 ∧ wq.heap.size ≤ g ∧ g < wx.heap.size ∧ wx.cell? ⟨g, 0, none⟩ = some (.slice an L cn) ∧ HasInts wx (.slice an L cn) Z2 ∧ HasRes wx (.slice ar lr cr) R2 ∧ NilOk (.slice ar lr cr) ∧ Below wq.heap.size wq wx)
      case first =>
        have HW := Lib.hid (Below.refl wq.heap.size wq)
        have HWS := Lib.hid (Nat.le_refl wq.heap.size)
        refine wp_region_held_drew (S := fun W => W.cell? ⟨g1, 0, none⟩ = some (.slice b1 L d1)) (by kernel_rfl) ?_ (fun hHeld => ?_)
        · (try dsimp only); exact by first | assumption | go_simp
        replace HW := Lib.hid (show Below _ _ (World.drew wq) from below_drews HW.out 1)
        obtain ⟨wy0, hwy⟩ : ∃ W, W = World.drew wq := ⟨_, rfl⟩
        rw [← hwy] at HW ⊢
        have hHeld2 := hHeld
        rw [← hwy] at hHeld2
        clear hHeld
        have LO : wq.heap.size ≤ wy0.heap.size := by rw [hwy]; exact Nat.le_refl _
        have hb : Below wq.heap.size wq wy0 := by rw [hwy]; exact below_drews (Below.refl _ _) 1
        clear hb hwy
        have s0 := hHeld2
        clear hHeld2
        (try dsimp only at s0)
        have hHeld : (fun W => W.cell? ⟨g1, 0, none⟩ = some (.slice b1 L d1)) wy0 := s0
        first | (refine wpAnyH_take (i := 0) (oi := ?oi89) (v := ?v89) ?hi89 (by kernel_rfl) (by kernel_rfl) (by kernel_rfl) ?hQ89 (Or.inl ⟨?hw89, ?hy89⟩) (by assumption) ?rest89; (case hi89 => (simp only [List.getElem?_toArray, List.getElem?_cons_zero]; rfl)); (case hQ89 => exact fun _ _ _ h => h); (case hw89 => rfl); (case hy89 => ((intro w hSw); (try dsimp only at hSw); go_simp; (try with_reducible rfl)))) | (refine wpAnyH_take (i := 0) (oi := ?oi90) (v := undef) ?hi90 (by kernel_rfl) (by kernel_rfl) (by kernel_rfl) ?hQ90 (Or.inr ⟨?hw90, rfl⟩) (by assumption) ?rest90; (case hi90 => (simp only [List.getElem?_toArray, List.getElem?_cons_zero]; rfl)); (case hQ90 => exact fun _ _ _ h => h); (case hw90 => rfl))
        (try simp only [Act.put, List.setIfInBounds_toArray, List.set_cons_zero, List.set_cons_succ])
        first | (refine wpAnyH_take (i := 1) (oi := ?oi91) (v := ?v91) ?hi91 (by kernel_rfl) (by kernel_rfl) (by kernel_rfl) ?hQ91 (Or.inl ⟨?hw91, ?hy91⟩) (by assumption) ?rest91; (case hi91 => (simp only [List.getElem?_toArray, List.getElem?_cons_succ, List.getElem?_cons_zero]; rfl)); (case hQ91 => exact fun _ _ _ h => h); (case hw91 => rfl); (case hy91 => ((intro w hSw); (try dsimp only at hSw); go_simp; (try with_reducible rfl)))) | (refine wpAnyH_take (i := 1) (oi := ?oi92) (v := undef) ?hi92 (by kernel_rfl) (by kernel_rfl) (by kernel_rfl) ?hQ92 (Or.inr ⟨?hw92, rfl⟩) (by assumption) ?rest92; (case hi92 => (simp only [List.getElem?_toArray, List.getElem?_cons_succ, List.getElem?_cons_zero]; rfl)); (case hQ92 => exact fun _ _ _ h => h); (case hw92 => rfl))
        (try simp only [Act.put, List.setIfInBounds_toArray, List.set_cons_zero, List.set_cons_succ])
        first | (refine wpAnyH_take (i := 2) (oi := ?oi93) (v := ?v93) ?hi93 (by kernel_rfl) (by kernel_rfl) (by kernel_rfl) ?hQ93 (Or.inl ⟨?hw93, ?hy93⟩) (by assumption) ?rest93; (case hi93 => (simp only [List.getElem?_toArray, List.getElem?_cons_succ, List.getElem?_cons_zero]; rfl)); (case hQ93 => exact fun _ _ _ h => h); (case hw93 => rfl); (case hy93 => ((intro w hSw); (try dsimp only at hSw); go_simp; (try with_reducible rfl)))) | (refine wpAnyH_take (i := 2) (oi := ?oi94) (v := undef) ?hi94 (by kernel_rfl) (by kernel_rfl) (by kernel_rfl) ?hQ94 (Or.inr ⟨?hw94, rfl⟩) (by assumption) ?rest94; (case hi94 => (simp only [List.getElem?_toArray, List.getElem?_cons_succ, List.getElem?_cons_zero]; rfl)); (case hQ94 => exact fun _ _ _ h => h); (case hw94 => rfl))
        (try simp only [Act.put, List.setIfInBounds_toArray, List.set_cons_zero, List.set_cons_succ])
        first | (refine wpAnyH_take (i := 3) (oi := ?oi95) (v := ?v95) ?hi95 (by kernel_rfl) (by kernel_rfl) (by kernel_rfl) ?hQ95 (Or.inl ⟨?hw95, ?hy95⟩) (by assumption) ?rest95; (case hi95 => (simp only [List.getElem?_toArray, List.getElem?_cons_succ, List.getElem?_cons_zero]; rfl)); (case hQ95 => exact fun _ _ _ h => h); (case hw95 => rfl); (case hy95 => ((intro w hSw); (try dsimp only at hSw); go_simp; (try with_reducible rfl)))) | (refine wpAnyH_take (i := 3) (oi := ?oi96) (v := undef) ?hi96 (by kernel_rfl) (by kernel_rfl) (by kernel_rfl) ?hQ96 (Or.inr ⟨?hw96, rfl⟩) (by assumption) ?rest96; (case hi96 => (simp only [List.getElem?_toArray, List.getElem?_cons_succ, List.getElem?_cons_zero]; rfl)); (case hQ96 => exact fun _ _ _ h => h); (case hw96 => rfl))
        (try simp only [Act.put, List.setIfInBounds_toArray, List.set_cons_zero, List.set_cons_succ])
        clear hHeld
        refine wpAnyH_ready (rs := [4, 9]) (by kernel_rfl) (by simp) ?_
        refine AllReadyH.cons (o := ?oi97) ?hi97 (fun K hK => ?rest97) (AllReadyH.cons (o := ?oi98) ?hi98 (fun K hK => ?rest98) AllReadyH.nil)
        (case hi97 => (simp only [List.getElem?_toArray, List.getElem?_cons_succ, List.getElem?_cons_zero]; rfl))
        (case hi98 => (simp only [List.getElem?_toArray, List.getElem?_cons_succ, List.getElem?_cons_zero]; rfl))
        case rest97 =>
          go_simp
          ((with_reducible refine (A2.out _ _ _ (hasInts_keep HY1.out HW.out) (hasAccs_drop (hasAccs_keep HX.out (below_step HWr.out HW.out)) hkM (by omega) (fun b o hb hk => by subst hb; first | omega | simp [Addr.add]))).mono ?_); rintro e wz99 ⟨an, cn, ar, lr, cr, rfl, hu, hr, hnl, hb⟩)
          replace HW := Lib.hid (below_step HW.out hb)
          replace s0 := cel_below hb s0
          have HM1 := Lib.hid hu
          have HM2 := Lib.hid hr
          have HNL := Lib.hid hnl
          clear hu hr hnl
          replace LO := Nat.le_trans LO hb.size
          clear hb
          refine hK.out _ _ ?_ (fun _ => ?_)
          · (try dsimp only); exact s0
          clear hK K
          (try simp only [Act.put, List.setIfInBounds_toArray, List.set_cons_zero, List.set_cons_succ])
          have hHeld : (fun W => W.cell? ⟨g1, 0, none⟩ = some (.slice b1 L d1)) wz99 := s0
          first | (refine wpAnyH_take (i := 5) (oi := ?oi100) (v := ?v100) ?hi100 (by kernel_rfl) (by kernel_rfl) (by kernel_rfl) ?hQ100 (Or.inl ⟨?hw100, ?hy100⟩) (by assumption) ?rest100; (case hi100 => (simp only [List.getElem?_toArray, List.getElem?_cons_succ, List.getElem?_cons_zero]; rfl)); (case hQ100 => exact fun _ _ _ h => h); (case hw100 => rfl); (case hy100 => ((intro w hSw); (try dsimp only at hSw); go_simp; (try with_reducible rfl)))) | (refine wpAnyH_take (i := 5) (oi := ?oi101) (v := undef) ?hi101 (by kernel_rfl) (by kernel_rfl) (by kernel_rfl) ?hQ101 (Or.inr ⟨?hw101, rfl⟩) (by assumption) ?rest101; (case hi101 => (simp only [List.getElem?_toArray, List.getElem?_cons_succ, List.getElem?_cons_zero]; rfl)); (case hQ101 => exact fun _ _ _ h => h); (case hw101 => rfl))
          (try simp only [Act.put, List.setIfInBounds_toArray, List.set_cons_zero, List.set_cons_succ])
          first | (refine wpAnyH_take (i := 6) (oi := ?oi102) (v := ?v102) ?hi102 (by kernel_rfl) (by kernel_rfl) (by kernel_rfl) ?hQ102 (Or.inl ⟨?hw102, ?hy102⟩) (by assumption) ?rest102; (case hi102 => (simp only [List.getElem?_toArray, List.getElem?_cons_succ, List.getElem?_cons_zero]; rfl)); (case hQ102 => exact fun _ _ _ h => h); (case hw102 => rfl); (case hy102 => ((intro w hSw); (try dsimp only at hSw); go_simp; (try with_reducible rfl)))) | (refine wpAnyH_take (i := 6) (oi := ?oi103) (v := undef) ?hi103 (by kernel_rfl) (by kernel_rfl) (by kernel_rfl) ?hQ103 (Or.inr ⟨?hw103, rfl⟩) (by assumption) ?rest103; (case hi103 => (simp only [List.getElem?_toArray, List.getElem?_cons_succ, List.getElem?_cons_zero]; rfl)); (case hQ103 => exact fun _ _ _ h => h); (case hw103 => rfl))
          (try simp only [Act.put, List.setIfInBounds_toArray, List.set_cons_zero, List.set_cons_succ])
          first | (refine wpAnyH_take (i := 7) (oi := ?oi104) (v := ?v104) ?hi104 (by kernel_rfl) (by kernel_rfl) (by kernel_rfl) ?hQ104 (Or.inl ⟨?hw104, ?hy104⟩) (by assumption) ?rest104; (case hi104 => (simp only [List.getElem?_toArray, List.getElem?_cons_succ, List.getElem?_cons_zero]; rfl)); (case hQ104 => exact fun _ _ _ h => h); (case hw104 => rfl); (case hy104 => ((intro w hSw); (try dsimp only at hSw); go_simp; (try with_reducible rfl)))) | (refine wpAnyH_take (i := 7) (oi := ?oi105) (v := undef) ?hi105 (by kernel_rfl) (by kernel_rfl) (by kernel_rfl) ?hQ105 (Or.inr ⟨?hw105, rfl⟩) (by assumption) ?rest105; (case hi105 => (simp only [List.getElem?_toArray, List.getElem?_cons_succ, List.getElem?_cons_zero]; rfl)); (case hQ105 => exact fun _ _ _ h => h); (case hw105 => rfl))
          (try simp only [Act.put, List.setIfInBounds_toArray, List.set_cons_zero, List.set_cons_succ])
          first | (refine wpAnyH_take (i := 8) (oi := ?oi106) (v := ?v106) ?hi106 (by kernel_rfl) (by kernel_rfl) (by kernel_rfl) ?hQ106 (Or.inl ⟨?hw106, ?hy106⟩) (by assumption) ?rest106; (case hi106 => (simp only [List.getElem?_toArray, List.getElem?_cons_succ, List.getElem?_cons_zero]; rfl)); (case hQ106 => exact fun _ _ _ h => h); (case hw106 => rfl); (case hy106 => ((intro w hSw); (try dsimp only at hSw); go_simp; (try with_reducible rfl)))) | (refine wpAnyH_take (i := 8) (oi := ?oi107) (v := undef) ?hi107 (by kernel_rfl) (by kernel_rfl) (by kernel_rfl) ?hQ107 (Or.inr ⟨?hw107, rfl⟩) (by assumption) ?rest107; (case hi107 => (simp only [List.getElem?_toArray, List.getElem?_cons_succ, List.getElem?_cons_zero]; rfl)); (case hQ107 => exact fun _ _ _ h => h); (case hw107 => rfl))
          (try simp only [Act.put, List.setIfInBounds_toArray, List.set_cons_zero, List.set_cons_succ])
          clear hHeld
          refine wpAnyH_ready (rs := [9]) (by kernel_rfl) (by simp) ?_
          refine AllReadyH.cons (o := ?oi108) ?hi108 (fun K hK => ?rest108) AllReadyH.nil
          (case hi108 => (simp only [List.getElem?_toArray, List.getElem?_cons_succ, List.getElem?_cons_zero]; rfl))
          go_simp
          obtain ⟨wz109, hwy⟩ : ∃ W, W = wz99.alloc (.cells #[.slice none 0 0] 24) := ⟨_, rfl⟩
          rw [← hwy]
          have hb : Below wz99.heap.size wz99 wz109 := by rw [hwy]; exact below_new1 _ _
          have mc0 : wz109.cell? ⟨wz99.heap.size, 0, none⟩ = some (.slice none 0 0) := by rw [hwy, World.cell?_alloc_at _ _ _ _ rfl]; rfl
          have mf0 : wz109.frozen? ⟨wz99.heap.size, 0, none⟩ = false := by rw [hwy]; exact World.frozen?_alloc_at _ _ _ _ rfl
          have mt : Tag wz109 wz99.heap.size 24 := by rw [hwy]; exact tag_new _ _ _
          have mz : wz99.heap.size < wz109.heap.size := by rw [hwy]; simp
          have ml := LO
          replace HW := Lib.hid (below_step HW.out hb)
          replace s0 := cel_below hb s0
          replace HM1 := Lib.hid (hasInts_keep HM1.out hb)
          replace HM2 := Lib.hid (hasRes_keep HM2.out hb)
          replace LO := Nat.le_trans LO hb.size
          clear hb hwy
          refine hK.out _ _ ?_ (fun _ => ?_)
          · (try dsimp only); exact s0
          clear hK K
          (try simp only [Act.put, List.setIfInBounds_toArray, List.set_cons_zero, List.set_cons_succ])
          refine wpAnyH_ready (rs := [10]) (by kernel_rfl) (by simp) ?_
          refine AllReadyH.cons (o := ?oi110) ?hi110 (fun K hK => ?rest110) AllReadyH.nil
          (case hi110 => (simp only [List.getElem?_toArray, List.getElem?_cons_succ, List.getElem?_cons_zero]; rfl))
          go_simp
          obtain ⟨wz111, hwy⟩ : ∃ W, W = (wz109.setCell ⟨wz99.heap.size, 0, none⟩ (.slice an L cn)) := ⟨_, rfl⟩
          rw [← hwy]
          replace s0 : wz111.cell? ⟨g1, 0, none⟩ = some (.slice b1 L d1) := by rw [hwy]; exact keepA_ (s0) (Or.inl (by omega))
          replace HM1 := Lib.hid (hasInts_setS HM1.out mc0 (u := .slice an L cn))
          rw [← hwy] at HM1
          replace HM2 := Lib.hid (hasRes_setS HM2.out mc0 (u := .slice an L cn))
          rw [← hwy] at HM2
          have md0 : wz111.cell? ⟨wz99.heap.size, 0, none⟩ = some (.slice an L cn) := by rw [hwy]; exact World.cell?_setCell_same _ _ _ mc0
          replace mt : Tag wz111 wz99.heap.size 24 := by rw [hwy]; exact (tag_set mt _ _)
          replace mf0 : wz111.frozen? ⟨wz99.heap.size, 0, none⟩ = false := by rw [hwy]; simpa using mf0
          replace HW := Lib.hid (Below.setCell (p := ⟨wz99.heap.size, 0, none⟩) HW.out (by have := HWS.out; dsimp only; omega) (.slice an L cn))
          rw [← hwy] at HW
          have hsz : wz111.heap.size = wz109.heap.size := by rw [hwy]; simp
          replace mz : wz99.heap.size < wz111.heap.size := by omega
          replace LO : _ ≤ wz111.heap.size := Nat.le_trans LO (Nat.le_of_eq hsz.symm)
          clear hsz hwy mc0
          have mc0 := md0
          clear md0
          refine hK.out _ _ ?_ (fun _ => ?_)
          · (try dsimp only); exact s0
          clear hK K
          (try simp only [Act.put, List.setIfInBounds_toArray, List.set_cons_zero, List.set_cons_succ])
          have hHeld : (fun W => W.cell? ⟨g1, 0, none⟩ = some (.slice b1 L d1)) wz111 := s0
          first | (refine wpAnyH_take (i := 11) (oi := ?oi112) (v := ?v112) ?hi112 (by kernel_rfl) (by kernel_rfl) (by kernel_rfl) ?hQ112 (Or.inl ⟨?hw112, ?hy112⟩) (by assumption) ?rest112; (case hi112 => (simp only [List.getElem?_toArray, List.getElem?_cons_succ, List.getElem?_cons_zero]; rfl)); (case hQ112 => exact fun _ _ _ h => h); (case hw112 => rfl); (case hy112 => ((intro w hSw); (try dsimp only at hSw); go_simp; (try with_reducible rfl)))) | (refine wpAnyH_take (i := 11) (oi := ?oi113) (v := undef) ?hi113 (by kernel_rfl) (by kernel_rfl) (by kernel_rfl) ?hQ113 (Or.inr ⟨?hw113, rfl⟩) (by assumption) ?rest113; (case hi113 => (simp only [List.getElem?_toArray, List.getElem?_cons_succ, List.getElem?_cons_zero]; rfl)); (case hQ113 => exact fun _ _ _ h => h); (case hw113 => rfl))
          (try simp only [Act.put, List.setIfInBounds_toArray, List.set_cons_zero, List.set_cons_succ])
          first | (refine wpAnyH_take (i := 12) (oi := ?oi114) (v := ?v114) ?hi114 (by kernel_rfl) (by kernel_rfl) (by kernel_rfl) ?hQ114 (Or.inl ⟨?hw114, ?hy114⟩) (by assumption) ?rest114; (case hi114 => (simp only [List.getElem?_toArray, List.getElem?_cons_succ, List.getElem?_cons_zero]; rfl)); (case hQ114 => exact fun _ _ _ h => h); (case hw114 => rfl); (case hy114 => ((intro w hSw); (try dsimp only at hSw); go_simp; (try with_reducible rfl)))) | (refine wpAnyH_take (i := 12) (oi := ?oi115) (v := undef) ?hi115 (by kernel_rfl) (by kernel_rfl) (by kernel_rfl) ?hQ115 (Or.inr ⟨?hw115, rfl⟩) (by assumption) ?rest115; (case hi115 => (simp only [List.getElem?_toArray, List.getElem?_cons_succ, List.getElem?_cons_zero]; rfl)); (case hQ115 => exact fun _ _ _ h => h); (case hw115 => rfl))
          (try simp only [Act.put, List.setIfInBounds_toArray, List.set_cons_zero, List.set_cons_succ])
          clear hHeld
          refine wpAnyH_done (by kernel_rfl) ?_ _
          go_wp2_with fail
          go_meet
          exact ⟨wz99.heap.size, an, cn, ar, lr, cr, rfl, rfl, rfl, ml, mz, mc0, HM1.out, HM2.out, HNL.out, HW.out⟩
        case rest98 =>
          go_simp
          obtain ⟨wz116, hwy⟩ : ∃ W, W = wy0.alloc (.cells #[.slice none 0 0] 24) := ⟨_, rfl⟩
          rw [← hwy]
          have hb : Below wy0.heap.size wy0 wz116 := by rw [hwy]; exact below_new1 _ _
          have mc0 : wz116.cell? ⟨wy0.heap.size, 0, none⟩ = some (.slice none 0 0) := by rw [hwy, World.cell?_alloc_at _ _ _ _ rfl]; rfl
          have mf0 : wz116.frozen? ⟨wy0.heap.size, 0, none⟩ = false := by rw [hwy]; exact World.frozen?_alloc_at _ _ _ _ rfl
          have mt : Tag wz116 wy0.heap.size 24 := by rw [hwy]; exact tag_new _ _ _
          have mz : wy0.heap.size < wz116.heap.size := by rw [hwy]; simp
          have ml := LO
          replace HW := Lib.hid (below_step HW.out hb)
          replace s0 := cel_below hb s0
          replace LO := Nat.le_trans LO hb.size
          clear hb hwy
          refine hK.out _ _ ?_ (fun _ => ?_)
          · (try dsimp only); exact s0
          clear hK K
          (try simp only [Act.put, List.setIfInBounds_toArray, List.set_cons_zero, List.set_cons_succ])
          refine wpAnyH_ready (rs := [4]) (by kernel_rfl) (by simp) ?_
          refine AllReadyH.cons (o := ?oi117) ?hi117 (fun K hK => ?rest117) AllReadyH.nil
          (case hi117 => (simp only [List.getElem?_toArray, List.getElem?_cons_succ, List.getElem?_cons_zero]; rfl))
          go_simp
          ((with_reducible refine (A2.out _ _ _ (hasInts_keep HY1.out HW.out) (hasAccs_drop (hasAccs_keep HX.out (below_step HWr.out HW.out)) hkM (by omega) (fun b o hb hk => by subst hb; first | omega | simp [Addr.add]))).mono ?_); rintro e wz118 ⟨an, cn, ar, lr, cr, rfl, hu, hr, hnl, hb⟩)
          replace HW := Lib.hid (below_step HW.out hb)
          replace s0 := cel_below hb s0
          replace mc0 := cel_below hb mc0
          replace mf0 := fro_below hb mz mf0
          replace mz := lt_below hb mz
          replace mt := tag_below mt hb
          have HM1 := Lib.hid hu
          have HM2 := Lib.hid hr
          have HNL := Lib.hid hnl
          clear hu hr hnl
          replace LO := Nat.le_trans LO hb.size
          clear hb
          refine hK.out _ _ ?_ (fun _ => ?_)
          · (try dsimp only); exact s0
          clear hK K
          (try simp only [Act.put, List.setIfInBounds_toArray, List.set_cons_zero, List.set_cons_succ])
          have hHeld : (fun W => W.cell? ⟨g1, 0, none⟩ = some (.slice b1 L d1)) wz118 := s0
          first | (refine wpAnyH_take (i := 5) (oi := ?oi119) (v := ?v119) ?hi119 (by kernel_rfl) (by kernel_rfl) (by kernel_rfl) ?hQ119 (Or.inl ⟨?hw119, ?hy119⟩) (by assumption) ?rest119; (case hi119 => (simp only [List.getElem?_toArray, List.getElem?_cons_succ, List.getElem?_cons_zero]; rfl)); (case hQ119 => exact fun _ _ _ h => h); (case hw119 => rfl); (case hy119 => ((intro w hSw); (try dsimp only at hSw); go_simp; (try with_reducible rfl)))) | (refine wpAnyH_take (i := 5) (oi := ?oi120) (v := undef) ?hi120 (by kernel_rfl) (by kernel_rfl) (by kernel_rfl) ?hQ120 (Or.inr ⟨?hw120, rfl⟩) (by assumption) ?rest120; (case hi120 => (simp only [List.getElem?_toArray, List.getElem?_cons_succ, List.getElem?_cons_zero]; rfl)); (case hQ120 => exact fun _ _ _ h => h); (case hw120 => rfl))
          (try simp only [Act.put, List.setIfInBounds_toArray, List.set_cons_zero, List.set_cons_succ])
          first | (refine wpAnyH_take (i := 6) (oi := ?oi121) (v := ?v121) ?hi121 (by kernel_rfl) (by kernel_rfl) (by kernel_rfl) ?hQ121 (Or.inl ⟨?hw121, ?hy121⟩) (by assumption) ?rest121; (case hi121 => (simp only [List.getElem?_toArray, List.getElem?_cons_succ, List.getElem?_cons_zero]; rfl)); (case hQ121 => exact fun _ _ _ h => h); (case hw121 => rfl); (case hy121 => ((intro w hSw); (try dsimp only at hSw); go_simp; (try with_reducible rfl)))) | (refine wpAnyH_take (i := 6) (oi := ?oi122) (v := undef) ?hi122 (by kernel_rfl) (by kernel_rfl) (by kernel_rfl) ?hQ122 (Or.inr ⟨?hw122, rfl⟩) (by assumption) ?rest122; (case hi122 => (simp only [List.getElem?_toArray, List.getElem?_cons_succ, List.getElem?_cons_zero]; rfl)); (case hQ122 => exact fun _ _ _ h => h); (case hw122 => rfl))
          (try simp only [Act.put, List.setIfInBounds_toArray, List.set_cons_zero, List.set_cons_succ])
          first | (refine wpAnyH_take (i := 7) (oi := ?oi123) (v := ?v123) ?hi123 (by kernel_rfl) (by kernel_rfl) (by kernel_rfl) ?hQ123 (Or.inl ⟨?hw123, ?hy123⟩) (by assumption) ?rest123; (case hi123 => (simp only [List.getElem?_toArray, List.getElem?_cons_succ, List.getElem?_cons_zero]; rfl)); (case hQ123 => exact fun _ _ _ h => h); (case hw123 => rfl); (case hy123 => ((intro w hSw); (try dsimp only at hSw); go_simp; (try with_reducible rfl)))) | (refine wpAnyH_take (i := 7) (oi := ?oi124) (v := undef) ?hi124 (by kernel_rfl) (by kernel_rfl) (by kernel_rfl) ?hQ124 (Or.inr ⟨?hw124, rfl⟩) (by assumption) ?rest124; (case hi124 => (simp only [List.getElem?_toArray, List.getElem?_cons_succ, List.getElem?_cons_zero]; rfl)); (case hQ124 => exact fun _ _ _ h => h); (case hw124 => rfl))
          (try simp only [Act.put, List.setIfInBounds_toArray, List.set_cons_zero, List.set_cons_succ])
          first | (refine wpAnyH_take (i := 8) (oi := ?oi125) (v := ?v125) ?hi125 (by kernel_rfl) (by kernel_rfl) (by kernel_rfl) ?hQ125 (Or.inl ⟨?hw125, ?hy125⟩) (by assumption) ?rest125; (case hi125 => (simp only [List.getElem?_toArray, List.getElem?_cons_succ, List.getElem?_cons_zero]; rfl)); (case hQ125 => exact fun _ _ _ h => h); (case hw125 => rfl); (case hy125 => ((intro w hSw); (try dsimp only at hSw); go_simp; (try with_reducible rfl)))) | (refine wpAnyH_take (i := 8) (oi := ?oi126) (v := undef) ?hi126 (by kernel_rfl) (by kernel_rfl) (by kernel_rfl) ?hQ126 (Or.inr ⟨?hw126, rfl⟩) (by assumption) ?rest126; (case hi126 => (simp only [List.getElem?_toArray, List.getElem?_cons_succ, List.getElem?_cons_zero]; rfl)); (case hQ126 => exact fun _ _ _ h => h); (case hw126 => rfl))
          (try simp only [Act.put, List.setIfInBounds_toArray, List.set_cons_zero, List.set_cons_succ])
          clear hHeld
          refine wpAnyH_ready (rs := [10]) (by kernel_rfl) (by simp) ?_
          refine AllReadyH.cons (o := ?oi127) ?hi127 (fun K hK => ?rest127) AllReadyH.nil
          (case hi127 => (simp only [List.getElem?_toArray, List.getElem?_cons_succ, List.getElem?_cons_zero]; rfl))
          go_simp
          obtain ⟨wz128, hwy⟩ : ∃ W, W = (wz118.setCell ⟨wy0.heap.size, 0, none⟩ (.slice an L cn)) := ⟨_, rfl⟩
          rw [← hwy]
          replace s0 : wz128.cell? ⟨g1, 0, none⟩ = some (.slice b1 L d1) := by rw [hwy]; exact keepA_ (s0) (Or.inl (by omega))
          replace HM1 := Lib.hid (hasInts_setS HM1.out mc0 (u := .slice an L cn))
          rw [← hwy] at HM1
          replace HM2 := Lib.hid (hasRes_setS HM2.out mc0 (u := .slice an L cn))
          rw [← hwy] at HM2
          have md0 : wz128.cell? ⟨wy0.heap.size, 0, none⟩ = some (.slice an L cn) := by rw [hwy]; exact World.cell?_setCell_same _ _ _ mc0
          replace mt : Tag wz128 wy0.heap.size 24 := by rw [hwy]; exact (tag_set mt _ _)
          replace mf0 : wz128.frozen? ⟨wy0.heap.size, 0, none⟩ = false := by rw [hwy]; simpa using mf0
          replace HW := Lib.hid (Below.setCell (p := ⟨wy0.heap.size, 0, none⟩) HW.out (by have := HWS.out; dsimp only; omega) (.slice an L cn))
          rw [← hwy] at HW
          have hsz : wz128.heap.size = wz118.heap.size := by rw [hwy]; simp
          replace mz : wy0.heap.size < wz128.heap.size := by omega
          replace LO : _ ≤ wz128.heap.size := Nat.le_trans LO (Nat.le_of_eq hsz.symm)
          clear hsz hwy mc0
          have mc0 := md0
          clear md0
          refine hK.out _ _ ?_ (fun _ => ?_)
          · (try dsimp only); exact s0
          clear hK K
          (try simp only [Act.put, List.setIfInBounds_toArray, List.set_cons_zero, List.set_cons_succ])
          have hHeld : (fun W => W.cell? ⟨g1, 0, none⟩ = some (.slice b1 L d1)) wz128 := s0
          first | (refine wpAnyH_take (i := 11) (oi := ?oi129) (v := ?v129) ?hi129 (by kernel_rfl) (by kernel_rfl) (by kernel_rfl) ?hQ129 (Or.inl ⟨?hw129, ?hy129⟩) (by assumption) ?rest129; (case hi129 => (simp only [List.getElem?_toArray, List.getElem?_cons_succ, List.getElem?_cons_zero]; rfl)); (case hQ129 => exact fun _ _ _ h => h); (case hw129 => rfl); (case hy129 => ((intro w hSw); (try dsimp only at hSw); go_simp; (try with_reducible rfl)))) | (refine wpAnyH_take (i := 11) (oi := ?oi130) (v := undef) ?hi130 (by kernel_rfl) (by kernel_rfl) (by kernel_rfl) ?hQ130 (Or.inr ⟨?hw130, rfl⟩) (by assumption) ?rest130; (case hi130 => (simp only [List.getElem?_toArray, List.getElem?_cons_succ, List.getElem?_cons_zero]; rfl)); (case hQ130 => exact fun _ _ _ h => h); (case hw130 => rfl))
          (try simp only [Act.put, List.setIfInBounds_toArray, List.set_cons_zero, List.set_cons_succ])
          first | (refine wpAnyH_take (i := 12) (oi := ?oi131) (v := ?v131) ?hi131 (by kernel_rfl) (by kernel_rfl) (by kernel_rfl) ?hQ131 (Or.inl ⟨?hw131, ?hy131⟩) (by assumption) ?rest131; (case hi131 => (simp only [List.getElem?_toArray, List.getElem?_cons_succ, List.getElem?_cons_zero]; rfl)); (case hQ131 => exact fun _ _ _ h => h); (case hw131 => rfl); (case hy131 => ((intro w hSw); (try dsimp only at hSw); go_simp; (try with_reducible rfl)))) | (refine wpAnyH_take (i := 12) (oi := ?oi132) (v := undef) ?hi132 (by kernel_rfl) (by kernel_rfl) (by kernel_rfl) ?hQ132 (Or.inr ⟨?hw132, rfl⟩) (by assumption) ?rest132; (case hi132 => (simp only [List.getElem?_toArray, List.getElem?_cons_succ, List.getElem?_cons_zero]; rfl)); (case hQ132 => exact fun _ _ _ h => h); (case hw132 => rfl))
          (try simp only [Act.put, List.setIfInBounds_toArray, List.set_cons_zero, List.set_cons_succ])
          clear hHeld
          refine wpAnyH_done (by kernel_rfl) ?_ _
          go_wp2_with fail
          go_meet
          exact ⟨wy0.heap.size, an, cn, ar, lr, cr, rfl, rfl, rfl, ml, mz, mc0, HM1.out, HM2.out, HNL.out, HW.out⟩
      case rest =>
        obtain ⟨g2, b3, d3, b4, m4, d4, rfl, rfl, rfl, hg2, hgw2, hm3, hM3, hM4, hnl3, hb⟩ := hcut
        replace HW := Lib.hid (below_step HWr.out hb)
        have HY3 := Lib.hid hM3
        have HS3 := Lib.hid hM4
        have HN3 := Lib.hid hnl3
        replace HU0 := Lib.hid (hasInts_keep HU0.out hb)
        replace HR0 := Lib.hid (hasRes_keep HR0.out hb)
        replace HS1 := Lib.hid (hasRes_keep HS1.out hb)
        replace xxq0 := cel_below hb xxq0
        clear hb hM3 hM4 hnl3 hm1 mmq0 HWr
        obtain ⟨wt, hwt⟩ : ∃ W : World, W = wc := ⟨_, rfl⟩
        rw [← hwt] at HW HY3 HS3 HU0 HR0 HS1 hm3 hgw2 xxq0 ⊢
        clear hwt
        by_cases he2 : E2 = 0
        case neg =>
          have hh2 : (E2 != 0) = true := by simp [he2]
          have hee : E = E2 := by rw [HEE.out, if_pos rfl]
          subst hee
          clear he2
          go_wp2
          go_ret
          exact ⟨rfl, HW.out⟩
        have hee : E = 0 := by rw [HEE.out, if_pos rfl, he2]
        obtain ⟨hzz, hrr⟩ := HZZ.out rfl he2
        subst he2 hee
        have HU0' : Hid (HasInts wt (.slice a1 L c1) Z2) := Lib.hid (by rw [← hzz]; exact HU0.out)
        have HR0' : Hid (HasRes wt (.slice a2 l2 c2) (R1 ++ R2)) := Lib.hid (by rw [← hrr]; exact HR0.out)
        clear hzz hrr HU0 HR0
        go_wp2_with fail
        ((with_reducible refine (rsame_s Z2 HU0'.out HY3.out).mono ?_); rintro e wu ⟨rfl, hb⟩)
        replace HW := Lib.hid (below_step HW.out hb)
        replace HR0' := Lib.hid (hasRes_keep HR0'.out hb)
        replace HS1 := Lib.hid (hasRes_keep HS1.out hb)
        replace HS3 := Lib.hid (hasRes_keep HS3.out hb)
        have HOE : Hid ((wu.alloc (.cells #[] 36)).ownsRow wu.heap.size 36 2 (.slice (some ⟨wu.heap.size, 0, none⟩) 0 0) 0 []) := Lib.hid (by
          have := World.ownsRow_lit (base := wu.heap.size) (e := 36) (size := 2) wu #[] 0 (Nat.le_refl _) (by unfold maxLen; omega) rfl
          simpa using this)
        clear hb hm3 hgw2 xxq0
        go_wp2_with (first
          | (at_builtin; refine wpList_append_res _ (by rfl) _ _ rfl wu.heap.size (.slice (some ⟨wu.heap.size, 0, none⟩) 0 0) 0 [] rfl HOE.out _ R1 rfl (hasRes_keep HS1.out (below_new1 _ _)) HN1.out (by have := HRL.out; omega) (by simp) ?_; intro v5 w5 hown5 hb5; have HO5 := Lib.hid hown5; have HB5 := Lib.hid hb5; clear hown5 hb5)
          | (at_builtin; refine wpList_append_res _ (by rfl) _ _ rfl wu.heap.size v5 (0 + R1.length) ([] ++ resCells R1) rfl HO5.out _ R2 rfl (hasRes_keep HS3.out ((below_new1 _ _).trans HB5.out)) HN3.out (by have := HRL.out; omega) (Nat.le_trans (by simp) HB5.out.size) ?_; intro v6 w6 hown6 hb6; have HO6 := Lib.hid hown6; have HB6 := Lib.hid hb6; clear hown6 hb6))
        have hbb : Below wu.heap.size wu w6 := ((below_new1 _ _).trans HB5.out).trans HB6.out
        have HT6 : Hid (HasRes w6 v6 (R1 ++ R2)) := Lib.hid (hasRes_of_owns (B := wu.heap.size) (by
          have h := HO6.out
          rw [List.length_append, resCells_append]
          simpa using h))
        ((with_reducible refine (told_s (R1 ++ R2) (hasRes_keep HR0'.out hbb) HT6.out).mono ?_); rintro e wv ⟨rfl, hb⟩)
        have HWv := Lib.hid (below_step (below_step HW.out hbb) hb)
        clear hb hbb
        go_wp2
        go_ret
        exact ⟨rfl, HWv.out⟩

theorem walk (w : World) (s0 : Value) (zs : List Int) (hv : HasInts w s0 zs) (v : Value) (l : List AccD) (hx : HasAccs w v l) (hcap : ∀ a n c, v = .slice a n c → n ≤ c) (x : Int) (hx8 : (Lit.int .u8 x).wf = true) :
    Calls Try.prog 4 #[.agg #[s0], v, .int .u8 x] w fun e w' => e = .returned (.bool true) ∧ Below w.heap.size w w' := by
  have hv0 := hv
  have hx0 := hx
  obtain ⟨a, cap, rfl, _, _⟩ := hv0
  obtain ⟨b, cp, rfl, _, _⟩ := hx0
  by_cases h : 60 < zs.length
  · exact walk_big w a _ cap b _ cp x (Or.inl h)
  by_cases h2 : 30 < l.length
  · exact walk_big w a _ cap b _ cp x (Or.inr ⟨by omega, h2⟩)
  · exact walk_sm w a _ cap b _ cp x zs l rfl rfl hv hx (hcap _ _ _ rfl) (by omega) (by omega) (u8_of_wf hx8).1 (u8_of_wf hx8).2

theorem own : ownKnob Try.prog.godebug = none := by kernel_rfl
theorem laidOut : laidOutB Try.prog = true := by kernel_rfl

set_option maxRecDepth 100000 in
theorem lifted (os : Os) (started : os.Started) (H : Type) (enc : TypeId × Value → H) :
    ReturnsInHanded {} Try.checked os 4 .any (Rows.memAllSplitsSpec.pre6 enc Try.prog Try.f4 Rows.memAllSplitsRow.domain false) (Rows.memAllSplitsSpec.post enc Try.prog Try.f4 false true false false) := by
  refine returnsInHanded_of_change (C := Try.checked) own started (by kernel_rfl) Try.func4
    (ChangeSpec.witness6 (enc := enc) (C := Try.checked) false ⟨#[], #[.agg #[.slice none 0 0], .slice none 0 0, .int .u8 0], []⟩ 8 (by kernel_rfl) (by kernel_rfl) (by kernel_rfl) (by kernel_rfl)) ?_
  intro W base args ds gs before hval0 hW hcnd _
  have hval : ∀ (j : Nat) t v, Try.f4.params[j]? = some t → args[j]? = some v → Value.okWide Try.prog W .any base t v := hval0
  have hW' := hW
  obtain ⟨p, q, hA0, hV, rfl, hfz, hnd⟩ := hW
  have hA : DataW.TrodAll enc Try.prog W 0 (fun _ => true) true Try.f4.params.toList args.toList ds p := hA0
  rw [Try.params4] at hA hval
  obtain ⟨v0, vs0, d0, ds0, p0, q0, hargs, rfl, rfl, h0, r0⟩ := trodAll_cons hA
  obtain ⟨v1, vs1, d1, ds1, p1, q1, rfl, rfl, rfl, h1, r1⟩ := trodAll_cons r0
  obtain ⟨v2, vs2, d2, ds2, p2, q2, rfl, rfl, rfl, h2, r2⟩ := trodAll_cons r1
  obtain ⟨rfl, rfl, rfl⟩ := trodAll_nil r2
  obtain rfl : args = #[v0, v1, v2] := by cases args; simp_all
  obtain ⟨rfl, rfl⟩ := trodVars_none hV
  clear hA0 hval0
  simp only [List.append_nil] at hW'
  have lt0 : ∀ x ∈ p0, x.block < W.heap.size := fun x hx => hW'.lt x (by simp [hx])
  have lt1 : ∀ x ∈ p1, x.block < W.heap.size := fun x hx => hW'.lt x (by simp [hx])
  have lt2 : ∀ x ∈ p2, x.block < W.heap.size := fun x hx => hW'.lt x (by simp [hx])
  have back0 : ∀ W', Below W.heap.size W W' → DataW.Trod enc Try.prog W' 0 (fun b => decide (b < W.heap.size)) true 24 v0 d0 p0 := fun W' hb => Below.trod laidOut (by kernel_rfl) (of_decide_eq_true (by kernel_rfl)) h0 hb lt0
  have back1 : ∀ W', Below W.heap.size W W' → DataW.Trod enc Try.prog W' 0 (fun b => decide (b < W.heap.size)) true 25 v1 d1 p1 := fun W' hb => Below.trod laidOut (by kernel_rfl) (of_decide_eq_true (by kernel_rfl)) h1 hb lt1
  have back2 : ∀ W', Below W.heap.size W W' → DataW.Trod enc Try.prog W' 0 (fun b => decide (b < W.heap.size)) true 5 v2 d2 p2 := fun W' hb => Below.trod laidOut (by kernel_rfl) (of_decide_eq_true (by kernel_rfl)) h2 hb lt2
  obtain ⟨s0, z0, rfl, k0⟩ := open_mem (hval 0 24 v0 rfl rfl) h0
  obtain ⟨l1, k1⟩ := open_accs (hval 1 25 v1 rfl rfl) h1
  have c1 := accs_cap (hval 1 25 v1 rfl rfl) h1
  obtain ⟨a2, rfl, rfl, rfl, w2⟩ := open_int Try.underlying5 (hval 2 5 v2 rfl rfl) h2
  refine (walk W s0 z0 k0 v1 l1 k1 c1 a2 w2).mono fun e W' ⟨he, hg⟩ => ?_
  subst he
  exact ⟨_, rfl, _, _, _, [], _, [], hW', (trodAll_cons_mk (shut_bool Try.underlying4 _) trodAll_mk0), (trodAll_cons_mk (back0 _ hg) (trodAll_cons_mk (back1 _ hg) (trodAll_cons_mk (back2 _ hg) trodAll_mk0))), rfl, hg.frame _, fun h => by cases h⟩

theorem over : Rows.memAllSplitsRow.holds Try.pinned (OpenSpec.ofChange Rows.memAllSplitsSpec) :=
  OpenClaim.holds_of_wide 4 Try.f4 rfl rfl rfl rfl rfl rfl rfl ⟨rfl, rfl, rfl, rfl, rfl⟩ rfl rfl rfl rfl rfl (by kernel_rfl) Try.func4 (by kernel_rfl)
    (of_decide_eq_true (by kernel_rfl)) (by unfold Func.isWrapper; first | (rw [if_pos (by decide +kernel)]; kernel_rfl) | (rw [if_neg (by decide +kernel)]; exact ⟨rfl, rfl⟩))
    (fun os started H enc _ => lifted os started H enc)

/-- The given statement. -/
theorem proved : Rows.MemAllSplitsSaid :=
  over
#print axioms proved
end Go.Proofs.Ytimjodpndhckdaa.memAllSplits
