
/-
  The examples of chapter 3, which every statement of layer 3 asks: they hold, and the call only makes new memory.
-/
import Derived.Test.YtimjodpndhckdaaRows
import Derived.Test.YtimjodpndhckdaaBase
import Derived.Test.YtimjodpndhckdaaWirePlain
import Derived.Test.YtimjodpndhckdaaWireA
import Derived.Test.YtimjodpndhckdaaWireB
import Derived.Test.YtimjodpndhckdaaWireC
import Derived.Test.YtimjodpndhckdaaWireE
import Derived.Test.YtimjodpndhckdaaWireF
import Derived.Test.YtimjodpndhckdaaWireG
import Derived.Test.YtimjodpndhckdaaWireH
namespace Go.Proofs.Ytimjodpndhckdaa
set_option maxRecDepth 20000
set_option linter.unusedVariables false
open Go.ChangeShapes Go.WideShapes Go.ChangeAt Go.RowKit

theorem below_one {w w' : World} {o : Obj} (h : Below (w.alloc o).heap.size (w.alloc o) w') : Below w.heap.size w w' :=
  ((Below.refl _ _).alloc (Nat.le_refl _) _).trans (h.mono (by simp))
theorem hasInts_keepN {w w' : World} {v : Value} {zs : List Int} (h : HasInts w v zs) (hb : Below w.heap.size w w') : HasInts w' v zs := hasInts_keep h hb

theorem hasB_new {w : World} {cs : Array Value} {T : TypeId} {n : Nat} (l : List Nat) (hcs : cs = (l.map bV).toArray) (hn : n = l.length) (hl : l.length ≤ 1000) : HasB (w.alloc (.cells cs T)) (.slice (some ⟨w.heap.size, 0, none⟩) n n) l := by
  subst hcs; subst hn
  refine ⟨_, _, rfl, ⟨by omega, Nat.le_refl _, by omega, fun h => by cases h⟩, Or.inr ⟨_, _, rfl, fun j hj => ?_⟩⟩
  rw [World.cell?_alloc_at _ _ _ _ rfl]
  simp [List.getD, List.getElem?_eq_getElem hj, bV]
theorem hasInts_new {w : World} {cs : Array Value} {T : TypeId} {n : Nat} (l : List Int) (hcs : cs = (l.map (Value.int .i64)).toArray) (hn : n = l.length) (hl : l.length ≤ 1000) : HasInts (w.alloc (.cells cs T)) (.slice (some ⟨w.heap.size, 0, none⟩) n n) l := by
  subst hcs; subst hn
  refine ⟨_, _, rfl, by omega, Or.inr ⟨_, _, rfl, fun j hj => ?_⟩⟩
  rw [World.cell?_alloc_at _ _ _ _ rfl]
  simp [List.getD, List.getElem?_eq_getElem hj]

theorem put_s {n : Int} {w : World} (m : List Nat) (hn : I64 n) (hm : enc n = m) : Calls Try.prog 22 #[.int .i64 n] w fun e w' => ∃ v, e = .returned v ∧ HasB w' v m ∧ Below w.heap.size w w' :=
  (put_any n hn w).mono fun e w' ⟨v, he, ho, hb⟩ => ⟨v, he, hm ▸ hasB_of_owns ho, hb⟩
theorem get_s {v : Value} {w : World} (l : List Nat) (T : Value) (hl : ∀ b ∈ l, b < 256) (hT : decV l = T) (hv : HasB w v l) : Calls Try.prog 48 #[v] w fun e w' => e = .returned T ∧ Below w.heap.size w w' :=
  (get_any v l hl w hv).mono fun e w' ⟨he, n, hw⟩ => ⟨hT ▸ he, hw ▸ below_drewN (Below.refl _ _) n⟩
theorem gtext_s {v : Value} {w : World} (l : List Nat) (T : Value) (hl : ∀ b ∈ l, b < 256) (hT : gtextV l = T) (hv : HasB w v l) : Calls Try.prog 49 #[v] w fun e w' => e = .returned T ∧ Below w.heap.size w w' :=
  (gtext_any v l hl w hv).mono fun e w' ⟨he, n, hw⟩ => ⟨hT ▸ he, hw ▸ below_drewN (Below.refl _ _) n⟩
theorem gnums_s {v : Value} {w : World} (l : List Nat) (ns : List Int) (u : Int) (hl : ∀ b ∈ l, b < 256) (hlen : l.length ≤ 1000000) (hT : decNums l = some (ns, u.toNat)) (hu : ((u.toNat : Nat) : Int) = u) (hv : HasB w v l) : Calls Try.prog 50 #[v] w fun e w' => ∃ r, e = .returned (.tuple #[r, .int .i64 u, .int .i64 0]) ∧ HasInts w' r ns ∧ Below w.heap.size w w' :=
  (gnums_any v l hl hlen w hv).mono fun e w' ⟨hb, h⟩ => by
    rw [hT] at h
    obtain ⟨r, he, hr⟩ := h
    exact ⟨r, by rw [he, hu], hr, hb⟩
theorem same_s {v u : Value} {w : World} (zs ys : List Nat) (b : Bool) (hb : decide (zs = ys) = b) (hv : HasB w v zs) (hu : HasB w u ys) : Calls Try.prog 51 #[v, u] w fun e w' => e = .returned (.bool b) ∧ Below w.heap.size w w' :=
  (rsameB_any v u zs ys w hv hu).mono fun e w' ⟨he, n, hw⟩ => ⟨hb ▸ he, hw ▸ below_drewN (Below.refl _ _) n⟩
theorem ints_s {v u : Value} {w : World} (zs ys : List Int) (b : Bool) (hb : decide (zs = ys) = b) (hv : HasInts w v zs) (hu : HasInts w u ys) : Calls Try.prog 52 #[v, u] w fun e w' => e = .returned (.bool b) ∧ Below w.heap.size w w' :=
  (rints_any v u zs ys w hv hu).mono fun e w' ⟨he, n, hw⟩ => ⟨hb ▸ he, hw ▸ below_drewN (Below.refl _ _) n⟩
theorem text_s {s : ByteArray} {w : World} (m : List Nat) (hs : s.size ≤ 1000000) (hm : txt s = m) : Calls Try.prog 53 #[.string s] w fun e w' => ∃ v, e = .returned v ∧ HasB w' v m ∧ Below w.heap.size w w' :=
  (text_any s hs w).mono fun e w' ⟨v, he, ho, hb⟩ => ⟨v, he, hm ▸ hasB_of_owns ho, hb⟩
theorem nums_s {v : Value} {w : World} (l : List Int) (m : List Nat) (hl : ∀ n ∈ l, I64 n) (hlen : l.length ≤ 100000) (hm : numsB l = m) (hv : HasInts w v l) : Calls Try.prog 54 #[v] w fun e w' => ∃ v, e = .returned v ∧ HasB w' v m ∧ Below w.heap.size w w' :=
  (nums_any v l hl hlen w hv).mono fun e w' ⟨v, he, ho, hb⟩ => ⟨v, he, hm ▸ hasB_of_owns ho, hb⟩
theorem sum_s {v : Value} {w : World} (l : List Nat) (n : Int) (hl : ∀ b ∈ l, b < 256) (hn : (adler l : Int) = n) (hv : HasB w v l) : Calls Try.prog 20 #[v] w fun e w' => e = .returned (.int .i64 n) ∧ Below w.heap.size w w' :=
  (sum_any v l hl w hv).mono fun e w' ⟨he, hw⟩ => ⟨hn ▸ he, hw ▸ Below.refl _ _⟩
theorem seal_s {v : Value} {w : World} (l m : List Nat) (hl : ∀ b ∈ l, b < 256) (hlen : l.length ≤ 1000000) (hm : sealB l = m) (hv : HasB w v l) : Calls Try.prog 21 #[v] w fun e w' => ∃ v, e = .returned v ∧ HasB w' v m ∧ Below w.heap.size w w' :=
  (seal_any v l hl hlen w hv).mono fun e w' ⟨v, he, ho, hb⟩ => ⟨v, he, hm ▸ hasB_of_owns ho, hb⟩

theorem x_grp1 {u : Nat} (h : u < 128) : grp u = [u] := grp_small h
theorem enc_a : enc (-64) = [127] := by unfold enc; rw [show zz (-64) = 127 by decide, grp_small (by decide)]
theorem enc_b : enc 64 = [128, 1] := by unfold enc; rw [show zz 64 = 128 by decide, grp_big (by decide), grp_small (by decide)]
theorem dec_a : decV [128, 1, 9] = .tuple #[.int .i64 64, .int .i64 2, .int .i64 0] := by
  unfold decV; rw [show dec [128, 1, 9] = some (64, 2) by decide +kernel]; rfl
theorem dec_b : decV [128, 0] = .tuple #[.int .i64 0, .int .i64 0, .int .i64 3] := by
  unfold decV; rw [show dec [128, 0] = none by decide +kernel]
theorem gt_a : gtextV [4, 97, 98, 7] = .tuple #[.string ⟨#[97, 98]⟩, .int .i64 3, .int .i64 0] := by
  unfold gtextV; rw [show blk [4, 97, 98, 7] = some (2, 1) by decide +kernel]; rfl
theorem gn_a : decNums [4, 2, 1] = some ([1, -1], (3 : Int).toNat) := by decide +kernel
theorem tx_a : txt ⟨#[97, 98]⟩ = [4, 97, 98] := by
  show enc 2 ++ [97, 98] = _
  unfold enc; rw [show zz 2 = 4 by decide, grp_small (by decide)]; rfl
theorem nm_a : numsB [1, -1] = [4, 2, 1] := by
  show enc 2 ++ (enc 1 ++ (enc (-1) ++ [])) = _
  unfold enc; rw [show zz 2 = 4 by decide, show zz 1 = 2 by decide, show zz (-1) = 1 by decide, grp_small (u := 4) (by decide), grp_small (u := 2) (by decide), grp_small (u := 1) (by decide)]; rfl
theorem sl_a : sealB [1] = [2, 1, 132, 128, 16] := by
  have ha : (adler [1] : Int) = 131074 := by decide +kernel
  have h1 : enc (([1] : List Nat).length : Int) = [2] := by
    show enc 1 = _
    unfold enc; rw [show zz 1 = 2 by decide, grp_small (by decide)]
  have h2 : enc 131074 = [132, 128, 16] := by
    unfold enc; rw [show zz 131074 = 262148 by decide, grp_big (by decide), grp_big (by decide), grp_small (by decide)]
  unfold sealB
  rw [ha, h1, h2]; rfl

theorem below_new (w : World) (o : Obj) : Below w.heap.size w (w.alloc o) := (Below.refl _ _).alloc (Nat.le_refl _) _

set_option maxHeartbeats 4000000 in
set_option maxRecDepth 100000 in
theorem sane_any (w : World) : Calls Try.prog 18 #[] w fun e w' => e = .returned (.bool true) ∧ Below w.heap.size w w' := by
  go_enter Try.func18, Try.ntmps18
  have HW : Hid (Below w.heap.size w w) := Lib.hid (Below.refl _ _)
  go_wp2_with fail
  refine (put_s [127] (by unfold I64; omega) enc_a).mono ?_
  rintro e w1 ⟨v1, rfl, qa, hb⟩
  have HA := Lib.hid qa
  clear qa
  replace HW := Lib.hid (HW.out.trans (hb.mono HW.out.size))
  clear hb
  go_wp2_with fail
  refine (put_s [128, 1] (by unfold I64; omega) enc_b).mono ?_
  rintro e w2 ⟨v2, rfl, qb, hb⟩
  have HB := Lib.hid qb
  clear qb
  replace HW := Lib.hid (HW.out.trans (hb.mono HW.out.size))
  replace HA := Lib.hid (hasB_keep HA.out hb)
  clear hb
  go_wp2_with fail
  refine (get_s [128, 1, 9] _ (by decide) dec_a (hasB_new [128, 1, 9] rfl rfl (by decide))).mono ?_
  rintro e w3 ⟨rfl, hb⟩
  replace hb := below_one hb
  replace HW := Lib.hid (HW.out.trans (hb.mono HW.out.size))
  replace HA := Lib.hid (hasB_keep HA.out hb)
  replace HB := Lib.hid (hasB_keep HB.out hb)
  clear hb
  go_wp2_with fail
  refine (get_s [128, 0] _ (by decide) dec_b (hasB_new [128, 0] rfl rfl (by decide))).mono ?_
  rintro e w4 ⟨rfl, hb⟩
  replace hb := below_one hb
  replace HW := Lib.hid (HW.out.trans (hb.mono HW.out.size))
  replace HA := Lib.hid (hasB_keep HA.out hb)
  replace HB := Lib.hid (hasB_keep HB.out hb)
  clear hb
  go_wp2_with fail
  refine (gtext_s [4, 97, 98, 7] _ (by decide) gt_a (hasB_new [4, 97, 98, 7] rfl rfl (by decide))).mono ?_
  rintro e w5 ⟨rfl, hb⟩
  replace hb := below_one hb
  replace HW := Lib.hid (HW.out.trans (hb.mono HW.out.size))
  replace HA := Lib.hid (hasB_keep HA.out hb)
  replace HB := Lib.hid (hasB_keep HB.out hb)
  clear hb
  go_wp2_with fail
  refine (gnums_s [4, 2, 1] [1, -1] 3 (by decide) (by decide) gn_a rfl (hasB_new [4, 2, 1] rfl rfl (by decide))).mono ?_
  rintro e w6 ⟨v6, rfl, ql, hb⟩
  have HL := Lib.hid ql
  clear ql
  replace hb := below_one hb
  replace HW := Lib.hid (HW.out.trans (hb.mono HW.out.size))
  replace HA := Lib.hid (hasB_keep HA.out hb)
  replace HB := Lib.hid (hasB_keep HB.out hb)
  clear hb
  go_wp2_with fail
  refine (same_s [127] [127] true (by decide) (hasB_keep HA.out (below_new _ _)) (hasB_new [127] rfl rfl (by decide))).mono ?_
  rintro e w7 ⟨rfl, hb⟩
  replace hb := below_one hb
  replace HW := Lib.hid (HW.out.trans (hb.mono HW.out.size))
  clear HA
  replace HB := Lib.hid (hasB_keep HB.out hb)
  replace HL := Lib.hid (hasInts_keep HL.out hb)
  clear hb
  go_wp2_with fail
  refine (same_s [128, 1] [128, 1] true (by decide) (hasB_keep HB.out (below_new _ _)) (hasB_new [128, 1] rfl rfl (by decide))).mono ?_
  rintro e w8 ⟨rfl, hb⟩
  replace hb := below_one hb
  replace HW := Lib.hid (HW.out.trans (hb.mono HW.out.size))
  clear HB
  replace HL := Lib.hid (hasInts_keep HL.out hb)
  clear hb
  go_wp2_with fail
  refine (ints_s [1, -1] [1, -1] true (by decide) (hasInts_keep HL.out (below_new _ _)) (hasInts_new [1, -1] rfl rfl (by decide))).mono ?_
  rintro e w9 ⟨rfl, hb⟩
  replace hb := below_one hb
  replace HW := Lib.hid (HW.out.trans (hb.mono HW.out.size))
  clear HL
  clear hb
  go_wp2_with fail
  refine (text_s [4, 97, 98] (by decide) tx_a).mono ?_
  rintro e w10 ⟨v10, rfl, qt, hb⟩
  have HT := Lib.hid qt
  clear qt
  replace HW := Lib.hid (HW.out.trans (hb.mono HW.out.size))
  clear hb
  go_wp2_with fail
  refine (same_s [4, 97, 98] [4, 97, 98] true (by decide) (hasB_keep HT.out (below_new _ _)) (hasB_new [4, 97, 98] rfl rfl (by decide))).mono ?_
  rintro e w11 ⟨rfl, hb⟩
  replace hb := below_one hb
  replace HW := Lib.hid (HW.out.trans (hb.mono HW.out.size))
  clear HT
  clear hb
  go_wp2_with fail
  refine (nums_s [1, -1] [4, 2, 1] (by intro n hn; simp at hn; unfold I64; omega) (by decide) nm_a (hasInts_new [1, -1] rfl rfl (by decide))).mono ?_
  rintro e w12 ⟨v12, rfl, qn, hb⟩
  have HN := Lib.hid qn
  clear qn
  replace hb := below_one hb
  replace HW := Lib.hid (HW.out.trans (hb.mono HW.out.size))
  clear hb
  go_wp2_with fail
  refine (same_s [4, 2, 1] [4, 2, 1] true (by decide) (hasB_keep HN.out (below_new _ _)) (hasB_new [4, 2, 1] rfl rfl (by decide))).mono ?_
  rintro e w13 ⟨rfl, hb⟩
  replace hb := below_one hb
  replace HW := Lib.hid (HW.out.trans (hb.mono HW.out.size))
  clear HN
  clear hb
  go_wp2_with fail
  refine (sum_s [1, 2] 393220 (by decide) (by decide +kernel) (hasB_new [1, 2] rfl rfl (by decide))).mono ?_
  rintro e w14 ⟨rfl, hb⟩
  replace hb := below_one hb
  replace HW := Lib.hid (HW.out.trans (hb.mono HW.out.size))
  clear hb
  go_wp2_with fail
  refine (seal_s [1] [2, 1, 132, 128, 16] (by decide) (by decide) sl_a (hasB_new [1] rfl rfl (by decide))).mono ?_
  rintro e w15 ⟨v15, rfl, qs, hb⟩
  have HS := Lib.hid qs
  clear qs
  replace hb := below_one hb
  replace HW := Lib.hid (HW.out.trans (hb.mono HW.out.size))
  clear hb
  go_wp2_with fail
  refine (same_s [2, 1, 132, 128, 16] [2, 1, 132, 128, 16] true (by decide) (hasB_keep HS.out (below_new _ _)) (hasB_new [2, 1, 132, 128, 16] rfl rfl (by decide))).mono ?_
  rintro e w16 ⟨rfl, hb⟩
  replace hb := below_one hb
  replace HW := Lib.hid (HW.out.trans (hb.mono HW.out.size))
  clear HS
  clear hb
  go_wp2
  go_ret
  exact ⟨rfl, HW.out⟩

end Go.Proofs.Ytimjodpndhckdaa
