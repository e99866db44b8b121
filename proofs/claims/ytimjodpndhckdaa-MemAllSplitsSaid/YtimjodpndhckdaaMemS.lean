
/-
  The examples of chapter 2, which every statement of layer 2 asks first: they hold, and the call only makes new memory.
-/
import Derived.Test.YtimjodpndhckdaaRows
import Derived.Test.YtimjodpndhckdaaBase
import Derived.Test.YtimjodpndhckdaaMemA
import Derived.Test.YtimjodpndhckdaaMemB
import Derived.Test.YtimjodpndhckdaaMemE
import Derived.Test.YtimjodpndhckdaaMemF
import Derived.Test.YtimjodpndhckdaaMemG
namespace Go.Proofs.Ytimjodpndhckdaa
open Go.ChangeShapes Go.WideShapes Go.ChangeAt Go.RowKit

def saneL : List AccD := [⟨3, 0, 5, 7, ByteArray.empty⟩, ⟨3, 0, 5, 7, ByteArray.empty⟩, ⟨4, 0, 0, 3, ByteArray.empty⟩, ⟨1, 0, 0, 0, ByteArray.empty⟩, ⟨2, 0, 0, 1, ByteArray.empty⟩]
theorem sane_err : errOf 1 saneL = 0 := by decide +kernel
theorem sane_st : stZ [5] saneL = [1] ∧ stR [5] saneL = [(5, true), (7, false), (7, true), (10, true), (10, true)] := by
  simp [saneL, stZ, stR, AccD.app, AccD.res, appZ, appOk, wrap64]

theorem chk_1 : chk 1 1 1 0 0 ByteArray.empty = 8 := by decide +kernel
theorem chk_2 : chk 1 1 0 0 1 ByteArray.empty = 1 := by decide +kernel

set_option maxHeartbeats 1600000 in
set_option maxRecDepth 100000 in
theorem sane_any (w : World) : Calls Try.prog 12 #[] w fun e w' => e = .returned (.bool true) ∧ Below w.heap.size w w' := by
  go_enter Try.func12, Try.ntmps12
  go_wp2_with fail
  have hm0 : HasInts (((w.alloc (.cells #[.int .i64 5] 3)).alloc (.cells #[.slice (some ⟨w.heap.size, 0, none⟩) 1 1] 24)).alloc (.cells #[.int .i64 3, .int .i64 0, .int .i64 5, .int .i64 7, .string ByteArray.empty, .int .i64 3, .int .i64 0, .int .i64 5, .int .i64 7, .string ByteArray.empty, .int .i64 4, .int .i64 0, .int .i64 0, .int .i64 3, .string ByteArray.empty, .int .i64 1, .int .i64 0, .int .i64 0, .int .i64 0, .string ByteArray.empty, .int .i64 2, .int .i64 0, .int .i64 0, .int .i64 1, .string ByteArray.empty] 40)) (.slice (some ⟨w.heap.size, 0, none⟩) 1 1) [5] := by
    refine ⟨_, _, rfl, by simp, Or.inr ⟨_, _, rfl, fun j hj => ?_⟩⟩
    match j, hj with
    | 0, _ => exact cell_alloc _ (cell_alloc _ (by rw [World.cell?_alloc_at _ _ _ _ rfl]; rfl))
  have hl0 : HasAccs (((w.alloc (.cells #[.int .i64 5] 3)).alloc (.cells #[.slice (some ⟨w.heap.size, 0, none⟩) 1 1] 24)).alloc (.cells #[.int .i64 3, .int .i64 0, .int .i64 5, .int .i64 7, .string ByteArray.empty, .int .i64 3, .int .i64 0, .int .i64 5, .int .i64 7, .string ByteArray.empty, .int .i64 4, .int .i64 0, .int .i64 0, .int .i64 3, .string ByteArray.empty, .int .i64 1, .int .i64 0, .int .i64 0, .int .i64 0, .string ByteArray.empty, .int .i64 2, .int .i64 0, .int .i64 0, .int .i64 1, .string ByteArray.empty] 40)) (.slice (some ⟨w.heap.size + 1 + 1, 0, none⟩) 5 5) saneL := by
    refine ⟨_, _, rfl, by simp [saneL], Or.inr ⟨_, _, rfl, fun j hj => ?_⟩⟩
    match j, hj with
    | 0, _ => simp [World.cell?_alloc_at, saneL]
    | 1, _ => simp [World.cell?_alloc_at, saneL]
    | 2, _ => simp [World.cell?_alloc_at, saneL]
    | 3, _ => simp [World.cell?_alloc_at, saneL]
    | 4, _ => simp [World.cell?_alloc_at, saneL]
  refine (all_any _ _ [5] saneL _ hm0 hl0 (by decide) (by decide)).mono ?_
  have e1 : errOf ([5] : List Int).length saneL = 0 := sane_err
  rintro e w1 ⟨u, r, rfl, hu, hr, hb1⟩
  rw [show allZ [5] saneL = [1] by unfold allZ; rw [if_pos e1, sane_st.1]] at hu
  rw [show allR [5] saneL = [(5, true), (7, false), (7, true), (10, true), (10, true)] by unfold allR; rw [if_pos e1, sane_st.2]] at hr
  rw [e1]
  have M1 : Hid (w1.cell? ⟨w.heap.size + 1, 0, none⟩ = some (.slice (some ⟨w.heap.size, 0, none⟩) 1 1)) := Lib.hid (cell_below hb1 (by simp [World.cell?_alloc_past, World.cell?_alloc_at]))
  have HM1 := Lib.hid (hasInts_keep hm0 hb1)
  have HL1 := Lib.hid (hasAccs_keep hl0 hb1)
  have HB1 : Hid (Below w.heap.size w w1) := Lib.hid (by
    refine (?_ : Below w.heap.size w _).trans (hb1.mono (by simp; omega))
    repeat (first | with_reducible exact Below.refl _ _ | with_reducible refine Below.alloc ?_ (by first | omega | (simp; omega) | simp) _))
  have hs1 := hb1.size
  simp at hs1
  have HU := Lib.hid hu
  have HR := Lib.hid hr
  obtain ⟨au, cu, rfl, _, _⟩ := hu
  obtain ⟨ar, cr, rfl, _, hrc⟩ := hr
  clear hm0 hl0 hb1 e1
  rcases hrc with hrc | ⟨br, orr, rfl, hrc⟩
  · simp at hrc
  have HRC := Lib.hid hrc
  clear hrc
  have m1 := fun o => cell_alloc o M1.out
  go_wp2_with fail
  have d1 : doR 1 1 0 0 ByteArray.empty [5] = 0 ∧ doOk 1 1 0 0 ByteArray.empty [5] = false ∧ doZ 1 1 0 0 ByteArray.empty [5] = [5] := by
    have h : chk ([5] : List Int).length 1 1 0 0 ByteArray.empty = 8 := chk_1
    unfold doR doOk doZ; rw [h]; exact ⟨rfl, rfl, rfl⟩
  have d2 : doR 1 0 0 1 ByteArray.empty [5] = 0 ∧ doOk 1 0 0 1 ByteArray.empty [5] = false ∧ doZ 1 0 0 1 ByteArray.empty [5] = [5] := by
    have h : chk ([5] : List Int).length 1 0 0 1 ByteArray.empty = 1 := chk_2
    unfold doR doOk doZ; rw [h]; exact ⟨rfl, rfl, rfl⟩
  have D1 : Hid (∀ w, HasInts w (.slice (some ⟨w1.heap.size - w1.heap.size, 0, none⟩) 1 1) [5] → True) := Lib.hid (fun _ _ => trivial)
  refine (do_any _ [5] 1 1 0 0 ByteArray.empty _ (hasInts_keep HM1.out ((Below.refl _ _).alloc (Nat.le_refl _) _)) (by decide)).mono ?_
  rintro e w2 ⟨u2, rfl, hu2, hb2⟩
  rw [d1.1, d1.2.1, show chk ([5] : List Int).length 1 1 0 0 ByteArray.empty = 8 from chk_1]
  rw [d1.2.2] at hu2
  obtain ⟨au2, cu2, rfl, _, _⟩ := hu2
  have M2 := Lib.hid (cell_below hb2 (m1 _))
  have hbx : Below w1.heap.size w1 w2 := ((Below.refl _ _).alloc (Nat.le_refl _) _).trans (hb2.mono (by simp))
  have B12 := Lib.hid hbx
  have N2 : Hid (w2.cell? ⟨w1.heap.size, 0, none⟩ = some (.slice au 1 cu)) := Lib.hid (cell_below hb2 (by rw [World.cell?_alloc_at _ _ _ _ rfl]; rfl))
  have hs2 := hbx.size
  have m2 := fun o o' => cell_alloc o' (cell_alloc o M2.out)
  clear hb2 hbx m1 D1 d1
  unfold resV
  go_wp2_with fail
  refine (do_any _ [5] 1 0 0 1 ByteArray.empty _ (hasInts_keep HM1.out ((B12.out.alloc hs2 _).alloc (by simp; omega) _)) (by decide)).mono ?_
  rintro e w3 ⟨u3, rfl, hu3, hb3⟩
  rw [d2.1, d2.2.1, show chk ([5] : List Int).length 1 0 0 1 ByteArray.empty = 1 from chk_2]
  rw [d2.2.2] at hu3
  obtain ⟨au3, cu3, rfl, _, _⟩ := hu3
  have hbx : Below w1.heap.size w1 w3 := ((B12.out.alloc hs2 _).alloc (by simp; omega) _).trans (hb3.mono (by simp; omega))
  have B13 := Lib.hid hbx
  have hs3 := hb3.size
  simp at hs3
  have up : ∀ {b o : Nat} {x : Value}, w1.cell? ⟨b, o, none⟩ = some x → ∀ o1 o2, ((w3.alloc o1).alloc o2).cell? ⟨b, o, none⟩ = some x := fun h o1 o2 => cell_alloc o2 (cell_alloc o1 (cell_below hbx h))
  have N3 : Hid (∀ o1 o2, ((w3.alloc o1).alloc o2).cell? ⟨w1.heap.size, 0, none⟩ = some (.slice au 1 cu)) := Lib.hid (fun o1 o2 => cell_alloc o2 (cell_alloc o1 (cell_below hb3 (cell_alloc _ (cell_alloc _ N2.out)))))
  have M3 := Lib.hid (up M1.out)
  obtain ⟨ha, capl, hh, hll, hlit⟩ := HL1.out
  simp only [Value.slice.injEq] at hh
  obtain ⟨rfl, hh1, hh2⟩ := hh
  clear hh1 hh2 hll
  rcases hlit with hlit | ⟨bl, ol, hbl, hlit⟩
  · simp [saneL] at hlit
  simp only [Option.some.injEq, Addr.mk.injEq] at hbl
  obtain ⟨rfl, rfl, hb9⟩ := hbl
  clear hb9
  have l0 := hlit 0 (by decide)
  simp [saneL] at l0
  have L0 := Lib.hid (up l0.1)
  have L1 := Lib.hid (up l0.2.1)
  have L2 := Lib.hid (up l0.2.2.1)
  have L3 := Lib.hid (up l0.2.2.2.1)
  have L4 := Lib.hid (up l0.2.2.2.2)
  have t0 := HRC.out 0 (by decide)
  have t1 := HRC.out 1 (by decide)
  have t2 := HRC.out 2 (by decide)
  have t3 := HRC.out 3 (by decide)
  have t4 := HRC.out 4 (by decide)
  simp at t0 t1 t2 t3 t4
  have a0 := up t0.1
  have b0 := up t0.2
  have a1 := up t1.1
  have b1 := up t1.2
  have a2 := up t2.1
  have b2 := up t2.2
  have a3 := up t3.1
  have a4 := up t4.1
  have HQ := res_eql
  have HG := res_guard
  have n3 := N3.out
  clear hb3 hbx m2 d2 up hlit l0 t0 t1 t2 t3 t4
  unfold resV
  go_wp2_with fail
  have hw1 : Below w1.heap.size w1 (((w3.alloc (.cells #[.slice au3 1 cu3] 24)).alloc (.cells #[.int .i64 0, .bool false] 36)).alloc (.cells #[.int .i64 1] 3)) :=
    ((B13.out.alloc (by omega) _).alloc (by simp; omega) _).alloc (by simp; omega) _
  refine (same_any _ _ [1] [1] _ (hasInts_keep HU.out hw1) ⟨_, _, rfl, by simp, Or.inr ⟨_, _, rfl, fun j hj => ?_⟩⟩).mono ?_
  · match j, hj with
    | 0, _ => rw [World.cell?_alloc_at _ _ _ _ (by simp)]; rfl
  rintro e w4 ⟨rfl, hb4⟩
  have hb14 : Below w1.heap.size w1 w4 := hw1.trans (hb4.mono (by simp; omega))
  have B14 := Lib.hid hb14
  have n4 := cell_below hb4 (cell_alloc _ (N3.out _ _))
  have m4 := cell_below hb4 (cell_alloc _ (M3.out _ _))
  have c0 := cell_below hb4 (cell_alloc _ (L0.out _ _))
  have c1 := cell_below hb4 (cell_alloc _ (L1.out _ _))
  have c2 := cell_below hb4 (cell_alloc _ (L2.out _ _))
  have c3 := cell_below hb4 (cell_alloc _ (L3.out _ _))
  have c4 := cell_below hb4 (cell_alloc _ (L4.out _ _))
  have n5 := fun o => cell_alloc o n4
  have m5 := fun o => cell_alloc o m4
  have hs4 := hb14.size
  have HRT : Hid (∀ w, Calls Try.prog 43 #[.agg #[.int .i64 3, .int .i64 0, .int .i64 5, .int .i64 7, .string ByteArray.empty]] w fun e w' => e = .returned (.bool true) ∧ ∃ cs, w' = w.alloc (.cells cs 40)) := Lib.hid (fun w => by
    have := right_any 3 0 5 7 ByteArray.empty w
    rwa [show rightB 3 0 5 7 ByteArray.empty = true by decide +kernel] at this)
  clear hw1 hb4 hb14 a0 b0 a1 b1 a2 b2 a3 a4 HQ HG n3 hs3 hs2 hs1
  go_wp2_with (first
    | (go_at_call 43; refine (HRT.out _).mono ?_; rintro e w' ⟨rfl, cs, rfl⟩))
  have hw5 : Below w1.heap.size w1 (w4.alloc (.cells cs 40)) := B14.out.alloc hs4 _
  refine (same_any _ _ [5] [1] _ (hasInts_keep HM1.out hw5) (hasInts_keep HU.out hw5)).mono ?_
  rintro e w6 ⟨rfl, hb6⟩
  have B6 := Lib.hid (show Below w.heap.size w w6 from HB1.out.trans ((hw5.trans (hb6.mono (by simp; omega))).mono HB1.out.size))
  clear hw5 hb6
  go_wp2
  go_ret
  exact ⟨rfl, B6.out⟩

end Go.Proofs.Ytimjodpndhckdaa
