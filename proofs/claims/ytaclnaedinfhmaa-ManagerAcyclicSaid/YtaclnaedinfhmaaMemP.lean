
/-
  Layer 2: one access to a memory: the row that it leaves is the old one, or one of the call's own.
-/
import Derived.Test.YtaclnaedinfhmaaRows
import Derived.Test.YtaclnaedinfhmaaBase
import Derived.Test.YtaclnaedinfhmaaAux
import Derived.Test.YtaclnaedinfhmaaMemA
import Derived.Test.YtaclnaedinfhmaaMemB
import Derived.Test.YtaclnaedinfhmaaMemC
import Derived.Test.YtaclnaedinfhmaaMemD
namespace Go.Proofs.Ytaclnaedinfhmaa
open Go.ChangeShapes Go.WideShapes Go.ChangeAt Go.RowKit

/-- The row u is v, or owned from block B on. -/
def FromO (w' : World) (B : Nat) (v u : Value) (Z : List Int) : Prop := u = v ∨ w'.ownsRow B 3 1 u Z.length (Z.map (Value.int .i64))

set_option maxHeartbeats 1600000 in
theorem do_anyF (v : Value) (zs : List Int) (k c o n : Int) (b : ByteArray) (w : World) (hv : HasInts w v zs) (hlen : zs.length ≤ 35184372088832) :
    Calls Try.prog 39 #[.agg #[v], acc k c o n b] w fun e w' =>
    ∃ u, e = .returned (.tuple #[.agg #[u], resV (doR k c o n b zs) (doOk k c o n b zs), .int .i64 (chk zs.length k c o n b)]) ∧ HasInts w' u (doZ k c o n b zs) ∧ Below w.heap.size w w' ∧ FromO w' w.heap.size v u (doZ k c o n b zs) := by
  have hv0 := hv
  obtain ⟨a, cap, rfl, hl, hc⟩ := hv
  obtain ⟨r, hr⟩ : ∃ r, r = chk zs.length k c o n b := ⟨_, rfl⟩
  by_cases he : r = 0
  · have hck : chk zs.length k c o n b = 0 := by rw [← hr, he]
    obtain ⟨hk, h0, h1, hright⟩ := chk_zero hck
    have HQ : Hid (∀ w, Calls Try.prog 55 #[.int .i64 zs.length, acc k c o n b] w fun e w' => e = .returned (.int .i64 0) ∧ ∃ cs cs', w' = (w.alloc (.cells cs 32)).alloc (.cells cs' 32)) := Lib.hid (fun w => by
      have := check_any zs.length k c o n b w; rwa [hck] at this)
    by_cases k1 : k = 1
    · subst k1
      rw [show doR 1 c o n b zs = zs.getD c.toNat 0 by unfold doR; rw [if_pos hck], show doOk 1 c o n b zs = true by unfold doOk; rw [if_pos hck]; rfl,
        show doZ 1 c o n b zs = zs by unfold doZ; rw [if_pos hck, appZ_one]]
      rw [hck]
      obtain ⟨j, rfl⟩ := Int.eq_ofNat_of_zero_le h0
      rcases hc with hc | ⟨bb, oo, rfl, hc⟩
      · omega
      have hcell := hc j (by omega)
      have hbl : bb < w.heap.size := World.block_lt_of_cell? w ⟨bb, oo + j, none⟩ hcell
      rw [Int.toNat_natCast]
      obtain ⟨x, hx⟩ : ∃ x, x = zs.getD j 0 := ⟨_, rfl⟩
      rw [← hx] at hcell ⊢
      have h6 := fun o1 o2 o3 o4 o5 o6 => cell_alloc o6 (cell_alloc o5 (cell_alloc o4 (cell_alloc o3 (cell_alloc o2 (cell_alloc o1 hcell)))))
      have HV := Lib.hid hv0
      unfold acc at HQ ⊢
      clear hr he hck hk h0 hright hc hx hv0
      go_enter Try.func39, Try.ntmps39
      go_wp2_with (first | (go_at_call 55; refine (HQ.out _).mono ?_; rintro e w' ⟨rfl, cs, cs', rfl⟩))
      go_region
      all_goals (
        go_wp2
        refine bodyPost_ret (v := .tuple #[.agg #[.slice (some ⟨bb, oo, none⟩) zs.length cap], resV x true, .int .i64 0]) (by simp [results, Try.results39, go_sem, resV]) rfl ?_
        refine ⟨_, rfl, hasInts_keep HV.out ?_, ?_, Or.inl rfl⟩
        all_goals repeat (first | with_reducible exact Below.refl _ _ | with_reducible refine Below.drew ?_ | with_reducible refine Below.setCell ?_ (by first | omega | (simp; omega) | simp) _ | with_reducible refine Below.alloc ?_ (by first | omega | (simp; omega) | simp) _))
    · rw [show doR k c o n b zs = zs.getD c.toNat 0 by unfold doR; rw [if_pos hck], show doOk k c o n b zs = appOk k c o zs by unfold doOk; rw [if_pos hck],
        show doZ k c o n b zs = appZ k c o n zs by unfold doZ; rw [if_pos hck]]
      rw [hck]
      have HV := Lib.hid hv0
      have k1' : (k == 1) = false := by simp [k1]
      have HP : Hid (∀ (B g cap : Nat) (w : World), w.ownsRow B 3 1 (.slice (some ⟨g, 0, none⟩) zs.length cap) zs.length (zs.map (Value.int .i64)) → B ≤ w.heap.size → Calls Try.prog 56 #[.slice (some ⟨g, 0, none⟩) zs.length cap, acc k c o n b] w fun e w' =>
          e = .returned (resV (zs.getD c.toNat 0) (appOk k c o zs)) ∧ w'.ownsRow B 3 1 (.slice (some ⟨g, 0, none⟩) zs.length cap) zs.length ((appZ k c o n zs).map (Value.int .i64)) ∧ Below B w w' ∧ w.grownBy w' (some g)) :=
        Lib.hid (fun B g cap w hown hB => apply_any B g cap zs k c o n b w hown hk h0 h1 hB)
      have hpos : 0 < zs.length := by omega
      unfold acc resV at HP
      unfold acc at HQ
      unfold acc resV
      clear hr he hck hk h0 h1 hright hc hv0 k1
      obtain ⟨L, hL⟩ : ∃ L, L = zs.length := ⟨_, rfl⟩
      rw [← hL] at HQ HP hlen hpos ⊢
      have HL := Lib.hid hL
      clear hL hl
      go_enter Try.func39, Try.ntmps39
      go_wp2_with (first
        | (go_at_call 55; refine (HQ.out _).mono ?_; rintro e w' ⟨rfl, cs, cs', rfl⟩))
      refine (own_any _ zs _ (hasInts_keep (by rw [HL.out]; exact HV.out) ?_) (by rw [← HL.out]; exact hlen)).mono ?_
      · repeat (first | with_reducible exact Below.refl _ _ | with_reducible refine Below.alloc ?_ (by first | omega | (simp; omega) | simp) _)
      rintro e w2 ⟨u, rfl, hown, hb2⟩
      rw [← HL.out] at hown
      obtain ⟨g, cap', rfl⟩ : ∃ g cap', u = .slice (some ⟨g, 0, none⟩) L cap' := by
        obtain ⟨_, ⟨_, h0⟩ | ⟨g, cap', cur, rfl, _⟩⟩ := hown
        · omega
        · exact ⟨g, cap', rfl⟩
      obtain ⟨hc2, hf2⟩ := bcell hb2
      have HO := Lib.hid hown
      have HB2 := Lib.hid hb2
      have hz2 := hb2.size
      simp at hz2
      clear hown hb2
      go_wp2_with fail
      refine (HP.out _ g cap' _ HO.out (by simp; omega)).mono ?_
      rintro e w3 ⟨rfl, hown3, hb3, _⟩
      obtain ⟨hc3, hf3⟩ := bcellB hb3
      have hz3 := hb3.size
      have HO3 := Lib.hid hown3
      have HB3 := Lib.hid hb3
      clear hown3 hb3
      have p0 : w3.cell? ⟨w.heap.size + 1 + 1, 0, none⟩ = some (.slice none 0 0) := by
        rw [hc3 _ _ (by simp), hc2 _ _ (by simp)]; simp [World.cell?_alloc_past, World.cell?_alloc_at]
      have p1 : w3.cell? ⟨w.heap.size + 1 + 1 + 1, 0, none⟩ = some (.int .i64 0) := by
        rw [hc3 _ _ (by simp), hc2 _ _ (by simp)]; simp [World.cell?_alloc_past, World.cell?_alloc_at]
      have p2 : w3.cell? ⟨w.heap.size + 1 + 1 + 1, 1, none⟩ = some (.bool false) := by
        rw [hc3 _ _ (by simp), hc2 _ _ (by simp)]; simp [World.cell?_alloc_past, World.cell?_alloc_at]
      have f0 : w3.frozen? ⟨w.heap.size + 1 + 1, 0, none⟩ = false := by
        rw [hf3 _ _ (by simp), hf2 _ _ (by simp)]; simp [World.frozen?_alloc_past, World.frozen?_alloc_at]
      have f1 : w3.frozen? ⟨w.heap.size + 1 + 1 + 1, 0, none⟩ = false := by
        rw [hf3 _ _ (by simp), hf2 _ _ (by simp)]; simp [World.frozen?_alloc_past, World.frozen?_alloc_at]
      have f2 : w3.frozen? ⟨w.heap.size + 1 + 1 + 1, 1, none⟩ = false := by
        rw [hf3 _ _ (by simp), hf2 _ _ (by simp)]; simp [World.frozen?_alloc_past, World.frozen?_alloc_at]
      have q0 := fun ob => cell_alloc ob p0
      have q1 := fun ob => cell_alloc ob p1
      have q2 := fun ob => cell_alloc ob p2
      have g0 := fun ob => frozen_alloc ob (by omega) f0
      have g1 := fun ob => frozen_alloc ob (by omega) f1
      have g2 := fun ob => frozen_alloc ob (by omega) f2
      clear hc2 hf2 hc3 hf3 p0 p1 p2 f0 f1 f2
      obtain ⟨x, hx⟩ : ∃ x, x = zs.getD c.toNat 0 := ⟨_, rfl⟩
      rw [← hx]
      have HX := Lib.hid hx
      clear hx
      go_wp2_with fail
      go_region
      all_goals (
        go_wp2
        refine bodyPost_ret (v := .tuple #[.agg #[.slice (some ⟨g, 0, none⟩) L cap'], .agg #[.int .i64 x, .bool (appOk k c o zs)], .int .i64 0]) (by simp [results, Try.results39, go_sem, q0, q1, q2]) rfl ?_
        have hO := HO3.out
        have hlt := (hO.lt g rfl).1
        simp at hlt
        have hlen' : (appZ k c o n zs).length = L := by rw [appZ_length, HL.out]
        have hb0 : Below w.heap.size w w3 := by
          refine ((?_ : Below w.heap.size w _).trans (HB2.out.mono (by simp; omega))).trans (HB3.out.mono (by simp; omega))
          repeat (first | with_reducible exact Below.refl _ _ | with_reducible refine Below.alloc ?_ (by first | omega | (simp; omega) | simp) _)
        refine (fun (X : Below _ _ _ ∧ World.ownsRow _ w.heap.size 3 1 (.slice (some ⟨g, 0, none⟩) L cap') (appZ k c o n zs).length ((appZ k c o n zs).map (Value.int .i64))) => ⟨.slice (some ⟨g, 0, none⟩) L cap', by rw [HX.out], hasInts_of_owns X.2, X.1, Or.inr X.2⟩) ⟨?_, ?_⟩
        · repeat (first | with_reducible exact hb0 | with_reducible refine Below.drew ?_ | with_reducible refine Below.setCell ?_ (by first | omega | (simp; omega) | simp) _ | with_reducible refine Below.alloc ?_ (by first | omega | (simp; omega) | simp) _)
        · rw [hlen']
          repeat (first | with_reducible refine World.ownsRow.drew ?_ | with_reducible refine owns_setCell_other ?_ (by simp [Value.ownBlock]; omega) _ | with_reducible refine World.ownsRow.alloc ?_ _)
          exact owns_mono hO (by simp; omega))
  · have hck : chk zs.length k c o n b ≠ 0 := by rw [← hr]; exact he
    have HQ : Hid (∀ w, Calls Try.prog 55 #[.int .i64 zs.length, acc k c o n b] w fun e w' => e = .returned (.int .i64 r) ∧ ∃ cs cs', w' = (w.alloc (.cells cs 32)).alloc (.cells cs' 32)) := Lib.hid (fun w => by
      have := check_any zs.length k c o n b w; rwa [← hr] at this)
    rw [show doR k c o n b zs = 0 by unfold doR; rw [if_neg hck], show doOk k c o n b zs = false by unfold doOk; rw [if_neg hck],
      show doZ k c o n b zs = zs by unfold doZ; rw [if_neg hck], ← hr]
    have hr' : (r != 0) = true := by simp [he]
    have HV := Lib.hid hv0
    unfold acc at HQ ⊢
    unfold resV
    clear hr he hck hc hv0
    obtain ⟨L, hL⟩ : ∃ L, L = zs.length := ⟨_, rfl⟩
    rw [← hL] at HQ ⊢
    have HL := Lib.hid hL
    clear hL hl hlen
    go_enter Try.func39, Try.ntmps39
    go_wp2_with (first
      | (go_at_call 55; refine (HQ.out _).mono ?_; rintro e w' ⟨rfl, cs, cs', rfl⟩))
    refine bodyPost_ret (v := .tuple #[.agg #[.slice a L cap], .agg #[.int .i64 0, .bool false], .int .i64 r]) (by simp [results, Try.results39, go_sem]) rfl ?_
    refine ⟨_, rfl, hasInts_keep (by rw [HL.out]; exact HV.out) ?_, ?_, Or.inl rfl⟩
    all_goals repeat (first | with_reducible exact Below.refl _ _ | with_reducible refine Below.setCell ?_ (by first | omega | (simp; omega) | simp) _ | with_reducible refine Below.alloc ?_ (by first | omega | (simp; omega) | simp) _)



end Go.Proofs.Ytaclnaedinfhmaa
