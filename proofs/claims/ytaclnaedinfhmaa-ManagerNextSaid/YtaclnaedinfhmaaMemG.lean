
/-
  Layer 2: a list of accesses, by the program.
-/
import Derived.Test.YtaclnaedinfhmaaRows
import Derived.Test.YtaclnaedinfhmaaBase
import Derived.Test.YtaclnaedinfhmaaMemA
import Derived.Test.YtaclnaedinfhmaaMemB
import Derived.Test.YtaclnaedinfhmaaMemE
import Derived.Test.YtaclnaedinfhmaaMemF
namespace Go.Proofs.Ytaclnaedinfhmaa
open Go.ChangeShapes Go.WideShapes Go.ChangeAt Go.RowKit

theorem res_cell {w : World} {r : Int} {q : Bool} {T : TypeId} (j : Nat) (u : Value) (hj : [Value.int .i64 r, Value.bool q][j]? = some u) : (w.alloc (.cells #[.int .i64 r, .bool q] T)).cell? ((⟨w.heap.size, 0, none⟩ : Addr).add j) = some u := by
  match j, hj with
  | 0, hj => simp at hj; subst hj; simp [Addr.add, World.cell?_alloc_at]
  | 1, hj => simp at hj; subst hj; simp [Addr.add, World.cell?_alloc_at]

/-- What stands behind a list of accesses of a memory. -/
def allZ (zs : List Int) (l : List AccD) : List Int := if errOf zs.length l = 0 then stZ zs l else zs
def allR (zs : List Int) (l : List AccD) : List (Int × Bool) := if errOf zs.length l = 0 then stR zs l else []

set_option maxHeartbeats 4000000 in
set_option maxRecDepth 100000 in
theorem all_any (v x : Value) (zs : List Int) (l : List AccD) (w : World) (hv : HasInts w v zs) (hx : HasAccs w x l) (hlen : zs.length ≤ 17592186044416) (hll : l.length ≤ 1099511627776) :
    Calls Try.prog 27 #[.agg #[v], x] w fun e w' =>
    ∃ u r, e = .returned (.tuple #[.agg #[u], r, .int .i64 (errOf zs.length l)]) ∧ HasInts w' u (allZ zs l) ∧ HasRes w' r (allR zs l) ∧ Below w.heap.size w w' := by
  obtain ⟨i0, hi, hz0, hz1, hz2⟩ := info_parts info_res
  have HV := Lib.hid hv
  obtain ⟨a, cap, rfl, _, _⟩ := hv
  obtain ⟨ax, capx, rfl, _, hxc⟩ := hx
  have HXC := Lib.hid hxc
  clear hxc
  obtain ⟨L, hL⟩ : ∃ L, L = zs.length := ⟨_, rfl⟩
  obtain ⟨M, hM⟩ : ∃ M, M = l.length := ⟨_, rfl⟩
  rw [← hL] at hlen HV
  rw [← hM] at hll HXC ⊢
  have HL := Lib.hid hL
  have HM := Lib.hid hM
  clear hL hM
  go_enter Try.func27, Try.ntmps27
  go_wp2_with (first
    | (go_at_call 54; refine (own_any _ zs _ (hasInts_keep (by rw [← HL.out]; exact HV.out) (by repeat (first | with_reducible exact Below.refl _ _ | with_reducible refine Below.alloc ?_ (by first | omega | (simp; omega) | simp) _))) (by rw [← HL.out]; omega)).mono ?_; rintro e w2 ⟨u, rfl, hown, hb2⟩))
  rw [← HL.out] at hown hb2 ⊢
  obtain ⟨au, cu, rfl⟩ := owns_slice hown
  obtain ⟨hc2, hf2⟩ := bcell hb2
  have HW2 : Hid (Below w.heap.size w w2) := Lib.hid (by
    refine (?_ : Below w.heap.size w _).trans (hb2.mono (by simp; omega))
    repeat (first | with_reducible exact Below.refl _ _ | with_reducible refine Below.alloc ?_ (by first | omega | (simp; omega) | simp) _))
  have c0 : Hid (w2.cell? ⟨w.heap.size, 0, none⟩ = some (.slice a L cap)) := Lib.hid (by
    rw [hc2 _ _ (by simp; omega)]; simp [World.cell?_alloc_past, World.cell?_alloc_at])
  have c1 : Hid (w2.cell? ⟨w.heap.size + 1, 0, none⟩ = some (.slice none 0 0)) := Lib.hid (by
    rw [hc2 _ _ (by simp)]; simp [World.cell?_alloc_at])
  have f1 : Hid (w2.frozen? ⟨w.heap.size + 1, 0, none⟩ = false) := Lib.hid (by
    rw [hf2 _ _ (by simp)]; simp [World.frozen?_alloc_at])
  obtain ⟨B, hB⟩ : ∃ B, B = w.heap.size + 1 + 1 := ⟨_, rfl⟩
  have HO : Hid (w2.ownsRow B 3 1 (.slice au L cu) L (zs.map (Value.int .i64))) := Lib.hid (by rw [hB]; exact owns_mono hown (by simp))
  have hBw : B ≤ w2.heap.size := by have := hb2.size; simp at this; omega
  have HB := Lib.hid hB
  clear hc2 hf2 hown hb2 hB
  go_loopw [8, 16] (fun v i wr => ∃ k : Nat, k ≤ M ∧ i = .int .i64 k ∧ wr.ownsRow B 3 1 (.slice au L cu) L ((stZ zs (l.take k)).map (Value.int .i64)) ∧ wr.ownsRow B 85 2 v k (resCells (stR zs (l.take k))) ∧ Below B w2 wr ∧ Hid (errOf L (l.take k) = 0)) (fun _ i _ => M - (intOf i).toNat)
  case atStart => exact ⟨0, Nat.zero_le _, rfl, by simpa [stZ] using HO.out, World.ownsRow_nil _ _ _ _, Below.refl _ _, Lib.hid (by simp [errOf])⟩
  case round =>
    obtain ⟨k, hk, rfl, hoz, hor, hbr, herr⟩ := hrel
    have hBr : B ≤ wr.heap.size := by have := hbr.size; omega
    have HWr : Hid (Below w.heap.size w wr) := Lib.hid (HW2.out.trans (hbr.mono (by have := HB.out; omega)))
    have p0 : wr.cell? ⟨w.heap.size, 0, none⟩ = some (.slice a L cap) := (hbr.cell (p := ⟨w.heap.size, 0, none⟩) (by have := HB.out; show w.heap.size < B; omega)).trans c0.out
    have p1 : wr.cell? ⟨w.heap.size + 1, 0, none⟩ = some (.slice none 0 0) := (hbr.cell (p := ⟨w.heap.size + 1, 0, none⟩) (by have := HB.out; show w.heap.size + 1 < B; omega)).trans c1.out
    have g1 : wr.frozen? ⟨w.heap.size + 1, 0, none⟩ = false := (hbr.frozen (p := ⟨w.heap.size + 1, 0, none⟩) (by have := HB.out; show w.heap.size + 1 < B; omega)).trans f1.out
    have hwl : w.heap.size + 1 < wr.heap.size := by have := HB.out; omega
    have p0x := fun o1 o2 o3 => cell_alloc o3 (cell_alloc o2 (cell_alloc o1 p0))
    have p1x := fun o1 o2 o3 => cell_alloc o3 (cell_alloc o2 (cell_alloc o1 p1))
    have g1x := fun o1 o2 o3 => frozen_alloc (w := (wr.alloc o1).alloc o2) o3 (by simp; omega) (frozen_alloc (w := wr.alloc o1) o2 (by simp; omega) (frozen_alloc (w := wr) o1 (by omega) g1))
    by_cases hlt : k < M
    · rcases HXC.out with hx | ⟨bx, ox, rfl, hx⟩
      · omega
      obtain ⟨A, hA⟩ : ∃ A, A = l.getD k noAcc := ⟨_, rfl⟩
      obtain ⟨x1, x2, x3, x4, x5⟩ := hx k hlt
      rw [← hA] at x1 x2 x3 x4 x5
      have y1 := cell_below HWr.out x1
      have y2 := cell_below HWr.out x2
      have y3 := cell_below HWr.out x3
      have y4 := cell_below HWr.out x4
      have y5 := cell_below HWr.out x5
      have HA := Lib.hid hA
      clear hx hA x1 x2 x3 x4 x5
      obtain ⟨ak, ac, ao, an, ab⟩ := A
      simp only at y1 y2 y3 y4 y5
      obtain ⟨r, hr⟩ : ∃ r, r = chk L ak ac ao an ab := ⟨_, rfl⟩
      have HQ : Hid (∀ w, Calls Try.prog 55 #[.int .i64 L, .agg #[.int .i64 ak, .int .i64 ac, .int .i64 ao, .int .i64 an, .string ab]] w fun e w' => e = .returned (.int .i64 r) ∧ ∃ cs cs', w' = (w.alloc (.cells cs 32)).alloc (.cells cs' 32)) := Lib.hid (fun w => by
        have := check_any L ak ac ao an ab w; rwa [← hr] at this)
      have HR := Lib.hid hr
      clear hr
      by_cases he : r = 0
      · subst he
        obtain ⟨hk4, h0, h1, _⟩ := chk_zero HR.out.symm
        obtain ⟨g, rfl⟩ : ∃ g, au = some ⟨g, 0, none⟩ := by
          obtain ⟨_, ⟨_, h⟩ | ⟨g, cap', cur, h, _⟩⟩ := hoz
          · omega
          · simp only [Value.slice.injEq] at h
            exact ⟨g, h.1⟩
        obtain ⟨Z, hZ⟩ : ∃ Z, Z = stZ zs (l.take k) := ⟨_, rfl⟩
        have hZl : Z.length = L := by rw [hZ, stZ_length, HL.out]
        have HZ1 : Hid (stZ zs (l.take (k + 1)) = appZ ak ac ao an Z) := Lib.hid (by
          rw [take_acc (by rw [← HM.out]; exact hlt), stZ_snoc, ← HA.out, hZ]; rfl)
        have HR1 : Hid (stR zs (l.take (k + 1)) = stR zs (l.take k) ++ [(Z.getD ac.toNat 0, appOk ak ac ao Z)]) := Lib.hid (by
          rw [take_acc (by rw [← HM.out]; exact hlt), stR_snoc, ← HA.out, hZ]; rfl)
        have HE1 : Hid (errOf L (l.take (k + 1)) = 0) := Lib.hid (by
          rw [take_acc (by rw [← HM.out]; exact hlt), errOf_snoc, if_pos herr.out, ← HA.out]; exact HR.out.symm)
        have HP : Hid (∀ w, w.ownsRow B 3 1 (.slice (some ⟨g, 0, none⟩) L cu) L (Z.map (Value.int .i64)) → B ≤ w.heap.size → Calls Try.prog 56 #[.slice (some ⟨g, 0, none⟩) L cu, .agg #[.int .i64 ak, .int .i64 ac, .int .i64 ao, .int .i64 an, .string ab]] w fun e w' =>
            e = .returned (.agg #[.int .i64 (Z.getD ac.toNat 0), .bool (appOk ak ac ao Z)]) ∧ w'.ownsRow B 3 1 (.slice (some ⟨g, 0, none⟩) L cu) L ((appZ ak ac ao an Z).map (Value.int .i64)) ∧ Below B w w' ∧ w.grownBy w' (some g)) := Lib.hid (fun w hw hB => by
          have := apply_any B g cu Z ak ac ao an ab w (by rw [hZl]; exact hw) hk4 h0 (by rw [hZl]; exact h1) hB
          rw [hZl] at this
          exact this)
        obtain ⟨rv, hrv⟩ : ∃ rv, rv = Z.getD ac.toNat 0 := ⟨_, rfl⟩
        obtain ⟨rq, hrq⟩ : ∃ rq, rq = appOk ak ac ao Z := ⟨_, rfl⟩
        rw [← hrv, ← hrq] at HP HR1
        rw [← hZ] at hoz
        have HOZ := Lib.hid hoz
        have HOR := Lib.hid hor
        have HBR := Lib.hid hbr
        clear hrv hrq hZ hZl hk4 h0 h1 hoz hor hbr
        go_wp2_with (first
          | (go_at_call 55; refine (HQ.out _).mono ?_; rintro e w' ⟨rfl, cs, cs', rfl⟩))
        refine (HP.out _ (((HOZ.out.alloc _).alloc _).alloc _) (by simp; omega)).mono ?_
        rintro e w3 ⟨rfl, hoz3, hb3, hg3⟩
        have HOZ3 := Lib.hid hoz3
        have HOR3 := Lib.hid ((((HOR.out.alloc _).alloc _).alloc _).kept hg3 (owns_apart HOR.out HOZ.out (by decide)))
        have HB3 := Lib.hid (show Below B wr w3 from ((((Below.refl B wr).alloc hBr _).alloc (by simp; omega) _).alloc (by simp; omega) _).trans hb3)
        have hs3 := hb3.size
        simp at hs3
        clear hoz3 hb3 hg3
        go_wp2_with (first
          | (at_builtin; refine wpList_append_own _ rfl _ _ 29 rfl B 85 i0 (.agg #[.int .i64 0, .bool false]) 2 16 Try.underlying29 hi hz0 hz1 hz2 rfl (by decide) _ _ _ rfl (HOR3.out.alloc _) ⟨w3.heap.size, 0, none⟩ 1 1 [.int .i64 rv, .bool rq] rfl rfl (fun j u hj => res_cell j u hj) (by intro u hu; simp at hu; rcases hu with rfl | rfl <;> rfl) (by unfold maxLen; omega) (by omega) (by simp; omega) ?_; intro v' w4 hown' hgrow' _))
        have hoz4 : w4.ownsRow B 3 1 (.slice (some ⟨g, 0, none⟩) L cu) L ((stZ zs (l.take (k + 1))).map (Value.int .i64)) := by
          rw [HZ1.out]; exact (HOZ3.out.alloc _).kept hgrow' (owns_apart HOZ.out HOR.out (by decide))
        have hor4 : w4.ownsRow B 85 2 v' (k + 1) (resCells (stR zs (l.take (k + 1)))) := by
          rw [HR1.out, resCells_append]; exact hown'
        have hbl4 : Below B w2 w4 := HBR.out.trans ((HB3.out.alloc (by omega) _).grown hgrow' (by simp; omega) (fun j hj => (HOR.out.lt j hj).1))
        clear hown' hgrow'
        go_roundw
        case rel => exact ⟨k + 1, by omega, by go_num, hoz4, hor4, hbl4, HE1⟩
        case measure => simp [intOf]; omega
      · have he' : (r != 0) = true := by simp [he]
        have HE : Hid (errOf L l = r) := Lib.hid (by
          rw [HR.out]
          have h1 := errOf_at (size := L) (l := l) (k := k) (by rw [← HM.out]; exact hlt) herr.out (by rw [← HA.out]; show chk L ak ac ao an ab ≠ 0; rw [← HR.out]; exact he)
          rw [h1, ← HA.out]; rfl)
        clear he
        go_wp2_with (first
          | (go_at_call 55; refine (HQ.out _).mono ?_; rintro e w' ⟨rfl, cs, cs', rfl⟩))
        refine bodyPost_ret (v := .tuple #[.agg #[.slice a L cap], .slice none 0 0, .int .i64 r]) (by simp [results, Try.results27, go_sem, p1x]) rfl ?_
        refine ⟨_, _, by rw [← HL.out, HE.out], ?_, ?_, ?_⟩
        · rw [show allZ zs l = zs by unfold allZ; rw [← HL.out, HE.out, if_neg (by intro hc; subst hc; simp at he')]]
          rw [HL.out]
          refine hasInts_keep (by rw [← HL.out]; exact HV.out) ?_
          exact (((HWr.out.alloc (by have := HWr.out.size; omega) _).alloc (by have := HWr.out.size; simp; omega) _).alloc (by have := HWr.out.size; simp; omega) _).setCell (by simp) _
        · rw [show allR zs l = [] by unfold allR; rw [← HL.out, HE.out, if_neg (by intro hc; subst hc; simp at he')]]
          exact ⟨none, 0, rfl, by simp, Or.inl rfl⟩
        · exact (((HWr.out.alloc (by have := HWr.out.size; omega) _).alloc (by have := HWr.out.size; simp; omega) _).alloc (by have := HWr.out.size; simp; omega) _).setCell (by simp) _
    · obtain rfl : k = M := by omega
      have htk : l.take k = l := by rw [HM.out]; exact List.take_length
      rw [htk] at hoz hor herr
      go_wp2
      refine bodyPost_ret (v := .tuple #[.agg #[.slice au L cu], u8, .int .i64 0]) (by simp [results, Try.results27, go_sem, p1]) rfl ?_
      have hz1 : allZ zs l = stZ zs l := by unfold allZ; rw [← HL.out, if_pos herr.out]
      have hr1 : allR zs l = stR zs l := by unfold allR; rw [← HL.out, if_pos herr.out]
      have hnb : ∀ (v : Value) (e s n : Nat) (xs : List Value), wr.ownsRow B e s v n xs → v.ownBlock ≠ some (w.heap.size + 1) := fun v e s n xs h hc => by
        have := (h.lt _ hc).1; have := HB.out; omega
      refine ⟨_, _, by rw [← HL.out, herr.out], ?_, ?_, HWr.out.setCell (by simp) _⟩
      · rw [hz1]
        refine hasInts_of_owns (B := B) ?_
        rw [stZ_length, ← HL.out]
        exact owns_setCell_other hoz (hnb _ _ _ _ _ hoz) _
      · rw [hr1]
        refine hasRes_of_owns (B := B) ?_
        rw [stR_length, ← HM.out]
        exact owns_setCell_other hor (hnb _ _ _ _ _ hor) _

end Go.Proofs.Ytaclnaedinfhmaa
