/- LayoutPartitions: for every valid configuration, every cell from 0 to Size-1 belongs to exactly one variable. No condition. -/
import Derived.Test.YtimjodpndhckdaaRows
import Derived.Test.YtimjodpndhckdaaAux
import Derived.Test.YtimjodpndhckdaaLayS
import Derived.Test.YtimjodpndhckdaaLayO
import Derived.Test.YtimjodpndhckdaaLayH
import Derived.Test.YtimjodpndhckdaaLayP
import Derived.Outline
import Derived.Deep.RegionHeld3
import Derived.Deep.DeepCutAuto
import Derived.WalkKit
import Derived.ProofKit
import Derived.OpenShut
import Derived.Lib.Hide
import Derived.Carry
namespace Go.Proofs.Ytimjodpndhckdaa.layoutPartitions
open Go.ChangeShapes Go.WideShapes Go.ChangeAt Go.RowKit
set_option linter.unusedVariables false

set_option maxHeartbeats 8000000 in
set_option maxRecDepth 100000 in
theorem walk_no (w : World) (c : Cf) (hc : ¬c.ok) : Calls Try.prog 9 #[c.v] w fun e w' => e = .returned (.bool true) ∧ Below w.heap.size w w' := by
  have HR := Lib.hid (fun w => rof_f c w hc)
  clear hc
  unfold lay0 Ly.v at HR
  unfold Cf.v at HR ⊢
  go_enter Try.func9, Try.ntmps9
  go_wp2_with fail
  ((with_reducible refine (sane15_any _).mono ?_); rintro e w1 ⟨rfl, hb⟩)
  have HW := Lib.hid (below_alloc1 hb)
  have zz : w.heap.size + 1 ≤ w1.heap.size := by have := hb.size; (try simp at this); omega
  have ccq0 : w1.cell? ⟨w.heap.size, 0, none⟩ = some (.int .i64 c.t) := cel_below hb (by rw [World.cell?_alloc_at _ _ _ _ (by simp)]; rfl)
  have ccq1 : w1.cell? ⟨w.heap.size, 1, none⟩ = some (.int .i64 c.l) := cel_below hb (by rw [World.cell?_alloc_at _ _ _ _ (by simp)]; rfl)
  have ccq2 : w1.cell? ⟨w.heap.size, 2, none⟩ = some (.int .i64 c.k) := cel_below hb (by rw [World.cell?_alloc_at _ _ _ _ (by simp)]; rfl)
  have ccq3 : w1.cell? ⟨w.heap.size, 3, none⟩ = some (.int .i64 c.s) := cel_below hb (by rw [World.cell?_alloc_at _ _ _ _ (by simp)]; rfl)
  have ccq4 : w1.cell? ⟨w.heap.size, 4, none⟩ = some (.int .i64 c.m) := cel_below hb (by rw [World.cell?_alloc_at _ _ _ _ (by simp)]; rfl)
  have z0 : w.heap.size < w1.heap.size := by omega
  clear hb zz
  go_wp2_with fail
  ((with_reducible refine (HR.out _).mono ?_); rintro e w2 ⟨rfl, hb⟩)
  replace HW := Lib.hid (below_step HW.out (hb))
  have zz : w1.heap.size + 0 ≤ w2.heap.size := by have := hb.size; (try simp at this); omega
  replace z0 : w.heap.size < w2.heap.size := by omega
  clear hb zz
  go_wp2
  go_ret
  exact ⟨rfl, below_step HW.out (below_new1 _ _)⟩
set_option maxHeartbeats 8000000 in
set_option maxRecDepth 100000 in
theorem walk_yes (w : World) (c : Cf) (hc : c.ok) : Calls Try.prog 9 #[c.v] w fun e w' => e = .returned (.bool true) ∧ Below w.heap.size w w' := by
  obtain ⟨i0, hi, hz0, hz1, hz2⟩ := info_parts info_int
  have hx := hc
  obtain ⟨⟨h1, h2⟩, ⟨h3, h4⟩, ⟨h5, h6⟩, ⟨h7, h8⟩, ⟨h9, h10⟩⟩ := hx
  obtain ⟨t, ht⟩ : ∃ x : Nat, c.t = x := ⟨c.t.toNat, by omega⟩
  obtain ⟨q, hq⟩ : ∃ x : Nat, c.k = x := ⟨c.k.toNat, by omega⟩
  obtain ⟨l, hl⟩ : ∃ x : Nat, c.l = x := ⟨c.l.toNat, by omega⟩
  obtain ⟨lo, hlo⟩ : ∃ x : Nat, x = 4 + 4 * t := ⟨_, rfl⟩
  obtain ⟨lc, hlc⟩ : ∃ x : Nat, x = lo + q := ⟨_, rfl⟩
  obtain ⟨sz, hsz⟩ : ∃ x : Nat, x = lc + 4 * l := ⟨_, rfl⟩
  have HR : Hid (∀ w, Calls Try.prog 26 #[c.v] w fun e w' => e = .returned (.tuple #[.agg #[.int .i64 c.t, .int .i64 c.l, .int .i64 c.k, .int .i64 c.s, .int .i64 c.m, .int .i64 0, .int .i64 1, .int .i64 2, .int .i64 3, .int .i64 4, .int .i64 ((lo : Nat) : Int), .int .i64 ((lc : Nat) : Int), .int .i64 ((sz : Nat) : Int)], .int .i64 0]) ∧ Below w.heap.size w w') := Lib.hid (fun w => by
    have := rof_t c w hc
    unfold layOf Ly.v at this
    simp only at this
    rw [show 4 + 4 * c.t + c.k + 4 * c.l = ((sz : Nat) : Int) by omega, show 4 + 4 * c.t + c.k = ((lc : Nat) : Int) by omega, show 4 + 4 * c.t = ((lo : Nat) : Int) by omega] at this
    exact this)
  obtain ⟨L, hL⟩ : ∃ L : Ly, L = ⟨c, 0, 1, 2, 3, 4, (lo : Nat), (lc : Nat), (sz : Nat)⟩ := ⟨_, rfl⟩
  have hlok : L.ok := by rw [hL]; unfold Ly.ok; simp only; omega
  have HP : Hid (∀ (n : Nat) w, Calls Try.prog 29 #[.agg #[.int .i64 c.t, .int .i64 c.l, .int .i64 c.k, .int .i64 c.s, .int .i64 c.m, .int .i64 0, .int .i64 1, .int .i64 2, .int .i64 3, .int .i64 4, .int .i64 ((lo : Nat) : Int), .int .i64 ((lc : Nat) : Int), .int .i64 ((sz : Nat) : Int)], .int .i64 n] w fun e w' => ∃ g, e = .returned (.slice (some ⟨g, 0, none⟩) 9 9) ∧ w.heap.size ≤ g ∧ HasInts w' (.slice (some ⟨g, 0, none⟩) 9 9) (placesL L n) ∧ Below w.heap.size w w') := Lib.hid (fun n w => by
    have h := placesF_any L n w hlok
    rw [show L.v = .agg #[.int .i64 c.t, .int .i64 c.l, .int .i64 c.k, .int .i64 c.s, .int .i64 c.m, .int .i64 0, .int .i64 1, .int .i64 2, .int .i64 3, .int .i64 4, .int .i64 ((lo : Nat) : Int), .int .i64 ((lc : Nat) : Int), .int .i64 ((sz : Nat) : Int)] by rw [hL]; rfl] at h
    exact h)
  have HC : Hid (∀ n k : Nat, k < 9 → ((placesL L n).getD k 0 = -1 ∧ covL lo lc sz n (k + 1) = covL lo lc sz n k) ∨ (∃ j : Nat, (placesL L n).getD k 0 = (j : Nat) ∧ j < sz ∧ (covL lo lc sz n k)[j]? = some 0 ∧ covL lo lc sz n (k + 1) = (covL lo lc sz n k).set j 1)) := Lib.hid (fun n k hk => by
    rw [hL]; exact cov_place c t q l lo lc sz n k ht hq hl hlo hlc hsz hk)
  have HA : Hid (∀ i, i < sz → (covL lo lc sz 40 0)[i]? = some 1) := Lib.hid (fun i hi => cov_all t q l lo lc sz hlo hlc hsz (by omega) (by omega) (by omega) i hi)
  have hs4 : 4 ≤ sz := by omega
  have hs5 : sz ≤ 1000 := by omega
  have HST := Lib.hid (cov_start lo lc sz hs4 (by omega) (by omega))
  have hs6 : (4 : Int) ≤ sz := by omega
  have HPL : Hid (∀ n : Nat, (placesL L n).length = 9) := Lib.hid (fun n => rfl)
  clear hc h1 h2 h3 h4 h5 h6 h7 h8 h9 h10 ht hq hl hlo hlc hsz hL hlok
  unfold Cf.v at HR ⊢
  go_enter Try.func9, Try.ntmps9
  go_wp2_with fail
  ((with_reducible refine (sane15_any _).mono ?_); rintro e w1 ⟨rfl, hb⟩)
  have HW := Lib.hid (below_alloc1 hb)
  have zz : w.heap.size + 1 ≤ w1.heap.size := by have := hb.size; (try simp at this); omega
  have ccq0 : w1.cell? ⟨w.heap.size, 0, none⟩ = some (.int .i64 c.t) := cel_below hb (by rw [World.cell?_alloc_at _ _ _ _ (by simp)]; rfl)
  have ccq1 : w1.cell? ⟨w.heap.size, 1, none⟩ = some (.int .i64 c.l) := cel_below hb (by rw [World.cell?_alloc_at _ _ _ _ (by simp)]; rfl)
  have ccq2 : w1.cell? ⟨w.heap.size, 2, none⟩ = some (.int .i64 c.k) := cel_below hb (by rw [World.cell?_alloc_at _ _ _ _ (by simp)]; rfl)
  have ccq3 : w1.cell? ⟨w.heap.size, 3, none⟩ = some (.int .i64 c.s) := cel_below hb (by rw [World.cell?_alloc_at _ _ _ _ (by simp)]; rfl)
  have ccq4 : w1.cell? ⟨w.heap.size, 4, none⟩ = some (.int .i64 c.m) := cel_below hb (by rw [World.cell?_alloc_at _ _ _ _ (by simp)]; rfl)
  have z0 : w.heap.size < w1.heap.size := by omega
  clear hb zz
  go_wp2_with fail
  ((with_reducible refine (HR.out _).mono ?_); rintro e w2 ⟨rfl, hb⟩)
  replace HW := Lib.hid (below_step HW.out (hb))
  have zz : w1.heap.size + 0 ≤ w2.heap.size := by have := hb.size; (try simp at this); omega
  replace z0 : w.heap.size < w2.heap.size := by omega
  clear hb zz
  go_upto_region 5 with fail
  obtain ⟨wr3, hwr⟩ : ∃ W, W = w2.alloc (.cells #[.int .i64 c.t, .int .i64 c.l, .int .i64 c.k, .int .i64 c.s, .int .i64 c.m, .int .i64 0, .int .i64 1, .int .i64 2, .int .i64 3, .int .i64 4, .int .i64 (lo : Nat), .int .i64 (lc : Nat), .int .i64 (sz : Nat)] 53) := ⟨_, rfl⟩
  rw [← hwr]
  have hb : Below w2.heap.size w2 wr3 := by rw [hwr]; exact (Below.alloc (Below.refl _ w2) (by first | exact Nat.le_refl _ | (simp; omega) | simp) _)
  have zz : w2.heap.size + 1 ≤ wr3.heap.size := by rw [hwr]; simp
  replace HW := Lib.hid (below_step HW.out hb)
  replace z0 : w.heap.size < wr3.heap.size := by omega
  have lqq0 : wr3.cell? ⟨w2.heap.size, 0, none⟩ = some (.int .i64 c.t) := by rw [hwr]; exact by rw [World.cell?_alloc_at _ _ _ _ (by simp)]; rfl
  have lqq1 : wr3.cell? ⟨w2.heap.size, 1, none⟩ = some (.int .i64 c.l) := by rw [hwr]; exact by rw [World.cell?_alloc_at _ _ _ _ (by simp)]; rfl
  have lqq2 : wr3.cell? ⟨w2.heap.size, 2, none⟩ = some (.int .i64 c.k) := by rw [hwr]; exact by rw [World.cell?_alloc_at _ _ _ _ (by simp)]; rfl
  have lqq3 : wr3.cell? ⟨w2.heap.size, 3, none⟩ = some (.int .i64 c.s) := by rw [hwr]; exact by rw [World.cell?_alloc_at _ _ _ _ (by simp)]; rfl
  have lqq4 : wr3.cell? ⟨w2.heap.size, 4, none⟩ = some (.int .i64 c.m) := by rw [hwr]; exact by rw [World.cell?_alloc_at _ _ _ _ (by simp)]; rfl
  have lqq5 : wr3.cell? ⟨w2.heap.size, 5, none⟩ = some (.int .i64 0) := by rw [hwr]; exact by rw [World.cell?_alloc_at _ _ _ _ (by simp)]; rfl
  have lqq6 : wr3.cell? ⟨w2.heap.size, 6, none⟩ = some (.int .i64 1) := by rw [hwr]; exact by rw [World.cell?_alloc_at _ _ _ _ (by simp)]; rfl
  have lqq7 : wr3.cell? ⟨w2.heap.size, 7, none⟩ = some (.int .i64 2) := by rw [hwr]; exact by rw [World.cell?_alloc_at _ _ _ _ (by simp)]; rfl
  have lqq8 : wr3.cell? ⟨w2.heap.size, 8, none⟩ = some (.int .i64 3) := by rw [hwr]; exact by rw [World.cell?_alloc_at _ _ _ _ (by simp)]; rfl
  have lqq9 : wr3.cell? ⟨w2.heap.size, 9, none⟩ = some (.int .i64 4) := by rw [hwr]; exact by rw [World.cell?_alloc_at _ _ _ _ (by simp)]; rfl
  have lqq10 : wr3.cell? ⟨w2.heap.size, 10, none⟩ = some (.int .i64 (lo : Nat)) := by rw [hwr]; exact by rw [World.cell?_alloc_at _ _ _ _ (by simp)]; rfl
  have lqq11 : wr3.cell? ⟨w2.heap.size, 11, none⟩ = some (.int .i64 (lc : Nat)) := by rw [hwr]; exact by rw [World.cell?_alloc_at _ _ _ _ (by simp)]; rfl
  have lqq12 : wr3.cell? ⟨w2.heap.size, 12, none⟩ = some (.int .i64 (sz : Nat)) := by rw [hwr]; exact by rw [World.cell?_alloc_at _ _ _ _ (by simp)]; rfl
  have z1 : w2.heap.size < wr3.heap.size := by omega
  clear hb zz hwr
  go_wp2_with (first | (at_make; refine wpList_make_full _ rfl _ _ 22 rfl w.heap.size 3 i0 (.int .i64 0) 1 Try.underlying22 hi hz0 hz1 _ _ _ _ sz rfl rfl rfl rfl ?_ ?_ ?_ ?_))
  · rw [hz2]; omega
  · unfold maxLen; omega
  · exact HW.out.size
  intro w5 hown hgr
  obtain ⟨B, hB⟩ : ∃ B, B = wr3.heap.size := ⟨_, rfl⟩
  have HB := Lib.hid hB
  rw [← hB] at hown ⊢
  have HwB : Hid (w.heap.size ≤ B) := Lib.hid (by rw [hB]; exact HW.out.size)
  have hb := gb_below hgr
  have hown0 : w5.ownsRow w.heap.size 3 1 (.slice (some ⟨B, 0, none⟩) sz sz) sz ((List.replicate sz (0 : Int)).map (Value.int .i64)) := by
    have h := hown
    rw [madeZeros] at h
    exact h
  replace HW := Lib.hid (below_step HW.out hb)
  have HOW0 := Lib.hid hown0
  replace lqq0 := cel_below hb lqq0
  replace lqq1 := cel_below hb lqq1
  replace lqq2 := cel_below hb lqq2
  replace lqq3 := cel_below hb lqq3
  replace lqq4 := cel_below hb lqq4
  replace lqq5 := cel_below hb lqq5
  replace lqq6 := cel_below hb lqq6
  replace lqq7 := cel_below hb lqq7
  replace lqq8 := cel_below hb lqq8
  replace lqq9 := cel_below hb lqq9
  replace lqq10 := cel_below hb lqq10
  replace lqq11 := cel_below hb lqq11
  replace lqq12 := cel_below hb lqq12
  have hlB : w2.heap.size < B := by rw [hB]; exact z1
  have HB5 : Hid (Below B w5 w5) := Lib.hid (Below.refl _ _)
  have hBw : B < w5.heap.size := (hown0.lt B (by simp [Value.ownBlock])).2
  clear hb hown hown0 hgr hB z1 z0
  have r0c : w5.cell? ⟨B, 0, none⟩ = some (.int .i64 0) := by
    rw [HOW0.out.cellAt 0 (by omega)]
    have : 0 < sz := by omega
    simp [this]
  have r0f : w5.frozen? ⟨B, 0, none⟩ = false := HOW0.out.frozenAt 0
  have r0i : ((0 : Nat) : Int) < sz := by omega
  have r0n : 0 < sz := by omega
  go_upto_region 7 with fail
  obtain ⟨wh0, hw⟩ : ∃ W, W = w5.setCell ⟨B, 0, none⟩ (.int .i64 1) := ⟨_, rfl⟩
  rw [← hw]
  have HOW1 : Hid (wh0.ownsRow w.heap.size 3 1 (.slice (some ⟨B, 0, none⟩) sz sz) sz (((List.replicate sz (0 : Int)).set 0 1).map (Value.int .i64))) := Lib.hid (by rw [hw, List.map_set]; exact (HOW0.out.stored 0 _).1)
  replace HB5 : Hid (Below B w5 wh0) := Lib.hid (by rw [hw]; exact HB5.out.setCell (p := ⟨B, 0, none⟩) (Nat.le_refl B) _)
  replace lqq0 : wh0.cell? ⟨w2.heap.size, 0, none⟩ = some (.int .i64 c.t) := by rw [hw]; exact keepA_ lqq0 (Or.inl (by omega))
  replace lqq1 : wh0.cell? ⟨w2.heap.size, 1, none⟩ = some (.int .i64 c.l) := by rw [hw]; exact keepA_ lqq1 (Or.inl (by omega))
  replace lqq2 : wh0.cell? ⟨w2.heap.size, 2, none⟩ = some (.int .i64 c.k) := by rw [hw]; exact keepA_ lqq2 (Or.inl (by omega))
  replace lqq3 : wh0.cell? ⟨w2.heap.size, 3, none⟩ = some (.int .i64 c.s) := by rw [hw]; exact keepA_ lqq3 (Or.inl (by omega))
  replace lqq4 : wh0.cell? ⟨w2.heap.size, 4, none⟩ = some (.int .i64 c.m) := by rw [hw]; exact keepA_ lqq4 (Or.inl (by omega))
  replace lqq5 : wh0.cell? ⟨w2.heap.size, 5, none⟩ = some (.int .i64 0) := by rw [hw]; exact keepA_ lqq5 (Or.inl (by omega))
  replace lqq6 : wh0.cell? ⟨w2.heap.size, 6, none⟩ = some (.int .i64 1) := by rw [hw]; exact keepA_ lqq6 (Or.inl (by omega))
  replace lqq7 : wh0.cell? ⟨w2.heap.size, 7, none⟩ = some (.int .i64 2) := by rw [hw]; exact keepA_ lqq7 (Or.inl (by omega))
  replace lqq8 : wh0.cell? ⟨w2.heap.size, 8, none⟩ = some (.int .i64 3) := by rw [hw]; exact keepA_ lqq8 (Or.inl (by omega))
  replace lqq9 : wh0.cell? ⟨w2.heap.size, 9, none⟩ = some (.int .i64 4) := by rw [hw]; exact keepA_ lqq9 (Or.inl (by omega))
  replace lqq10 : wh0.cell? ⟨w2.heap.size, 10, none⟩ = some (.int .i64 (lo : Nat)) := by rw [hw]; exact keepA_ lqq10 (Or.inl (by omega))
  replace lqq11 : wh0.cell? ⟨w2.heap.size, 11, none⟩ = some (.int .i64 (lc : Nat)) := by rw [hw]; exact keepA_ lqq11 (Or.inl (by omega))
  replace lqq12 : wh0.cell? ⟨w2.heap.size, 12, none⟩ = some (.int .i64 (sz : Nat)) := by rw [hw]; exact keepA_ lqq12 (Or.inl (by omega))
  clear hw r0c r0f r0i r0n HOW0
  have r1c : wh0.cell? ⟨B, 1, none⟩ = some (.int .i64 0) := by
    rw [HOW1.out.cellAt 1 (by omega)]
    have : 1 < sz := by omega
    simp [this]
  have r1f : wh0.frozen? ⟨B, 1, none⟩ = false := HOW1.out.frozenAt 1
  have r1i : ((1 : Nat) : Int) < sz := by omega
  have r1n : 1 < sz := by omega
  go_upto_region 8 with fail
  obtain ⟨wh1, hw⟩ : ∃ W, W = wh0.setCell ⟨B, 1, none⟩ (.int .i64 1) := ⟨_, rfl⟩
  rw [← hw]
  have HOW2 : Hid (wh1.ownsRow w.heap.size 3 1 (.slice (some ⟨B, 0, none⟩) sz sz) sz ((((List.replicate sz (0 : Int)).set 0 1).set 1 1).map (Value.int .i64))) := Lib.hid (by rw [hw, List.map_set]; exact (HOW1.out.stored 1 _).1)
  replace HB5 : Hid (Below B w5 wh1) := Lib.hid (by rw [hw]; exact HB5.out.setCell (p := ⟨B, 1, none⟩) (Nat.le_refl B) _)
  replace lqq0 : wh1.cell? ⟨w2.heap.size, 0, none⟩ = some (.int .i64 c.t) := by rw [hw]; exact keepA_ lqq0 (Or.inl (by omega))
  replace lqq1 : wh1.cell? ⟨w2.heap.size, 1, none⟩ = some (.int .i64 c.l) := by rw [hw]; exact keepA_ lqq1 (Or.inl (by omega))
  replace lqq2 : wh1.cell? ⟨w2.heap.size, 2, none⟩ = some (.int .i64 c.k) := by rw [hw]; exact keepA_ lqq2 (Or.inl (by omega))
  replace lqq3 : wh1.cell? ⟨w2.heap.size, 3, none⟩ = some (.int .i64 c.s) := by rw [hw]; exact keepA_ lqq3 (Or.inl (by omega))
  replace lqq4 : wh1.cell? ⟨w2.heap.size, 4, none⟩ = some (.int .i64 c.m) := by rw [hw]; exact keepA_ lqq4 (Or.inl (by omega))
  replace lqq5 : wh1.cell? ⟨w2.heap.size, 5, none⟩ = some (.int .i64 0) := by rw [hw]; exact keepA_ lqq5 (Or.inl (by omega))
  replace lqq6 : wh1.cell? ⟨w2.heap.size, 6, none⟩ = some (.int .i64 1) := by rw [hw]; exact keepA_ lqq6 (Or.inl (by omega))
  replace lqq7 : wh1.cell? ⟨w2.heap.size, 7, none⟩ = some (.int .i64 2) := by rw [hw]; exact keepA_ lqq7 (Or.inl (by omega))
  replace lqq8 : wh1.cell? ⟨w2.heap.size, 8, none⟩ = some (.int .i64 3) := by rw [hw]; exact keepA_ lqq8 (Or.inl (by omega))
  replace lqq9 : wh1.cell? ⟨w2.heap.size, 9, none⟩ = some (.int .i64 4) := by rw [hw]; exact keepA_ lqq9 (Or.inl (by omega))
  replace lqq10 : wh1.cell? ⟨w2.heap.size, 10, none⟩ = some (.int .i64 (lo : Nat)) := by rw [hw]; exact keepA_ lqq10 (Or.inl (by omega))
  replace lqq11 : wh1.cell? ⟨w2.heap.size, 11, none⟩ = some (.int .i64 (lc : Nat)) := by rw [hw]; exact keepA_ lqq11 (Or.inl (by omega))
  replace lqq12 : wh1.cell? ⟨w2.heap.size, 12, none⟩ = some (.int .i64 (sz : Nat)) := by rw [hw]; exact keepA_ lqq12 (Or.inl (by omega))
  clear hw r1c r1f r1i r1n HOW1
  have r2c : wh1.cell? ⟨B, 2, none⟩ = some (.int .i64 0) := by
    rw [HOW2.out.cellAt 2 (by omega)]
    have : 2 < sz := by omega
    simp [this]
  have r2f : wh1.frozen? ⟨B, 2, none⟩ = false := HOW2.out.frozenAt 2
  have r2i : ((2 : Nat) : Int) < sz := by omega
  have r2n : 2 < sz := by omega
  go_upto_region 9 with fail
  obtain ⟨wh2, hw⟩ : ∃ W, W = wh1.setCell ⟨B, 2, none⟩ (.int .i64 1) := ⟨_, rfl⟩
  rw [← hw]
  have HOW3 : Hid (wh2.ownsRow w.heap.size 3 1 (.slice (some ⟨B, 0, none⟩) sz sz) sz (((((List.replicate sz (0 : Int)).set 0 1).set 1 1).set 2 1).map (Value.int .i64))) := Lib.hid (by rw [hw, List.map_set]; exact (HOW2.out.stored 2 _).1)
  replace HB5 : Hid (Below B w5 wh2) := Lib.hid (by rw [hw]; exact HB5.out.setCell (p := ⟨B, 2, none⟩) (Nat.le_refl B) _)
  replace lqq0 : wh2.cell? ⟨w2.heap.size, 0, none⟩ = some (.int .i64 c.t) := by rw [hw]; exact keepA_ lqq0 (Or.inl (by omega))
  replace lqq1 : wh2.cell? ⟨w2.heap.size, 1, none⟩ = some (.int .i64 c.l) := by rw [hw]; exact keepA_ lqq1 (Or.inl (by omega))
  replace lqq2 : wh2.cell? ⟨w2.heap.size, 2, none⟩ = some (.int .i64 c.k) := by rw [hw]; exact keepA_ lqq2 (Or.inl (by omega))
  replace lqq3 : wh2.cell? ⟨w2.heap.size, 3, none⟩ = some (.int .i64 c.s) := by rw [hw]; exact keepA_ lqq3 (Or.inl (by omega))
  replace lqq4 : wh2.cell? ⟨w2.heap.size, 4, none⟩ = some (.int .i64 c.m) := by rw [hw]; exact keepA_ lqq4 (Or.inl (by omega))
  replace lqq5 : wh2.cell? ⟨w2.heap.size, 5, none⟩ = some (.int .i64 0) := by rw [hw]; exact keepA_ lqq5 (Or.inl (by omega))
  replace lqq6 : wh2.cell? ⟨w2.heap.size, 6, none⟩ = some (.int .i64 1) := by rw [hw]; exact keepA_ lqq6 (Or.inl (by omega))
  replace lqq7 : wh2.cell? ⟨w2.heap.size, 7, none⟩ = some (.int .i64 2) := by rw [hw]; exact keepA_ lqq7 (Or.inl (by omega))
  replace lqq8 : wh2.cell? ⟨w2.heap.size, 8, none⟩ = some (.int .i64 3) := by rw [hw]; exact keepA_ lqq8 (Or.inl (by omega))
  replace lqq9 : wh2.cell? ⟨w2.heap.size, 9, none⟩ = some (.int .i64 4) := by rw [hw]; exact keepA_ lqq9 (Or.inl (by omega))
  replace lqq10 : wh2.cell? ⟨w2.heap.size, 10, none⟩ = some (.int .i64 (lo : Nat)) := by rw [hw]; exact keepA_ lqq10 (Or.inl (by omega))
  replace lqq11 : wh2.cell? ⟨w2.heap.size, 11, none⟩ = some (.int .i64 (lc : Nat)) := by rw [hw]; exact keepA_ lqq11 (Or.inl (by omega))
  replace lqq12 : wh2.cell? ⟨w2.heap.size, 12, none⟩ = some (.int .i64 (sz : Nat)) := by rw [hw]; exact keepA_ lqq12 (Or.inl (by omega))
  clear hw r2c r2f r2i r2n HOW2
  have r3c : wh2.cell? ⟨B, 3, none⟩ = some (.int .i64 0) := by
    rw [HOW3.out.cellAt 3 (by omega)]
    have : 3 < sz := by omega
    simp [this]
  have r3f : wh2.frozen? ⟨B, 3, none⟩ = false := HOW3.out.frozenAt 3
  have r3i : ((3 : Nat) : Int) < sz := by omega
  have r3n : 3 < sz := by omega
  go_upto_region 10 with fail
  obtain ⟨wh3, hw⟩ : ∃ W, W = wh2.setCell ⟨B, 3, none⟩ (.int .i64 1) := ⟨_, rfl⟩
  rw [← hw]
  have HOW4 : Hid (wh3.ownsRow w.heap.size 3 1 (.slice (some ⟨B, 0, none⟩) sz sz) sz ((((((List.replicate sz (0 : Int)).set 0 1).set 1 1).set 2 1).set 3 1).map (Value.int .i64))) := Lib.hid (by rw [hw, List.map_set]; exact (HOW3.out.stored 3 _).1)
  replace HB5 : Hid (Below B w5 wh3) := Lib.hid (by rw [hw]; exact HB5.out.setCell (p := ⟨B, 3, none⟩) (Nat.le_refl B) _)
  replace lqq0 : wh3.cell? ⟨w2.heap.size, 0, none⟩ = some (.int .i64 c.t) := by rw [hw]; exact keepA_ lqq0 (Or.inl (by omega))
  replace lqq1 : wh3.cell? ⟨w2.heap.size, 1, none⟩ = some (.int .i64 c.l) := by rw [hw]; exact keepA_ lqq1 (Or.inl (by omega))
  replace lqq2 : wh3.cell? ⟨w2.heap.size, 2, none⟩ = some (.int .i64 c.k) := by rw [hw]; exact keepA_ lqq2 (Or.inl (by omega))
  replace lqq3 : wh3.cell? ⟨w2.heap.size, 3, none⟩ = some (.int .i64 c.s) := by rw [hw]; exact keepA_ lqq3 (Or.inl (by omega))
  replace lqq4 : wh3.cell? ⟨w2.heap.size, 4, none⟩ = some (.int .i64 c.m) := by rw [hw]; exact keepA_ lqq4 (Or.inl (by omega))
  replace lqq5 : wh3.cell? ⟨w2.heap.size, 5, none⟩ = some (.int .i64 0) := by rw [hw]; exact keepA_ lqq5 (Or.inl (by omega))
  replace lqq6 : wh3.cell? ⟨w2.heap.size, 6, none⟩ = some (.int .i64 1) := by rw [hw]; exact keepA_ lqq6 (Or.inl (by omega))
  replace lqq7 : wh3.cell? ⟨w2.heap.size, 7, none⟩ = some (.int .i64 2) := by rw [hw]; exact keepA_ lqq7 (Or.inl (by omega))
  replace lqq8 : wh3.cell? ⟨w2.heap.size, 8, none⟩ = some (.int .i64 3) := by rw [hw]; exact keepA_ lqq8 (Or.inl (by omega))
  replace lqq9 : wh3.cell? ⟨w2.heap.size, 9, none⟩ = some (.int .i64 4) := by rw [hw]; exact keepA_ lqq9 (Or.inl (by omega))
  replace lqq10 : wh3.cell? ⟨w2.heap.size, 10, none⟩ = some (.int .i64 (lo : Nat)) := by rw [hw]; exact keepA_ lqq10 (Or.inl (by omega))
  replace lqq11 : wh3.cell? ⟨w2.heap.size, 11, none⟩ = some (.int .i64 (lc : Nat)) := by rw [hw]; exact keepA_ lqq11 (Or.inl (by omega))
  replace lqq12 : wh3.cell? ⟨w2.heap.size, 12, none⟩ = some (.int .i64 (sz : Nat)) := by rw [hw]; exact keepA_ lqq12 (Or.inl (by omega))
  clear hw r3c r3f r3i r3n HOW3
  have HOWs : Hid (wh3.ownsRow w.heap.size 3 1 (.slice (some ⟨B, 0, none⟩) sz sz) sz ((covL lo lc sz 0 0).map (Value.int .i64))) := Lib.hid (by rw [HST.out]; exact HOW4.out)
  clear HOW4
  go_wp2_with fail
  go_loopw [7] (fun i wr => ∃ n m : Nat, n ≤ 40 ∧ i = .int .i64 n ∧ wr.ownsRow w.heap.size 3 1 (.slice (some ⟨B, 0, none⟩) sz sz) sz ((covL lo lc sz n 0).map (Value.int .i64)) ∧ Below B w5 wr) (fun i _ => 40 - (intOf i).toNat)
  case atStart => exact ⟨0, 0, by omega, rfl, HOWs.out, HB5.out⟩
  case round =>
    obtain ⟨n, _, hn, rfl, hor, hbr⟩ := hrel
    have HOR := Lib.hid hor
    have HBR := Lib.hid hbr
    have HWo := Lib.hid (HW.out.trans (hbr.mono HwB.out))
    have rlqq0 : wr.cell? ⟨w2.heap.size, 0, none⟩ = some (.int .i64 c.t) := (hbr.cell (p := ⟨w2.heap.size, 0, none⟩) hlB).trans ((HB5.out.cell (p := ⟨w2.heap.size, 0, none⟩) hlB).symm.trans lqq0)
    have rlqq1 : wr.cell? ⟨w2.heap.size, 1, none⟩ = some (.int .i64 c.l) := (hbr.cell (p := ⟨w2.heap.size, 1, none⟩) hlB).trans ((HB5.out.cell (p := ⟨w2.heap.size, 1, none⟩) hlB).symm.trans lqq1)
    have rlqq2 : wr.cell? ⟨w2.heap.size, 2, none⟩ = some (.int .i64 c.k) := (hbr.cell (p := ⟨w2.heap.size, 2, none⟩) hlB).trans ((HB5.out.cell (p := ⟨w2.heap.size, 2, none⟩) hlB).symm.trans lqq2)
    have rlqq3 : wr.cell? ⟨w2.heap.size, 3, none⟩ = some (.int .i64 c.s) := (hbr.cell (p := ⟨w2.heap.size, 3, none⟩) hlB).trans ((HB5.out.cell (p := ⟨w2.heap.size, 3, none⟩) hlB).symm.trans lqq3)
    have rlqq4 : wr.cell? ⟨w2.heap.size, 4, none⟩ = some (.int .i64 c.m) := (hbr.cell (p := ⟨w2.heap.size, 4, none⟩) hlB).trans ((HB5.out.cell (p := ⟨w2.heap.size, 4, none⟩) hlB).symm.trans lqq4)
    have rlqq5 : wr.cell? ⟨w2.heap.size, 5, none⟩ = some (.int .i64 0) := (hbr.cell (p := ⟨w2.heap.size, 5, none⟩) hlB).trans ((HB5.out.cell (p := ⟨w2.heap.size, 5, none⟩) hlB).symm.trans lqq5)
    have rlqq6 : wr.cell? ⟨w2.heap.size, 6, none⟩ = some (.int .i64 1) := (hbr.cell (p := ⟨w2.heap.size, 6, none⟩) hlB).trans ((HB5.out.cell (p := ⟨w2.heap.size, 6, none⟩) hlB).symm.trans lqq6)
    have rlqq7 : wr.cell? ⟨w2.heap.size, 7, none⟩ = some (.int .i64 2) := (hbr.cell (p := ⟨w2.heap.size, 7, none⟩) hlB).trans ((HB5.out.cell (p := ⟨w2.heap.size, 7, none⟩) hlB).symm.trans lqq7)
    have rlqq8 : wr.cell? ⟨w2.heap.size, 8, none⟩ = some (.int .i64 3) := (hbr.cell (p := ⟨w2.heap.size, 8, none⟩) hlB).trans ((HB5.out.cell (p := ⟨w2.heap.size, 8, none⟩) hlB).symm.trans lqq8)
    have rlqq9 : wr.cell? ⟨w2.heap.size, 9, none⟩ = some (.int .i64 4) := (hbr.cell (p := ⟨w2.heap.size, 9, none⟩) hlB).trans ((HB5.out.cell (p := ⟨w2.heap.size, 9, none⟩) hlB).symm.trans lqq9)
    have rlqq10 : wr.cell? ⟨w2.heap.size, 10, none⟩ = some (.int .i64 (lo : Nat)) := (hbr.cell (p := ⟨w2.heap.size, 10, none⟩) hlB).trans ((HB5.out.cell (p := ⟨w2.heap.size, 10, none⟩) hlB).symm.trans lqq10)
    have rlqq11 : wr.cell? ⟨w2.heap.size, 11, none⟩ = some (.int .i64 (lc : Nat)) := (hbr.cell (p := ⟨w2.heap.size, 11, none⟩) hlB).trans ((HB5.out.cell (p := ⟨w2.heap.size, 11, none⟩) hlB).symm.trans lqq11)
    have rlqq12 : wr.cell? ⟨w2.heap.size, 12, none⟩ = some (.int .i64 (sz : Nat)) := (hbr.cell (p := ⟨w2.heap.size, 12, none⟩) hlB).trans ((HB5.out.cell (p := ⟨w2.heap.size, 12, none⟩) hlB).symm.trans lqq12)
    clear hor hbr
    by_cases hlt : n < 40
    · have hlt2 : (n : Int) < 40 := by omega
      go_wp2_with fail
      ((with_reducible refine (HP.out n _).mono ?_); rintro e wp ⟨pb, rfl, hpg, hp, hb⟩)
      have HPw := Lib.hid hp
      have hpB : B < pb := by have := HBR.out.size; omega
      clear hpg
      have HBp := Lib.hid hb
      have HO1 := Lib.hid (owns_below HOR.out hb)
      have hBr : B ≤ wr.heap.size := by have := HBR.out.size; omega
      have HB1 := Lib.hid (HBR.out.trans (hb.mono hBr))
      have HBs : Hid (B ≤ wr.heap.size) := Lib.hid hBr
      clear hp hb hBr
      go_wp2_with fail
      obtain ⟨wo, rfl⟩ : ∃ wo : World, wo = wr := ⟨_, rfl⟩
      go_loopw [9] (fun i wr => ∃ k : Nat, k ≤ 9 ∧ i = .int .i64 k ∧ wr.ownsRow w.heap.size 3 1 (.slice (some ⟨B, 0, none⟩) sz sz) sz ((covL lo lc sz n k).map (Value.int .i64)) ∧ HasInts wr (.slice (some ⟨pb, 0, none⟩) 9 9) (placesL L n) ∧ Below B w5 wr) (fun i _ => 9 - (intOf i).toNat)
      case atStart => exact ⟨0, by omega, rfl, HO1.out, HPw.out, HB1.out⟩
      case round =>
        obtain ⟨k, hk, rfl, hor2, hin, hbr2⟩ := hrel
        have HOR2 := Lib.hid hor2
        have HBR2 := Lib.hid hbr2
        have HIN := Lib.hid hin
        have zz12 : wr.cell? ⟨w2.heap.size, 12, none⟩ = some (.int .i64 ((sz : Nat) : Int)) := (hbr2.cell (p := ⟨w2.heap.size, 12, none⟩) hlB).trans ((HBR.out.cell (p := ⟨w2.heap.size, 12, none⟩) hlB).symm.trans rlqq12)
        clear hor2 hin hbr2
        by_cases hk9 : k < 9
        · have hk2 : (k : Int) < 9 := by omega
          have hpc : wr.cell? ⟨pb, k, none⟩ = some (.int .i64 ((placesL L n).getD k 0)) := by
            obtain ⟨a', c', he, _, h⟩ := HIN.out
            simp only [Value.slice.injEq] at he
            obtain ⟨rfl, _, _⟩ := he
            rcases h with h | ⟨b, o, he2, h⟩
            · rw [HPL.out] at h; omega
            · simp at he2
              obtain ⟨rfl, rfl⟩ := he2
              have := h k (by rw [HPL.out]; omega)
              rwa [Nat.zero_add] at this
          rcases HC.out n k hk9 with ⟨hv, hnx⟩ | ⟨j, hv, hj, h0, hnx⟩
          · rw [hv] at hpc
            have HNX := Lib.hid hnx
            have d1 : decide ((sz : Int) ≤ -1) = false := by simp; omega
            clear hv hnx
            go_wp2
            go_quiet (fail)
            go_wp2
            go_roundw
            case rel => exact ⟨k + 1, by omega, by go_num, by rw [HNX.out]; exact owns_below HOR2.out (below_drews (Below.refl _ _) nq), hasInts_drewN HIN.out nq, below_drewN HBR2.out nq⟩
            case measure => simp [intOf]; omega
          · rw [hv] at hpc
            have HNX : Hid ((covL lo lc sz n (k + 1)).map (Value.int .i64) = ((covL lo lc sz n k).map (Value.int .i64)).set j (.int .i64 1)) := Lib.hid (by rw [hnx, List.map_set])
            have hj2 : (j : Int) < sz := by omega
            have d1 : decide ((j : Int) < -1) = false := by (try simp); (try omega)
            have d2 : decide ((sz : Int) ≤ j) = false := by simp; omega
            have hjc : wr.cell? ⟨B, j, none⟩ = some (.int .i64 0) := by
              rw [HOR2.out.cellAt j (by omega), List.getElem?_map, h0]; rfl
            have hjf : wr.frozen? ⟨B, j, none⟩ = false := HOR2.out.frozenAt j
            have HIN3 : Hid (HasInts (wr.setCell ⟨B, j, none⟩ (.int .i64 1)) (.slice (some ⟨pb, 0, none⟩) 9 9) (placesL L n)) := Lib.hid (by
              obtain ⟨a', c', he, hl9, h⟩ := HIN.out
              refine ⟨a', c', he, hl9, ?_⟩
              rcases h with h | ⟨b, o, he2, h⟩
              · exact Or.inl h
              · refine Or.inr ⟨b, o, he2, fun i hi => keepA_ (h i hi) (Or.inl ?_)⟩
                simp only [Value.slice.injEq] at he
                rw [he2] at he
                simp at he
                omega)
            have HO3 := Lib.hid (HOR2.out.stored j (.int .i64 1)).1
            clear hv hnx h0
            go_wp2
            go_quiet (fail)
            go_wp2
            go_roundw
            case rel => exact ⟨k + 1, by omega, by go_num, by rw [HNX.out]; exact owns_below HO3.out (below_drews (Below.refl _ _) nq), hasInts_drewN HIN3.out nq, below_drewN (HBR2.out.setCell (p := ⟨B, j, none⟩) (Nat.le_refl B) _) nq⟩
            case measure => simp [intOf]; omega
        · obtain rfl : k = 9 := by omega
          have hor3 : wr.ownsRow w.heap.size 3 1 (.slice (some ⟨B, 0, none⟩) sz sz) sz ((covL lo lc sz (n + 1) 0).map (Value.int .i64)) := by rw [← cov_next]; exact HOR2.out
          go_wp2
          go_roundw
          case rel => exact ⟨n + 1, 0, by omega, by go_num, hor3, HBR2.out⟩
          case measure => simp [intOf]; omega
    · obtain rfl : n = 40 := by omega
      go_wp2
      go_loop [10] (fun i => ∃ k : Nat, k ≤ sz ∧ i = .int .i64 k) (fun i => sz - (intOf i).toNat)
      case atStart => exact ⟨0, Nat.zero_le _, rfl⟩
      case round =>
        obtain ⟨k, hk, rfl⟩ := hrel
        by_cases hk2 : k < sz
        · have hk3 : (k : Int) < sz := by omega
          have hkc : wr.cell? ⟨B, k, none⟩ = some (.int .i64 1) := by
            rw [HOR.out.cellAt k (by omega), List.getElem?_map, HA.out k hk2]; rfl
          go_wp2
          go_round
          case rel => exact ⟨k + 1, by omega, by go_num⟩
          case measure => simp [intOf]; omega
        · obtain rfl : k = sz := by omega
          go_wp2
          go_ret
          exact ⟨rfl, HWo.out⟩

theorem walk (w : World) (c : Cf) (i1 : I64 c.t) (i2 : I64 c.l) (i3 : I64 c.k) (i4 : I64 c.s) (i5 : I64 c.m) :
    Calls Try.prog 9 #[c.v] w fun e w' => e = .returned (.bool true) ∧ Below w.heap.size w w' := by
  by_cases hc : c.ok
  · exact walk_yes w c hc
  · exact walk_no w c hc

theorem own : ownKnob Try.prog.godebug = none := by kernel_rfl
theorem laidOut : laidOutB Try.prog = true := by kernel_rfl

set_option maxRecDepth 100000 in
theorem lifted (os : Os) (started : os.Started) (H : Type) (enc : TypeId × Value → H) :
    ReturnsInHanded {} Try.checked os 9 .any (Rows.layoutPartitionsSpec.pre6 enc Try.prog Try.f9 Rows.layoutPartitionsRow.domain false) (Rows.layoutPartitionsSpec.post enc Try.prog Try.f9 false true false false) := by
  refine returnsInHanded_of_change (C := Try.checked) own started (by kernel_rfl) Try.func9
    (ChangeSpec.witness6 (enc := enc) (C := Try.checked) false ⟨#[], #[.agg #[.int .i64 0, .int .i64 0, .int .i64 0, .int .i64 0, .int .i64 0]], []⟩ 8 (by kernel_rfl) (by kernel_rfl) (by kernel_rfl) (by kernel_rfl)) ?_
  intro W base args ds gs before hval0 hW hcnd _
  have hval : ∀ (j : Nat) t v, Try.f9.params[j]? = some t → args[j]? = some v → Value.okWide Try.prog W .any base t v := hval0
  have hW' := hW
  obtain ⟨p, q, hA0, hV, rfl, hfz, hnd⟩ := hW
  have hA : DataW.TrodAll enc Try.prog W 0 (fun _ => true) true Try.f9.params.toList args.toList ds p := hA0
  rw [Try.params9] at hA hval
  obtain ⟨v0, vs0, d0, ds0, p0, q0, hargs, rfl, rfl, h0, r0⟩ := trodAll_cons hA
  obtain ⟨rfl, rfl, rfl⟩ := trodAll_nil r0
  obtain rfl : args = #[v0] := by cases args; simp_all
  obtain ⟨rfl, rfl⟩ := trodVars_none hV
  clear hA0 hval0
  simp only [List.append_nil] at hW'
  have lt0 : ∀ x ∈ p0, x.block < W.heap.size := fun x hx => hW'.lt x (by simp [hx])
  have back0 : ∀ W', Below W.heap.size W W' → DataW.Trod enc Try.prog W' 0 (fun b => decide (b < W.heap.size)) true 51 v0 d0 p0 := fun W' hb => Below.trod laidOut (by kernel_rfl) (of_decide_eq_true (by kernel_rfl)) h0 hb lt0
  obtain ⟨cf0, rfl, ia0, ib0, ic0, id0, ie0⟩ := open_conf (hval 0 51 v0 rfl rfl) h0
  refine (walk W cf0 ia0 ib0 ic0 id0 ie0).mono fun e W' ⟨he, hg⟩ => ?_
  subst he
  exact ⟨_, rfl, _, _, _, [], _, [], hW', (trodAll_cons_mk (shut_bool Try.underlying4 _) trodAll_mk0), (trodAll_cons_mk (back0 _ hg) trodAll_mk0), rfl, hg.frame _, fun h => by cases h⟩

theorem over : Rows.layoutPartitionsRow.holds Try.pinned (OpenSpec.ofChange Rows.layoutPartitionsSpec) :=
  OpenClaim.holds_of_wide 9 Try.f9 rfl rfl rfl rfl rfl rfl rfl ⟨rfl, rfl, rfl, rfl, rfl⟩ rfl rfl rfl rfl rfl (by kernel_rfl) Try.func9 (by kernel_rfl)
    (of_decide_eq_true (by kernel_rfl)) (by unfold Func.isWrapper; first | (rw [if_pos (by decide +kernel)]; kernel_rfl) | (rw [if_neg (by decide +kernel)]; exact ⟨rfl, rfl⟩))
    (fun os started H enc _ => lifted os started H enc)

/-- The given statement. -/
theorem proved : Rows.LayoutPartitionsSaid :=
  over
#print axioms proved
end Go.Proofs.Ytimjodpndhckdaa.layoutPartitions
