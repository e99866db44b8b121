
/-
  Layer 15: all cells of one index; the initial accesses by the reference; two comparisons.
-/
import Derived.Test.YtimjodpndhckdaaRows
import Derived.Test.YtimjodpndhckdaaBase
import Derived.Test.YtimjodpndhckdaaAux
import Derived.Test.YtimjodpndhckdaaMemA
import Derived.Test.YtimjodpndhckdaaMemB
import Derived.Test.YtimjodpndhckdaaMemE
import Derived.Test.YtimjodpndhckdaaMemF
import Derived.Test.YtimjodpndhckdaaLayA
import Derived.Test.YtimjodpndhckdaaLayE
import Derived.Outline
import Derived.Deep.RegionHeld3
namespace Go.Proofs.Ytimjodpndhckdaa
set_option maxRecDepth 20000
set_option linter.unusedVariables false
open Go.ChangeShapes Go.WideShapes Go.ChangeAt Go.RowKit

def placesL (l : Ly) (n : Int) : List Int := [atStatus l n, atStamp l n, atWake l n, atKarma l n, atLock l n, atWord l n, atVal l n, atReaders l n, atWaiters l n]
theorem hasInts_new15 {w : World} {cs : Array Value} {T : TypeId} {n g : Nat} (l : List Int) (hcs : cs = (l.map (Value.int .i64)).toArray) (hn : n = l.length) (hl : l.length ≤ 1000) (hg : g = w.heap.size) : HasInts (w.alloc (.cells cs T)) (.slice (some ⟨g, 0, none⟩) n n) l := by
  subst hcs; subst hn; subst hg
  refine ⟨_, _, rfl, by omega, Or.inr ⟨_, _, rfl, fun j hj => ?_⟩⟩
  rw [World.cell?_alloc_at _ _ _ _ rfl]
  simp [List.getD, List.getElem?_eq_getElem hj]

set_option maxHeartbeats 4000000 in
set_option maxRecDepth 100000 in
theorem placesF_any (l : Ly) (n : Int) (w : World) (hok : l.ok) : Calls Try.prog 29 #[l.v, .int .i64 n] w fun e w' => ∃ g, e = .returned (.slice (some ⟨g, 0, none⟩) 9 9) ∧ w.heap.size ≤ g ∧ HasInts w' (.slice (some ⟨g, 0, none⟩) 9 9) (placesL l n) ∧ Below w.heap.size w w' := by
  obtain ⟨P, hP⟩ : ∃ P, P = placesL l n := ⟨_, rfl⟩
  rw [← hP]
  obtain ⟨v0, e0⟩ : ∃ v, v = atStatus l n := ⟨_, rfl⟩
  obtain ⟨v1, e1⟩ : ∃ v, v = atStamp l n := ⟨_, rfl⟩
  obtain ⟨v2, e2⟩ : ∃ v, v = atWake l n := ⟨_, rfl⟩
  obtain ⟨v3, e3⟩ : ∃ v, v = atKarma l n := ⟨_, rfl⟩
  obtain ⟨v4, e4⟩ : ∃ v, v = atLock l n := ⟨_, rfl⟩
  obtain ⟨v5, e5⟩ : ∃ v, v = atWord l n := ⟨_, rfl⟩
  obtain ⟨v6, e6⟩ : ∃ v, v = atVal l n := ⟨_, rfl⟩
  obtain ⟨v7, e7⟩ : ∃ v, v = atReaders l n := ⟨_, rfl⟩
  obtain ⟨v8, e8⟩ : ∃ v, v = atWaiters l n := ⟨_, rfl⟩
  have H0 := Lib.hid (fun w => status_any l n w hok)
  rw [← e0] at H0
  have H1 := Lib.hid (fun w => stamp_any l n w hok)
  rw [← e1] at H1
  have H2 := Lib.hid (fun w => wake_any l n w hok)
  rw [← e2] at H2
  have H3 := Lib.hid (fun w => karma_any l n w hok)
  rw [← e3] at H3
  have H4 := Lib.hid (fun w => lock_any l n w hok)
  rw [← e4] at H4
  have H5 := Lib.hid (fun w => word_any l n w hok)
  rw [← e5] at H5
  have H6 := Lib.hid (fun w => val_any l n w hok)
  rw [← e6] at H6
  have H7 := Lib.hid (fun w => readers_any l n w hok)
  rw [← e7] at H7
  have H8 := Lib.hid (fun w => waiters_any l n w hok)
  rw [← e8] at H8
  have HP : Hid (P = [v0, v1, v2, v3, v4, v5, v6, v7, v8]) := Lib.hid (by rw [hP]; unfold placesL; rw [e0, e1, e2, e3, e4, e5, e6, e7, e8])
  clear hP hok e0 e1 e2 e3 e4 e5 e6 e7 e8
  unfold Ly.v at H0 H1 H2 H3 H4 H5 H6 H7 H8 ⊢
  go_enter Try.func29, Try.ntmps29
  have HW := Lib.hid (Below.refl w.heap.size w)
  go_wp2_with fail
  obtain ⟨wr1, hwr⟩ : ∃ W, W = w.alloc (.cells #[.int .i64 l.c.t, .int .i64 l.c.l, .int .i64 l.c.k, .int .i64 l.c.s, .int .i64 l.c.m, .int .i64 l.clock, .int .i64 l.stamps, .int .i64 l.log, .int .i64 l.fin, .int .i64 l.thread, .int .i64 l.lock, .int .i64 l.loc, .int .i64 l.size] 53) := ⟨_, rfl⟩
  rw [← hwr]
  have hb : Below w.heap.size w wr1 := by rw [hwr]; exact (Below.alloc (Below.refl _ w) (by first | exact Nat.le_refl _ | (simp; omega) | simp) _)
  have zz : w.heap.size + 1 ≤ wr1.heap.size := by rw [hwr]; simp
  replace HW := Lib.hid (below_step HW.out hb)
  have lq0 : wr1.cell? ⟨w.heap.size, 0, none⟩ = some (.int .i64 l.c.t) := by rw [hwr]; exact by rw [World.cell?_alloc_at _ _ _ _ (by simp)]; rfl
  have lq1 : wr1.cell? ⟨w.heap.size, 1, none⟩ = some (.int .i64 l.c.l) := by rw [hwr]; exact by rw [World.cell?_alloc_at _ _ _ _ (by simp)]; rfl
  have lq2 : wr1.cell? ⟨w.heap.size, 2, none⟩ = some (.int .i64 l.c.k) := by rw [hwr]; exact by rw [World.cell?_alloc_at _ _ _ _ (by simp)]; rfl
  have lq3 : wr1.cell? ⟨w.heap.size, 3, none⟩ = some (.int .i64 l.c.s) := by rw [hwr]; exact by rw [World.cell?_alloc_at _ _ _ _ (by simp)]; rfl
  have lq4 : wr1.cell? ⟨w.heap.size, 4, none⟩ = some (.int .i64 l.c.m) := by rw [hwr]; exact by rw [World.cell?_alloc_at _ _ _ _ (by simp)]; rfl
  have lq5 : wr1.cell? ⟨w.heap.size, 5, none⟩ = some (.int .i64 l.clock) := by rw [hwr]; exact by rw [World.cell?_alloc_at _ _ _ _ (by simp)]; rfl
  have lq6 : wr1.cell? ⟨w.heap.size, 6, none⟩ = some (.int .i64 l.stamps) := by rw [hwr]; exact by rw [World.cell?_alloc_at _ _ _ _ (by simp)]; rfl
  have lq7 : wr1.cell? ⟨w.heap.size, 7, none⟩ = some (.int .i64 l.log) := by rw [hwr]; exact by rw [World.cell?_alloc_at _ _ _ _ (by simp)]; rfl
  have lq8 : wr1.cell? ⟨w.heap.size, 8, none⟩ = some (.int .i64 l.fin) := by rw [hwr]; exact by rw [World.cell?_alloc_at _ _ _ _ (by simp)]; rfl
  have lq9 : wr1.cell? ⟨w.heap.size, 9, none⟩ = some (.int .i64 l.thread) := by rw [hwr]; exact by rw [World.cell?_alloc_at _ _ _ _ (by simp)]; rfl
  have lq10 : wr1.cell? ⟨w.heap.size, 10, none⟩ = some (.int .i64 l.lock) := by rw [hwr]; exact by rw [World.cell?_alloc_at _ _ _ _ (by simp)]; rfl
  have lq11 : wr1.cell? ⟨w.heap.size, 11, none⟩ = some (.int .i64 l.loc) := by rw [hwr]; exact by rw [World.cell?_alloc_at _ _ _ _ (by simp)]; rfl
  have lq12 : wr1.cell? ⟨w.heap.size, 12, none⟩ = some (.int .i64 l.size) := by rw [hwr]; exact by rw [World.cell?_alloc_at _ _ _ _ (by simp)]; rfl
  have z0 : w.heap.size < wr1.heap.size := by omega
  clear hb zz hwr
  refine wp_region_held_drew (S := fun W => W.cell? ⟨w.heap.size, 0, none⟩ = some (.int .i64 l.c.t) ∧ W.cell? ⟨w.heap.size, 1, none⟩ = some (.int .i64 l.c.l) ∧ W.cell? ⟨w.heap.size, 2, none⟩ = some (.int .i64 l.c.k) ∧ W.cell? ⟨w.heap.size, 3, none⟩ = some (.int .i64 l.c.s) ∧ W.cell? ⟨w.heap.size, 4, none⟩ = some (.int .i64 l.c.m) ∧ W.cell? ⟨w.heap.size, 5, none⟩ = some (.int .i64 l.clock) ∧ W.cell? ⟨w.heap.size, 6, none⟩ = some (.int .i64 l.stamps) ∧ W.cell? ⟨w.heap.size, 7, none⟩ = some (.int .i64 l.log) ∧ W.cell? ⟨w.heap.size, 8, none⟩ = some (.int .i64 l.fin) ∧ W.cell? ⟨w.heap.size, 9, none⟩ = some (.int .i64 l.thread) ∧ W.cell? ⟨w.heap.size, 10, none⟩ = some (.int .i64 l.lock) ∧ W.cell? ⟨w.heap.size, 11, none⟩ = some (.int .i64 l.loc) ∧ W.cell? ⟨w.heap.size, 12, none⟩ = some (.int .i64 l.size)) (by kernel_rfl) ?_ (fun hHeld => ?_)
  · (try dsimp only); exact ⟨by first | assumption | go_simp, by first | assumption | go_simp, by first | assumption | go_simp, by first | assumption | go_simp, by first | assumption | go_simp, by first | assumption | go_simp, by first | assumption | go_simp, by first | assumption | go_simp, by first | assumption | go_simp, by first | assumption | go_simp, by first | assumption | go_simp, by first | assumption | go_simp, by first | assumption | go_simp⟩
  replace HW := Lib.hid (below_drews HW.out 1)
  first | (refine wpAnyH_take (i := 0) (oi := ?oi1) (v := ?v1) ?hi1 (by kernel_rfl) (by kernel_rfl) (by kernel_rfl) ?hQ1 (Or.inl ⟨?hw1, ?hy1⟩) (by assumption) ?rest1; (case hi1 => (simp only [List.getElem?_toArray, List.getElem?_cons_zero]; rfl)); (case hQ1 => exact fun _ _ _ h => h); (case hw1 => rfl); (case hy1 => ((intro w hSw); (try dsimp only at hSw); go_simp; (try with_reducible rfl)))) | (refine wpAnyH_take (i := 0) (oi := ?oi2) (v := undef) ?hi2 (by kernel_rfl) (by kernel_rfl) (by kernel_rfl) ?hQ2 (Or.inr ⟨?hw2, rfl⟩) (by assumption) ?rest2; (case hi2 => (simp only [List.getElem?_toArray, List.getElem?_cons_zero]; rfl)); (case hQ2 => exact fun _ _ _ h => h); (case hw2 => rfl))
  (try simp only [Act.put, List.setIfInBounds_toArray, List.set_cons_zero, List.set_cons_succ])
  first | (refine wpAnyH_take (i := 1) (oi := ?oi3) (v := ?v3) ?hi3 (by kernel_rfl) (by kernel_rfl) (by kernel_rfl) ?hQ3 (Or.inl ⟨?hw3, ?hy3⟩) (by assumption) ?rest3; (case hi3 => (simp only [List.getElem?_toArray, List.getElem?_cons_succ, List.getElem?_cons_zero]; rfl)); (case hQ3 => exact fun _ _ _ h => h); (case hw3 => rfl); (case hy3 => ((intro w hSw); (try dsimp only at hSw); go_simp; (try with_reducible rfl)))) | (refine wpAnyH_take (i := 1) (oi := ?oi4) (v := undef) ?hi4 (by kernel_rfl) (by kernel_rfl) (by kernel_rfl) ?hQ4 (Or.inr ⟨?hw4, rfl⟩) (by assumption) ?rest4; (case hi4 => (simp only [List.getElem?_toArray, List.getElem?_cons_succ, List.getElem?_cons_zero]; rfl)); (case hQ4 => exact fun _ _ _ h => h); (case hw4 => rfl))
  (try simp only [Act.put, List.setIfInBounds_toArray, List.set_cons_zero, List.set_cons_succ])
  first | (refine wpAnyH_take (i := 3) (oi := ?oi5) (v := ?v5) ?hi5 (by kernel_rfl) (by kernel_rfl) (by kernel_rfl) ?hQ5 (Or.inl ⟨?hw5, ?hy5⟩) (by assumption) ?rest5; (case hi5 => (simp only [List.getElem?_toArray, List.getElem?_cons_succ, List.getElem?_cons_zero]; rfl)); (case hQ5 => exact fun _ _ _ h => h); (case hw5 => rfl); (case hy5 => ((intro w hSw); (try dsimp only at hSw); go_simp; (try with_reducible rfl)))) | (refine wpAnyH_take (i := 3) (oi := ?oi6) (v := undef) ?hi6 (by kernel_rfl) (by kernel_rfl) (by kernel_rfl) ?hQ6 (Or.inr ⟨?hw6, rfl⟩) (by assumption) ?rest6; (case hi6 => (simp only [List.getElem?_toArray, List.getElem?_cons_succ, List.getElem?_cons_zero]; rfl)); (case hQ6 => exact fun _ _ _ h => h); (case hw6 => rfl))
  (try simp only [Act.put, List.setIfInBounds_toArray, List.set_cons_zero, List.set_cons_succ])
  first | (refine wpAnyH_take (i := 4) (oi := ?oi7) (v := ?v7) ?hi7 (by kernel_rfl) (by kernel_rfl) (by kernel_rfl) ?hQ7 (Or.inl ⟨?hw7, ?hy7⟩) (by assumption) ?rest7; (case hi7 => (simp only [List.getElem?_toArray, List.getElem?_cons_succ, List.getElem?_cons_zero]; rfl)); (case hQ7 => exact fun _ _ _ h => h); (case hw7 => rfl); (case hy7 => ((intro w hSw); (try dsimp only at hSw); go_simp; (try with_reducible rfl)))) | (refine wpAnyH_take (i := 4) (oi := ?oi8) (v := undef) ?hi8 (by kernel_rfl) (by kernel_rfl) (by kernel_rfl) ?hQ8 (Or.inr ⟨?hw8, rfl⟩) (by assumption) ?rest8; (case hi8 => (simp only [List.getElem?_toArray, List.getElem?_cons_succ, List.getElem?_cons_zero]; rfl)); (case hQ8 => exact fun _ _ _ h => h); (case hw8 => rfl))
  (try simp only [Act.put, List.setIfInBounds_toArray, List.set_cons_zero, List.set_cons_succ])
  first | (refine wpAnyH_take (i := 6) (oi := ?oi9) (v := ?v9) ?hi9 (by kernel_rfl) (by kernel_rfl) (by kernel_rfl) ?hQ9 (Or.inl ⟨?hw9, ?hy9⟩) (by assumption) ?rest9; (case hi9 => (simp only [List.getElem?_toArray, List.getElem?_cons_succ, List.getElem?_cons_zero]; rfl)); (case hQ9 => exact fun _ _ _ h => h); (case hw9 => rfl); (case hy9 => ((intro w hSw); (try dsimp only at hSw); go_simp; (try with_reducible rfl)))) | (refine wpAnyH_take (i := 6) (oi := ?oi10) (v := undef) ?hi10 (by kernel_rfl) (by kernel_rfl) (by kernel_rfl) ?hQ10 (Or.inr ⟨?hw10, rfl⟩) (by assumption) ?rest10; (case hi10 => (simp only [List.getElem?_toArray, List.getElem?_cons_succ, List.getElem?_cons_zero]; rfl)); (case hQ10 => exact fun _ _ _ h => h); (case hw10 => rfl))
  (try simp only [Act.put, List.setIfInBounds_toArray, List.set_cons_zero, List.set_cons_succ])
  first | (refine wpAnyH_take (i := 7) (oi := ?oi11) (v := ?v11) ?hi11 (by kernel_rfl) (by kernel_rfl) (by kernel_rfl) ?hQ11 (Or.inl ⟨?hw11, ?hy11⟩) (by assumption) ?rest11; (case hi11 => (simp only [List.getElem?_toArray, List.getElem?_cons_succ, List.getElem?_cons_zero]; rfl)); (case hQ11 => exact fun _ _ _ h => h); (case hw11 => rfl); (case hy11 => ((intro w hSw); (try dsimp only at hSw); go_simp; (try with_reducible rfl)))) | (refine wpAnyH_take (i := 7) (oi := ?oi12) (v := undef) ?hi12 (by kernel_rfl) (by kernel_rfl) (by kernel_rfl) ?hQ12 (Or.inr ⟨?hw12, rfl⟩) (by assumption) ?rest12; (case hi12 => (simp only [List.getElem?_toArray, List.getElem?_cons_succ, List.getElem?_cons_zero]; rfl)); (case hQ12 => exact fun _ _ _ h => h); (case hw12 => rfl))
  (try simp only [Act.put, List.setIfInBounds_toArray, List.set_cons_zero, List.set_cons_succ])
  first | (refine wpAnyH_take (i := 9) (oi := ?oi13) (v := ?v13) ?hi13 (by kernel_rfl) (by kernel_rfl) (by kernel_rfl) ?hQ13 (Or.inl ⟨?hw13, ?hy13⟩) (by assumption) ?rest13; (case hi13 => (simp only [List.getElem?_toArray, List.getElem?_cons_succ, List.getElem?_cons_zero]; rfl)); (case hQ13 => exact fun _ _ _ h => h); (case hw13 => rfl); (case hy13 => ((intro w hSw); (try dsimp only at hSw); go_simp; (try with_reducible rfl)))) | (refine wpAnyH_take (i := 9) (oi := ?oi14) (v := undef) ?hi14 (by kernel_rfl) (by kernel_rfl) (by kernel_rfl) ?hQ14 (Or.inr ⟨?hw14, rfl⟩) (by assumption) ?rest14; (case hi14 => (simp only [List.getElem?_toArray, List.getElem?_cons_succ, List.getElem?_cons_zero]; rfl)); (case hQ14 => exact fun _ _ _ h => h); (case hw14 => rfl))
  (try simp only [Act.put, List.setIfInBounds_toArray, List.set_cons_zero, List.set_cons_succ])
  first | (refine wpAnyH_take (i := 10) (oi := ?oi15) (v := ?v15) ?hi15 (by kernel_rfl) (by kernel_rfl) (by kernel_rfl) ?hQ15 (Or.inl ⟨?hw15, ?hy15⟩) (by assumption) ?rest15; (case hi15 => (simp only [List.getElem?_toArray, List.getElem?_cons_succ, List.getElem?_cons_zero]; rfl)); (case hQ15 => exact fun _ _ _ h => h); (case hw15 => rfl); (case hy15 => ((intro w hSw); (try dsimp only at hSw); go_simp; (try with_reducible rfl)))) | (refine wpAnyH_take (i := 10) (oi := ?oi16) (v := undef) ?hi16 (by kernel_rfl) (by kernel_rfl) (by kernel_rfl) ?hQ16 (Or.inr ⟨?hw16, rfl⟩) (by assumption) ?rest16; (case hi16 => (simp only [List.getElem?_toArray, List.getElem?_cons_succ, List.getElem?_cons_zero]; rfl)); (case hQ16 => exact fun _ _ _ h => h); (case hw16 => rfl))
  (try simp only [Act.put, List.setIfInBounds_toArray, List.set_cons_zero, List.set_cons_succ])
  first | (refine wpAnyH_take (i := 12) (oi := ?oi17) (v := ?v17) ?hi17 (by kernel_rfl) (by kernel_rfl) (by kernel_rfl) ?hQ17 (Or.inl ⟨?hw17, ?hy17⟩) (by assumption) ?rest17; (case hi17 => (simp only [List.getElem?_toArray, List.getElem?_cons_succ, List.getElem?_cons_zero]; rfl)); (case hQ17 => exact fun _ _ _ h => h); (case hw17 => rfl); (case hy17 => ((intro w hSw); (try dsimp only at hSw); go_simp; (try with_reducible rfl)))) | (refine wpAnyH_take (i := 12) (oi := ?oi18) (v := undef) ?hi18 (by kernel_rfl) (by kernel_rfl) (by kernel_rfl) ?hQ18 (Or.inr ⟨?hw18, rfl⟩) (by assumption) ?rest18; (case hi18 => (simp only [List.getElem?_toArray, List.getElem?_cons_succ, List.getElem?_cons_zero]; rfl)); (case hQ18 => exact fun _ _ _ h => h); (case hw18 => rfl))
  (try simp only [Act.put, List.setIfInBounds_toArray, List.set_cons_zero, List.set_cons_succ])
  first | (refine wpAnyH_take (i := 13) (oi := ?oi19) (v := ?v19) ?hi19 (by kernel_rfl) (by kernel_rfl) (by kernel_rfl) ?hQ19 (Or.inl ⟨?hw19, ?hy19⟩) (by assumption) ?rest19; (case hi19 => (simp only [List.getElem?_toArray, List.getElem?_cons_succ, List.getElem?_cons_zero]; rfl)); (case hQ19 => exact fun _ _ _ h => h); (case hw19 => rfl); (case hy19 => ((intro w hSw); (try dsimp only at hSw); go_simp; (try with_reducible rfl)))) | (refine wpAnyH_take (i := 13) (oi := ?oi20) (v := undef) ?hi20 (by kernel_rfl) (by kernel_rfl) (by kernel_rfl) ?hQ20 (Or.inr ⟨?hw20, rfl⟩) (by assumption) ?rest20; (case hi20 => (simp only [List.getElem?_toArray, List.getElem?_cons_succ, List.getElem?_cons_zero]; rfl)); (case hQ20 => exact fun _ _ _ h => h); (case hw20 => rfl))
  (try simp only [Act.put, List.setIfInBounds_toArray, List.set_cons_zero, List.set_cons_succ])
  first | (refine wpAnyH_take (i := 15) (oi := ?oi21) (v := ?v21) ?hi21 (by kernel_rfl) (by kernel_rfl) (by kernel_rfl) ?hQ21 (Or.inl ⟨?hw21, ?hy21⟩) (by assumption) ?rest21; (case hi21 => (simp only [List.getElem?_toArray, List.getElem?_cons_succ, List.getElem?_cons_zero]; rfl)); (case hQ21 => exact fun _ _ _ h => h); (case hw21 => rfl); (case hy21 => ((intro w hSw); (try dsimp only at hSw); go_simp; (try with_reducible rfl)))) | (refine wpAnyH_take (i := 15) (oi := ?oi22) (v := undef) ?hi22 (by kernel_rfl) (by kernel_rfl) (by kernel_rfl) ?hQ22 (Or.inr ⟨?hw22, rfl⟩) (by assumption) ?rest22; (case hi22 => (simp only [List.getElem?_toArray, List.getElem?_cons_succ, List.getElem?_cons_zero]; rfl)); (case hQ22 => exact fun _ _ _ h => h); (case hw22 => rfl))
  (try simp only [Act.put, List.setIfInBounds_toArray, List.set_cons_zero, List.set_cons_succ])
  first | (refine wpAnyH_take (i := 16) (oi := ?oi23) (v := ?v23) ?hi23 (by kernel_rfl) (by kernel_rfl) (by kernel_rfl) ?hQ23 (Or.inl ⟨?hw23, ?hy23⟩) (by assumption) ?rest23; (case hi23 => (simp only [List.getElem?_toArray, List.getElem?_cons_succ, List.getElem?_cons_zero]; rfl)); (case hQ23 => exact fun _ _ _ h => h); (case hw23 => rfl); (case hy23 => ((intro w hSw); (try dsimp only at hSw); go_simp; (try with_reducible rfl)))) | (refine wpAnyH_take (i := 16) (oi := ?oi24) (v := undef) ?hi24 (by kernel_rfl) (by kernel_rfl) (by kernel_rfl) ?hQ24 (Or.inr ⟨?hw24, rfl⟩) (by assumption) ?rest24; (case hi24 => (simp only [List.getElem?_toArray, List.getElem?_cons_succ, List.getElem?_cons_zero]; rfl)); (case hQ24 => exact fun _ _ _ h => h); (case hw24 => rfl))
  (try simp only [Act.put, List.setIfInBounds_toArray, List.set_cons_zero, List.set_cons_succ])
  first | (refine wpAnyH_take (i := 18) (oi := ?oi25) (v := ?v25) ?hi25 (by kernel_rfl) (by kernel_rfl) (by kernel_rfl) ?hQ25 (Or.inl ⟨?hw25, ?hy25⟩) (by assumption) ?rest25; (case hi25 => (simp only [List.getElem?_toArray, List.getElem?_cons_succ, List.getElem?_cons_zero]; rfl)); (case hQ25 => exact fun _ _ _ h => h); (case hw25 => rfl); (case hy25 => ((intro w hSw); (try dsimp only at hSw); go_simp; (try with_reducible rfl)))) | (refine wpAnyH_take (i := 18) (oi := ?oi26) (v := undef) ?hi26 (by kernel_rfl) (by kernel_rfl) (by kernel_rfl) ?hQ26 (Or.inr ⟨?hw26, rfl⟩) (by assumption) ?rest26; (case hi26 => (simp only [List.getElem?_toArray, List.getElem?_cons_succ, List.getElem?_cons_zero]; rfl)); (case hQ26 => exact fun _ _ _ h => h); (case hw26 => rfl))
  (try simp only [Act.put, List.setIfInBounds_toArray, List.set_cons_zero, List.set_cons_succ])
  first | (refine wpAnyH_take (i := 19) (oi := ?oi27) (v := ?v27) ?hi27 (by kernel_rfl) (by kernel_rfl) (by kernel_rfl) ?hQ27 (Or.inl ⟨?hw27, ?hy27⟩) (by assumption) ?rest27; (case hi27 => (simp only [List.getElem?_toArray, List.getElem?_cons_succ, List.getElem?_cons_zero]; rfl)); (case hQ27 => exact fun _ _ _ h => h); (case hw27 => rfl); (case hy27 => ((intro w hSw); (try dsimp only at hSw); go_simp; (try with_reducible rfl)))) | (refine wpAnyH_take (i := 19) (oi := ?oi28) (v := undef) ?hi28 (by kernel_rfl) (by kernel_rfl) (by kernel_rfl) ?hQ28 (Or.inr ⟨?hw28, rfl⟩) (by assumption) ?rest28; (case hi28 => (simp only [List.getElem?_toArray, List.getElem?_cons_succ, List.getElem?_cons_zero]; rfl)); (case hQ28 => exact fun _ _ _ h => h); (case hw28 => rfl))
  (try simp only [Act.put, List.setIfInBounds_toArray, List.set_cons_zero, List.set_cons_succ])
  first | (refine wpAnyH_take (i := 21) (oi := ?oi29) (v := ?v29) ?hi29 (by kernel_rfl) (by kernel_rfl) (by kernel_rfl) ?hQ29 (Or.inl ⟨?hw29, ?hy29⟩) (by assumption) ?rest29; (case hi29 => (simp only [List.getElem?_toArray, List.getElem?_cons_succ, List.getElem?_cons_zero]; rfl)); (case hQ29 => exact fun _ _ _ h => h); (case hw29 => rfl); (case hy29 => ((intro w hSw); (try dsimp only at hSw); go_simp; (try with_reducible rfl)))) | (refine wpAnyH_take (i := 21) (oi := ?oi30) (v := undef) ?hi30 (by kernel_rfl) (by kernel_rfl) (by kernel_rfl) ?hQ30 (Or.inr ⟨?hw30, rfl⟩) (by assumption) ?rest30; (case hi30 => (simp only [List.getElem?_toArray, List.getElem?_cons_succ, List.getElem?_cons_zero]; rfl)); (case hQ30 => exact fun _ _ _ h => h); (case hw30 => rfl))
  (try simp only [Act.put, List.setIfInBounds_toArray, List.set_cons_zero, List.set_cons_succ])
  first | (refine wpAnyH_take (i := 22) (oi := ?oi31) (v := ?v31) ?hi31 (by kernel_rfl) (by kernel_rfl) (by kernel_rfl) ?hQ31 (Or.inl ⟨?hw31, ?hy31⟩) (by assumption) ?rest31; (case hi31 => (simp only [List.getElem?_toArray, List.getElem?_cons_succ, List.getElem?_cons_zero]; rfl)); (case hQ31 => exact fun _ _ _ h => h); (case hw31 => rfl); (case hy31 => ((intro w hSw); (try dsimp only at hSw); go_simp; (try with_reducible rfl)))) | (refine wpAnyH_take (i := 22) (oi := ?oi32) (v := undef) ?hi32 (by kernel_rfl) (by kernel_rfl) (by kernel_rfl) ?hQ32 (Or.inr ⟨?hw32, rfl⟩) (by assumption) ?rest32; (case hi32 => (simp only [List.getElem?_toArray, List.getElem?_cons_succ, List.getElem?_cons_zero]; rfl)); (case hQ32 => exact fun _ _ _ h => h); (case hw32 => rfl))
  (try simp only [Act.put, List.setIfInBounds_toArray, List.set_cons_zero, List.set_cons_succ])
  first | (refine wpAnyH_take (i := 24) (oi := ?oi33) (v := ?v33) ?hi33 (by kernel_rfl) (by kernel_rfl) (by kernel_rfl) ?hQ33 (Or.inl ⟨?hw33, ?hy33⟩) (by assumption) ?rest33; (case hi33 => (simp only [List.getElem?_toArray, List.getElem?_cons_succ, List.getElem?_cons_zero]; rfl)); (case hQ33 => exact fun _ _ _ h => h); (case hw33 => rfl); (case hy33 => ((intro w hSw); (try dsimp only at hSw); go_simp; (try with_reducible rfl)))) | (refine wpAnyH_take (i := 24) (oi := ?oi34) (v := undef) ?hi34 (by kernel_rfl) (by kernel_rfl) (by kernel_rfl) ?hQ34 (Or.inr ⟨?hw34, rfl⟩) (by assumption) ?rest34; (case hi34 => (simp only [List.getElem?_toArray, List.getElem?_cons_succ, List.getElem?_cons_zero]; rfl)); (case hQ34 => exact fun _ _ _ h => h); (case hw34 => rfl))
  (try simp only [Act.put, List.setIfInBounds_toArray, List.set_cons_zero, List.set_cons_succ])
  first | (refine wpAnyH_take (i := 25) (oi := ?oi35) (v := ?v35) ?hi35 (by kernel_rfl) (by kernel_rfl) (by kernel_rfl) ?hQ35 (Or.inl ⟨?hw35, ?hy35⟩) (by assumption) ?rest35; (case hi35 => (simp only [List.getElem?_toArray, List.getElem?_cons_succ, List.getElem?_cons_zero]; rfl)); (case hQ35 => exact fun _ _ _ h => h); (case hw35 => rfl); (case hy35 => ((intro w hSw); (try dsimp only at hSw); go_simp; (try with_reducible rfl)))) | (refine wpAnyH_take (i := 25) (oi := ?oi36) (v := undef) ?hi36 (by kernel_rfl) (by kernel_rfl) (by kernel_rfl) ?hQ36 (Or.inr ⟨?hw36, rfl⟩) (by assumption) ?rest36; (case hi36 => (simp only [List.getElem?_toArray, List.getElem?_cons_succ, List.getElem?_cons_zero]; rfl)); (case hQ36 => exact fun _ _ _ h => h); (case hw36 => rfl))
  (try simp only [Act.put, List.setIfInBounds_toArray, List.set_cons_zero, List.set_cons_succ])
  refine wpAnyH_ready (rs := [2]) (by kernel_rfl) (by simp) ?_
  refine AllReadyH.cons (o := ?oi37) ?hi37 (fun K hK => ?rest37) AllReadyH.nil
  (case hi37 => (simp only [List.getElem?_toArray, List.getElem?_cons_succ, List.getElem?_cons_zero]; rfl))
  obtain ⟨s0, s1, s2, s3, s4, s5, s6, s7, s8, s9, s10, s11, s12⟩ := hHeld
  go_simp
  ((with_reducible refine (H0.out _).mono ?_); rintro e wx0 ⟨rfl, hb⟩)
  replace HW := Lib.hid (below_step HW.out hb)
  refine hK.out _ _ ?_ (fun hHeld => ?_)
  · (try dsimp only); exact ⟨cel_below hb s0, cel_below hb s1, cel_below hb s2, cel_below hb s3, cel_below hb s4, cel_below hb s5, cel_below hb s6, cel_below hb s7, cel_below hb s8, cel_below hb s9, cel_below hb s10, cel_below hb s11, cel_below hb s12⟩
  clear hK K s0 s1 s2 s3 s4 s5 s6 s7 s8 s9 s10 s11 s12 hb
  (try simp only [Act.put, List.setIfInBounds_toArray, List.set_cons_zero, List.set_cons_succ])
  refine wpAnyH_ready (rs := [5]) (by kernel_rfl) (by simp) ?_
  refine AllReadyH.cons (o := ?oi38) ?hi38 (fun K hK => ?rest38) AllReadyH.nil
  (case hi38 => (simp only [List.getElem?_toArray, List.getElem?_cons_succ, List.getElem?_cons_zero]; rfl))
  obtain ⟨s0, s1, s2, s3, s4, s5, s6, s7, s8, s9, s10, s11, s12⟩ := hHeld
  go_simp
  ((with_reducible refine (H1.out _).mono ?_); rintro e wx1 ⟨rfl, hb⟩)
  replace HW := Lib.hid (below_step HW.out hb)
  refine hK.out _ _ ?_ (fun hHeld => ?_)
  · (try dsimp only); exact ⟨cel_below hb s0, cel_below hb s1, cel_below hb s2, cel_below hb s3, cel_below hb s4, cel_below hb s5, cel_below hb s6, cel_below hb s7, cel_below hb s8, cel_below hb s9, cel_below hb s10, cel_below hb s11, cel_below hb s12⟩
  clear hK K s0 s1 s2 s3 s4 s5 s6 s7 s8 s9 s10 s11 s12 hb
  (try simp only [Act.put, List.setIfInBounds_toArray, List.set_cons_zero, List.set_cons_succ])
  refine wpAnyH_ready (rs := [8]) (by kernel_rfl) (by simp) ?_
  refine AllReadyH.cons (o := ?oi39) ?hi39 (fun K hK => ?rest39) AllReadyH.nil
  (case hi39 => (simp only [List.getElem?_toArray, List.getElem?_cons_succ, List.getElem?_cons_zero]; rfl))
  obtain ⟨s0, s1, s2, s3, s4, s5, s6, s7, s8, s9, s10, s11, s12⟩ := hHeld
  go_simp
  ((with_reducible refine (H2.out _).mono ?_); rintro e wx2 ⟨rfl, hb⟩)
  replace HW := Lib.hid (below_step HW.out hb)
  refine hK.out _ _ ?_ (fun hHeld => ?_)
  · (try dsimp only); exact ⟨cel_below hb s0, cel_below hb s1, cel_below hb s2, cel_below hb s3, cel_below hb s4, cel_below hb s5, cel_below hb s6, cel_below hb s7, cel_below hb s8, cel_below hb s9, cel_below hb s10, cel_below hb s11, cel_below hb s12⟩
  clear hK K s0 s1 s2 s3 s4 s5 s6 s7 s8 s9 s10 s11 s12 hb
  (try simp only [Act.put, List.setIfInBounds_toArray, List.set_cons_zero, List.set_cons_succ])
  refine wpAnyH_ready (rs := [11]) (by kernel_rfl) (by simp) ?_
  refine AllReadyH.cons (o := ?oi40) ?hi40 (fun K hK => ?rest40) AllReadyH.nil
  (case hi40 => (simp only [List.getElem?_toArray, List.getElem?_cons_succ, List.getElem?_cons_zero]; rfl))
  obtain ⟨s0, s1, s2, s3, s4, s5, s6, s7, s8, s9, s10, s11, s12⟩ := hHeld
  go_simp
  ((with_reducible refine (H3.out _).mono ?_); rintro e wx3 ⟨rfl, hb⟩)
  replace HW := Lib.hid (below_step HW.out hb)
  refine hK.out _ _ ?_ (fun hHeld => ?_)
  · (try dsimp only); exact ⟨cel_below hb s0, cel_below hb s1, cel_below hb s2, cel_below hb s3, cel_below hb s4, cel_below hb s5, cel_below hb s6, cel_below hb s7, cel_below hb s8, cel_below hb s9, cel_below hb s10, cel_below hb s11, cel_below hb s12⟩
  clear hK K s0 s1 s2 s3 s4 s5 s6 s7 s8 s9 s10 s11 s12 hb
  (try simp only [Act.put, List.setIfInBounds_toArray, List.set_cons_zero, List.set_cons_succ])
  refine wpAnyH_ready (rs := [14]) (by kernel_rfl) (by simp) ?_
  refine AllReadyH.cons (o := ?oi41) ?hi41 (fun K hK => ?rest41) AllReadyH.nil
  (case hi41 => (simp only [List.getElem?_toArray, List.getElem?_cons_succ, List.getElem?_cons_zero]; rfl))
  obtain ⟨s0, s1, s2, s3, s4, s5, s6, s7, s8, s9, s10, s11, s12⟩ := hHeld
  go_simp
  ((with_reducible refine (H4.out _).mono ?_); rintro e wx4 ⟨rfl, hb⟩)
  replace HW := Lib.hid (below_step HW.out hb)
  refine hK.out _ _ ?_ (fun hHeld => ?_)
  · (try dsimp only); exact ⟨cel_below hb s0, cel_below hb s1, cel_below hb s2, cel_below hb s3, cel_below hb s4, cel_below hb s5, cel_below hb s6, cel_below hb s7, cel_below hb s8, cel_below hb s9, cel_below hb s10, cel_below hb s11, cel_below hb s12⟩
  clear hK K s0 s1 s2 s3 s4 s5 s6 s7 s8 s9 s10 s11 s12 hb
  (try simp only [Act.put, List.setIfInBounds_toArray, List.set_cons_zero, List.set_cons_succ])
  refine wpAnyH_ready (rs := [17]) (by kernel_rfl) (by simp) ?_
  refine AllReadyH.cons (o := ?oi42) ?hi42 (fun K hK => ?rest42) AllReadyH.nil
  (case hi42 => (simp only [List.getElem?_toArray, List.getElem?_cons_succ, List.getElem?_cons_zero]; rfl))
  obtain ⟨s0, s1, s2, s3, s4, s5, s6, s7, s8, s9, s10, s11, s12⟩ := hHeld
  go_simp
  ((with_reducible refine (H5.out _).mono ?_); rintro e wx5 ⟨rfl, hb⟩)
  replace HW := Lib.hid (below_step HW.out hb)
  refine hK.out _ _ ?_ (fun hHeld => ?_)
  · (try dsimp only); exact ⟨cel_below hb s0, cel_below hb s1, cel_below hb s2, cel_below hb s3, cel_below hb s4, cel_below hb s5, cel_below hb s6, cel_below hb s7, cel_below hb s8, cel_below hb s9, cel_below hb s10, cel_below hb s11, cel_below hb s12⟩
  clear hK K s0 s1 s2 s3 s4 s5 s6 s7 s8 s9 s10 s11 s12 hb
  (try simp only [Act.put, List.setIfInBounds_toArray, List.set_cons_zero, List.set_cons_succ])
  refine wpAnyH_ready (rs := [20]) (by kernel_rfl) (by simp) ?_
  refine AllReadyH.cons (o := ?oi43) ?hi43 (fun K hK => ?rest43) AllReadyH.nil
  (case hi43 => (simp only [List.getElem?_toArray, List.getElem?_cons_succ, List.getElem?_cons_zero]; rfl))
  obtain ⟨s0, s1, s2, s3, s4, s5, s6, s7, s8, s9, s10, s11, s12⟩ := hHeld
  go_simp
  ((with_reducible refine (H6.out _).mono ?_); rintro e wx6 ⟨rfl, hb⟩)
  replace HW := Lib.hid (below_step HW.out hb)
  refine hK.out _ _ ?_ (fun hHeld => ?_)
  · (try dsimp only); exact ⟨cel_below hb s0, cel_below hb s1, cel_below hb s2, cel_below hb s3, cel_below hb s4, cel_below hb s5, cel_below hb s6, cel_below hb s7, cel_below hb s8, cel_below hb s9, cel_below hb s10, cel_below hb s11, cel_below hb s12⟩
  clear hK K s0 s1 s2 s3 s4 s5 s6 s7 s8 s9 s10 s11 s12 hb
  (try simp only [Act.put, List.setIfInBounds_toArray, List.set_cons_zero, List.set_cons_succ])
  refine wpAnyH_ready (rs := [23]) (by kernel_rfl) (by simp) ?_
  refine AllReadyH.cons (o := ?oi44) ?hi44 (fun K hK => ?rest44) AllReadyH.nil
  (case hi44 => (simp only [List.getElem?_toArray, List.getElem?_cons_succ, List.getElem?_cons_zero]; rfl))
  obtain ⟨s0, s1, s2, s3, s4, s5, s6, s7, s8, s9, s10, s11, s12⟩ := hHeld
  go_simp
  ((with_reducible refine (H7.out _).mono ?_); rintro e wx7 ⟨rfl, hb⟩)
  replace HW := Lib.hid (below_step HW.out hb)
  refine hK.out _ _ ?_ (fun hHeld => ?_)
  · (try dsimp only); exact ⟨cel_below hb s0, cel_below hb s1, cel_below hb s2, cel_below hb s3, cel_below hb s4, cel_below hb s5, cel_below hb s6, cel_below hb s7, cel_below hb s8, cel_below hb s9, cel_below hb s10, cel_below hb s11, cel_below hb s12⟩
  clear hK K s0 s1 s2 s3 s4 s5 s6 s7 s8 s9 s10 s11 s12 hb
  (try simp only [Act.put, List.setIfInBounds_toArray, List.set_cons_zero, List.set_cons_succ])
  refine wpAnyH_ready (rs := [26]) (by kernel_rfl) (by simp) ?_
  refine AllReadyH.cons (o := ?oi45) ?hi45 (fun K hK => ?rest45) AllReadyH.nil
  (case hi45 => (simp only [List.getElem?_toArray, List.getElem?_cons_succ, List.getElem?_cons_zero]; rfl))
  obtain ⟨s0, s1, s2, s3, s4, s5, s6, s7, s8, s9, s10, s11, s12⟩ := hHeld
  go_simp
  ((with_reducible refine (H8.out _).mono ?_); rintro e wx8 ⟨rfl, hb⟩)
  replace HW := Lib.hid (below_step HW.out hb)
  have HG8 := Lib.hid HW.out.size
  refine hK.out _ _ ?_ (fun hHeld => ?_)
  · (try dsimp only); exact ⟨cel_below hb s0, cel_below hb s1, cel_below hb s2, cel_below hb s3, cel_below hb s4, cel_below hb s5, cel_below hb s6, cel_below hb s7, cel_below hb s8, cel_below hb s9, cel_below hb s10, cel_below hb s11, cel_below hb s12⟩
  clear hK K s0 s1 s2 s3 s4 s5 s6 s7 s8 s9 s10 s11 s12 hb
  (try simp only [Act.put, List.setIfInBounds_toArray, List.set_cons_zero, List.set_cons_succ])
  refine wpAnyH_ready (rs := [27]) (by kernel_rfl) (by simp) ?_
  refine AllReadyH.cons (o := ?oi46) ?hi46 (fun K hK => ?rest46) AllReadyH.nil
  (case hi46 => (simp only [List.getElem?_toArray, List.getElem?_cons_succ, List.getElem?_cons_zero]; rfl))
  obtain ⟨s0, s1, s2, s3, s4, s5, s6, s7, s8, s9, s10, s11, s12⟩ := hHeld
  go_simp
  replace HW := Lib.hid (below_step HW.out (below_new1 _ (.cells #[.int .i64 v0, .int .i64 v1, .int .i64 v2, .int .i64 v3, .int .i64 v4, .int .i64 v5, .int .i64 v6, .int .i64 v7, .int .i64 v8] 3)))
  refine hK.out _ _ ?_ (fun hHeld => ?_)
  · (try dsimp only); exact ⟨cell_alloc _ s0, cell_alloc _ s1, cell_alloc _ s2, cell_alloc _ s3, cell_alloc _ s4, cell_alloc _ s5, cell_alloc _ s6, cell_alloc _ s7, cell_alloc _ s8, cell_alloc _ s9, cell_alloc _ s10, cell_alloc _ s11, cell_alloc _ s12⟩
  clear hK K s0 s1 s2 s3 s4 s5 s6 s7 s8 s9 s10 s11 s12
  (try simp only [Act.put, List.setIfInBounds_toArray, List.set_cons_zero, List.set_cons_succ])
  first | (refine wpAnyH_take (i := 28) (oi := ?oi47) (v := ?v47) ?hi47 (by kernel_rfl) (by kernel_rfl) (by kernel_rfl) ?hQ47 (Or.inl ⟨?hw47, ?hy47⟩) (by assumption) ?rest47; (case hi47 => (simp only [List.getElem?_toArray, List.getElem?_cons_succ, List.getElem?_cons_zero]; rfl)); (case hQ47 => exact fun _ _ _ h => h); (case hw47 => rfl); (case hy47 => ((intro w hSw); (try dsimp only at hSw); go_simp; (try with_reducible rfl)))) | (refine wpAnyH_take (i := 28) (oi := ?oi48) (v := undef) ?hi48 (by kernel_rfl) (by kernel_rfl) (by kernel_rfl) ?hQ48 (Or.inr ⟨?hw48, rfl⟩) (by assumption) ?rest48; (case hi48 => (simp only [List.getElem?_toArray, List.getElem?_cons_succ, List.getElem?_cons_zero]; rfl)); (case hQ48 => exact fun _ _ _ h => h); (case hw48 => rfl))
  (try simp only [Act.put, List.setIfInBounds_toArray, List.set_cons_zero, List.set_cons_succ])
  refine wpAnyH_done (by kernel_rfl) ?_ _
  obtain ⟨s0, s1, s2, s3, s4, s5, s6, s7, s8, s9, s10, s11, s12⟩ := hHeld
  go_wp2
  go_ret
  exact ⟨_, rfl, HG8.out, by rw [HP.out]; exact hasInts_new15 _ rfl rfl (by simp) rfl, HW.out⟩

theorem places_any (l : Ly) (n : Int) (w : World) (hok : l.ok) : Calls Try.prog 29 #[l.v, .int .i64 n] w fun e w' => ∃ u, e = .returned u ∧ HasInts w' u (placesL l n) ∧ Below w.heap.size w w' :=
  (placesF_any l n w hok).mono fun e w' ⟨g, he, _, hi, hb⟩ => ⟨_, he, hi, hb⟩

set_option maxHeartbeats 4000000 in
set_option maxRecDepth 100000 in
theorem rall15F_any (l : Ly) (n : Int) (w : World) (hok : l.ok) : Calls Try.prog 30 #[l.v, .int .i64 n] w fun e w' => ∃ g, e = .returned (.slice (some ⟨g, 0, none⟩) 9 9) ∧ w.heap.size ≤ g ∧ HasInts w' (.slice (some ⟨g, 0, none⟩) 9 9) (placesL l n) ∧ Below w.heap.size w w' := by
  obtain ⟨P, hP⟩ : ∃ P, P = placesL l n := ⟨_, rfl⟩
  rw [← hP]
  obtain ⟨v0, e0⟩ : ∃ v, v = atStatus l n := ⟨_, rfl⟩
  obtain ⟨v1, e1⟩ : ∃ v, v = atStamp l n := ⟨_, rfl⟩
  obtain ⟨v2, e2⟩ : ∃ v, v = atWake l n := ⟨_, rfl⟩
  obtain ⟨v3, e3⟩ : ∃ v, v = atKarma l n := ⟨_, rfl⟩
  obtain ⟨v4, e4⟩ : ∃ v, v = atLock l n := ⟨_, rfl⟩
  obtain ⟨v5, e5⟩ : ∃ v, v = atWord l n := ⟨_, rfl⟩
  obtain ⟨v6, e6⟩ : ∃ v, v = atVal l n := ⟨_, rfl⟩
  obtain ⟨v7, e7⟩ : ∃ v, v = atReaders l n := ⟨_, rfl⟩
  obtain ⟨v8, e8⟩ : ∃ v, v = atWaiters l n := ⟨_, rfl⟩
  have H0 := Lib.hid (fun w => rstatus_any l n w hok)
  rw [← e0] at H0
  have H1 := Lib.hid (fun w => rstamp_any l n w hok)
  rw [← e1] at H1
  have H2 := Lib.hid (fun w => rwake_any l n w hok)
  rw [← e2] at H2
  have H3 := Lib.hid (fun w => rkarma_any l n w hok)
  rw [← e3] at H3
  have H4 := Lib.hid (fun w => rlock_any l n w hok)
  rw [← e4] at H4
  have H5 := Lib.hid (fun w => rword_any l n w hok)
  rw [← e5] at H5
  have H6 := Lib.hid (fun w => rval_any l n w hok)
  rw [← e6] at H6
  have H7 := Lib.hid (fun w => rreaders_any l n w hok)
  rw [← e7] at H7
  have H8 := Lib.hid (fun w => rwaiters_any l n w hok)
  rw [← e8] at H8
  have HP : Hid (P = [v0, v1, v2, v3, v4, v5, v6, v7, v8]) := Lib.hid (by rw [hP]; unfold placesL; rw [e0, e1, e2, e3, e4, e5, e6, e7, e8])
  clear hP hok e0 e1 e2 e3 e4 e5 e6 e7 e8
  unfold Ly.v at H0 H1 H2 H3 H4 H5 H6 H7 H8 ⊢
  go_enter Try.func30, Try.ntmps30
  have HW := Lib.hid (Below.refl w.heap.size w)
  go_wp2_with fail
  obtain ⟨wr1, hwr⟩ : ∃ W, W = w.alloc (.cells #[.int .i64 l.c.t, .int .i64 l.c.l, .int .i64 l.c.k, .int .i64 l.c.s, .int .i64 l.c.m, .int .i64 l.clock, .int .i64 l.stamps, .int .i64 l.log, .int .i64 l.fin, .int .i64 l.thread, .int .i64 l.lock, .int .i64 l.loc, .int .i64 l.size] 53) := ⟨_, rfl⟩
  rw [← hwr]
  have hb : Below w.heap.size w wr1 := by rw [hwr]; exact (Below.alloc (Below.refl _ w) (by first | exact Nat.le_refl _ | (simp; omega) | simp) _)
  have zz : w.heap.size + 1 ≤ wr1.heap.size := by rw [hwr]; simp
  replace HW := Lib.hid (below_step HW.out hb)
  have lq0 : wr1.cell? ⟨w.heap.size, 0, none⟩ = some (.int .i64 l.c.t) := by rw [hwr]; exact by rw [World.cell?_alloc_at _ _ _ _ (by simp)]; rfl
  have lq1 : wr1.cell? ⟨w.heap.size, 1, none⟩ = some (.int .i64 l.c.l) := by rw [hwr]; exact by rw [World.cell?_alloc_at _ _ _ _ (by simp)]; rfl
  have lq2 : wr1.cell? ⟨w.heap.size, 2, none⟩ = some (.int .i64 l.c.k) := by rw [hwr]; exact by rw [World.cell?_alloc_at _ _ _ _ (by simp)]; rfl
  have lq3 : wr1.cell? ⟨w.heap.size, 3, none⟩ = some (.int .i64 l.c.s) := by rw [hwr]; exact by rw [World.cell?_alloc_at _ _ _ _ (by simp)]; rfl
  have lq4 : wr1.cell? ⟨w.heap.size, 4, none⟩ = some (.int .i64 l.c.m) := by rw [hwr]; exact by rw [World.cell?_alloc_at _ _ _ _ (by simp)]; rfl
  have lq5 : wr1.cell? ⟨w.heap.size, 5, none⟩ = some (.int .i64 l.clock) := by rw [hwr]; exact by rw [World.cell?_alloc_at _ _ _ _ (by simp)]; rfl
  have lq6 : wr1.cell? ⟨w.heap.size, 6, none⟩ = some (.int .i64 l.stamps) := by rw [hwr]; exact by rw [World.cell?_alloc_at _ _ _ _ (by simp)]; rfl
  have lq7 : wr1.cell? ⟨w.heap.size, 7, none⟩ = some (.int .i64 l.log) := by rw [hwr]; exact by rw [World.cell?_alloc_at _ _ _ _ (by simp)]; rfl
  have lq8 : wr1.cell? ⟨w.heap.size, 8, none⟩ = some (.int .i64 l.fin) := by rw [hwr]; exact by rw [World.cell?_alloc_at _ _ _ _ (by simp)]; rfl
  have lq9 : wr1.cell? ⟨w.heap.size, 9, none⟩ = some (.int .i64 l.thread) := by rw [hwr]; exact by rw [World.cell?_alloc_at _ _ _ _ (by simp)]; rfl
  have lq10 : wr1.cell? ⟨w.heap.size, 10, none⟩ = some (.int .i64 l.lock) := by rw [hwr]; exact by rw [World.cell?_alloc_at _ _ _ _ (by simp)]; rfl
  have lq11 : wr1.cell? ⟨w.heap.size, 11, none⟩ = some (.int .i64 l.loc) := by rw [hwr]; exact by rw [World.cell?_alloc_at _ _ _ _ (by simp)]; rfl
  have lq12 : wr1.cell? ⟨w.heap.size, 12, none⟩ = some (.int .i64 l.size) := by rw [hwr]; exact by rw [World.cell?_alloc_at _ _ _ _ (by simp)]; rfl
  have z0 : w.heap.size < wr1.heap.size := by omega
  clear hb zz hwr
  refine wp_region_held_drew (S := fun W => W.cell? ⟨w.heap.size, 0, none⟩ = some (.int .i64 l.c.t) ∧ W.cell? ⟨w.heap.size, 1, none⟩ = some (.int .i64 l.c.l) ∧ W.cell? ⟨w.heap.size, 2, none⟩ = some (.int .i64 l.c.k) ∧ W.cell? ⟨w.heap.size, 3, none⟩ = some (.int .i64 l.c.s) ∧ W.cell? ⟨w.heap.size, 4, none⟩ = some (.int .i64 l.c.m) ∧ W.cell? ⟨w.heap.size, 5, none⟩ = some (.int .i64 l.clock) ∧ W.cell? ⟨w.heap.size, 6, none⟩ = some (.int .i64 l.stamps) ∧ W.cell? ⟨w.heap.size, 7, none⟩ = some (.int .i64 l.log) ∧ W.cell? ⟨w.heap.size, 8, none⟩ = some (.int .i64 l.fin) ∧ W.cell? ⟨w.heap.size, 9, none⟩ = some (.int .i64 l.thread) ∧ W.cell? ⟨w.heap.size, 10, none⟩ = some (.int .i64 l.lock) ∧ W.cell? ⟨w.heap.size, 11, none⟩ = some (.int .i64 l.loc) ∧ W.cell? ⟨w.heap.size, 12, none⟩ = some (.int .i64 l.size)) (by kernel_rfl) ?_ (fun hHeld => ?_)
  · (try dsimp only); exact ⟨by first | assumption | go_simp, by first | assumption | go_simp, by first | assumption | go_simp, by first | assumption | go_simp, by first | assumption | go_simp, by first | assumption | go_simp, by first | assumption | go_simp, by first | assumption | go_simp, by first | assumption | go_simp, by first | assumption | go_simp, by first | assumption | go_simp, by first | assumption | go_simp, by first | assumption | go_simp⟩
  replace HW := Lib.hid (below_drews HW.out 1)
  first | (refine wpAnyH_take (i := 0) (oi := ?oi49) (v := ?v49) ?hi49 (by kernel_rfl) (by kernel_rfl) (by kernel_rfl) ?hQ49 (Or.inl ⟨?hw49, ?hy49⟩) (by assumption) ?rest49; (case hi49 => (simp only [List.getElem?_toArray, List.getElem?_cons_zero]; rfl)); (case hQ49 => exact fun _ _ _ h => h); (case hw49 => rfl); (case hy49 => ((intro w hSw); (try dsimp only at hSw); go_simp; (try with_reducible rfl)))) | (refine wpAnyH_take (i := 0) (oi := ?oi50) (v := undef) ?hi50 (by kernel_rfl) (by kernel_rfl) (by kernel_rfl) ?hQ50 (Or.inr ⟨?hw50, rfl⟩) (by assumption) ?rest50; (case hi50 => (simp only [List.getElem?_toArray, List.getElem?_cons_zero]; rfl)); (case hQ50 => exact fun _ _ _ h => h); (case hw50 => rfl))
  (try simp only [Act.put, List.setIfInBounds_toArray, List.set_cons_zero, List.set_cons_succ])
  first | (refine wpAnyH_take (i := 1) (oi := ?oi51) (v := ?v51) ?hi51 (by kernel_rfl) (by kernel_rfl) (by kernel_rfl) ?hQ51 (Or.inl ⟨?hw51, ?hy51⟩) (by assumption) ?rest51; (case hi51 => (simp only [List.getElem?_toArray, List.getElem?_cons_succ, List.getElem?_cons_zero]; rfl)); (case hQ51 => exact fun _ _ _ h => h); (case hw51 => rfl); (case hy51 => ((intro w hSw); (try dsimp only at hSw); go_simp; (try with_reducible rfl)))) | (refine wpAnyH_take (i := 1) (oi := ?oi52) (v := undef) ?hi52 (by kernel_rfl) (by kernel_rfl) (by kernel_rfl) ?hQ52 (Or.inr ⟨?hw52, rfl⟩) (by assumption) ?rest52; (case hi52 => (simp only [List.getElem?_toArray, List.getElem?_cons_succ, List.getElem?_cons_zero]; rfl)); (case hQ52 => exact fun _ _ _ h => h); (case hw52 => rfl))
  (try simp only [Act.put, List.setIfInBounds_toArray, List.set_cons_zero, List.set_cons_succ])
  first | (refine wpAnyH_take (i := 3) (oi := ?oi53) (v := ?v53) ?hi53 (by kernel_rfl) (by kernel_rfl) (by kernel_rfl) ?hQ53 (Or.inl ⟨?hw53, ?hy53⟩) (by assumption) ?rest53; (case hi53 => (simp only [List.getElem?_toArray, List.getElem?_cons_succ, List.getElem?_cons_zero]; rfl)); (case hQ53 => exact fun _ _ _ h => h); (case hw53 => rfl); (case hy53 => ((intro w hSw); (try dsimp only at hSw); go_simp; (try with_reducible rfl)))) | (refine wpAnyH_take (i := 3) (oi := ?oi54) (v := undef) ?hi54 (by kernel_rfl) (by kernel_rfl) (by kernel_rfl) ?hQ54 (Or.inr ⟨?hw54, rfl⟩) (by assumption) ?rest54; (case hi54 => (simp only [List.getElem?_toArray, List.getElem?_cons_succ, List.getElem?_cons_zero]; rfl)); (case hQ54 => exact fun _ _ _ h => h); (case hw54 => rfl))
  (try simp only [Act.put, List.setIfInBounds_toArray, List.set_cons_zero, List.set_cons_succ])
  first | (refine wpAnyH_take (i := 4) (oi := ?oi55) (v := ?v55) ?hi55 (by kernel_rfl) (by kernel_rfl) (by kernel_rfl) ?hQ55 (Or.inl ⟨?hw55, ?hy55⟩) (by assumption) ?rest55; (case hi55 => (simp only [List.getElem?_toArray, List.getElem?_cons_succ, List.getElem?_cons_zero]; rfl)); (case hQ55 => exact fun _ _ _ h => h); (case hw55 => rfl); (case hy55 => ((intro w hSw); (try dsimp only at hSw); go_simp; (try with_reducible rfl)))) | (refine wpAnyH_take (i := 4) (oi := ?oi56) (v := undef) ?hi56 (by kernel_rfl) (by kernel_rfl) (by kernel_rfl) ?hQ56 (Or.inr ⟨?hw56, rfl⟩) (by assumption) ?rest56; (case hi56 => (simp only [List.getElem?_toArray, List.getElem?_cons_succ, List.getElem?_cons_zero]; rfl)); (case hQ56 => exact fun _ _ _ h => h); (case hw56 => rfl))
  (try simp only [Act.put, List.setIfInBounds_toArray, List.set_cons_zero, List.set_cons_succ])
  first | (refine wpAnyH_take (i := 6) (oi := ?oi57) (v := ?v57) ?hi57 (by kernel_rfl) (by kernel_rfl) (by kernel_rfl) ?hQ57 (Or.inl ⟨?hw57, ?hy57⟩) (by assumption) ?rest57; (case hi57 => (simp only [List.getElem?_toArray, List.getElem?_cons_succ, List.getElem?_cons_zero]; rfl)); (case hQ57 => exact fun _ _ _ h => h); (case hw57 => rfl); (case hy57 => ((intro w hSw); (try dsimp only at hSw); go_simp; (try with_reducible rfl)))) | (refine wpAnyH_take (i := 6) (oi := ?oi58) (v := undef) ?hi58 (by kernel_rfl) (by kernel_rfl) (by kernel_rfl) ?hQ58 (Or.inr ⟨?hw58, rfl⟩) (by assumption) ?rest58; (case hi58 => (simp only [List.getElem?_toArray, List.getElem?_cons_succ, List.getElem?_cons_zero]; rfl)); (case hQ58 => exact fun _ _ _ h => h); (case hw58 => rfl))
  (try simp only [Act.put, List.setIfInBounds_toArray, List.set_cons_zero, List.set_cons_succ])
  first | (refine wpAnyH_take (i := 7) (oi := ?oi59) (v := ?v59) ?hi59 (by kernel_rfl) (by kernel_rfl) (by kernel_rfl) ?hQ59 (Or.inl ⟨?hw59, ?hy59⟩) (by assumption) ?rest59; (case hi59 => (simp only [List.getElem?_toArray, List.getElem?_cons_succ, List.getElem?_cons_zero]; rfl)); (case hQ59 => exact fun _ _ _ h => h); (case hw59 => rfl); (case hy59 => ((intro w hSw); (try dsimp only at hSw); go_simp; (try with_reducible rfl)))) | (refine wpAnyH_take (i := 7) (oi := ?oi60) (v := undef) ?hi60 (by kernel_rfl) (by kernel_rfl) (by kernel_rfl) ?hQ60 (Or.inr ⟨?hw60, rfl⟩) (by assumption) ?rest60; (case hi60 => (simp only [List.getElem?_toArray, List.getElem?_cons_succ, List.getElem?_cons_zero]; rfl)); (case hQ60 => exact fun _ _ _ h => h); (case hw60 => rfl))
  (try simp only [Act.put, List.setIfInBounds_toArray, List.set_cons_zero, List.set_cons_succ])
  first | (refine wpAnyH_take (i := 9) (oi := ?oi61) (v := ?v61) ?hi61 (by kernel_rfl) (by kernel_rfl) (by kernel_rfl) ?hQ61 (Or.inl ⟨?hw61, ?hy61⟩) (by assumption) ?rest61; (case hi61 => (simp only [List.getElem?_toArray, List.getElem?_cons_succ, List.getElem?_cons_zero]; rfl)); (case hQ61 => exact fun _ _ _ h => h); (case hw61 => rfl); (case hy61 => ((intro w hSw); (try dsimp only at hSw); go_simp; (try with_reducible rfl)))) | (refine wpAnyH_take (i := 9) (oi := ?oi62) (v := undef) ?hi62 (by kernel_rfl) (by kernel_rfl) (by kernel_rfl) ?hQ62 (Or.inr ⟨?hw62, rfl⟩) (by assumption) ?rest62; (case hi62 => (simp only [List.getElem?_toArray, List.getElem?_cons_succ, List.getElem?_cons_zero]; rfl)); (case hQ62 => exact fun _ _ _ h => h); (case hw62 => rfl))
  (try simp only [Act.put, List.setIfInBounds_toArray, List.set_cons_zero, List.set_cons_succ])
  first | (refine wpAnyH_take (i := 10) (oi := ?oi63) (v := ?v63) ?hi63 (by kernel_rfl) (by kernel_rfl) (by kernel_rfl) ?hQ63 (Or.inl ⟨?hw63, ?hy63⟩) (by assumption) ?rest63; (case hi63 => (simp only [List.getElem?_toArray, List.getElem?_cons_succ, List.getElem?_cons_zero]; rfl)); (case hQ63 => exact fun _ _ _ h => h); (case hw63 => rfl); (case hy63 => ((intro w hSw); (try dsimp only at hSw); go_simp; (try with_reducible rfl)))) | (refine wpAnyH_take (i := 10) (oi := ?oi64) (v := undef) ?hi64 (by kernel_rfl) (by kernel_rfl) (by kernel_rfl) ?hQ64 (Or.inr ⟨?hw64, rfl⟩) (by assumption) ?rest64; (case hi64 => (simp only [List.getElem?_toArray, List.getElem?_cons_succ, List.getElem?_cons_zero]; rfl)); (case hQ64 => exact fun _ _ _ h => h); (case hw64 => rfl))
  (try simp only [Act.put, List.setIfInBounds_toArray, List.set_cons_zero, List.set_cons_succ])
  first | (refine wpAnyH_take (i := 12) (oi := ?oi65) (v := ?v65) ?hi65 (by kernel_rfl) (by kernel_rfl) (by kernel_rfl) ?hQ65 (Or.inl ⟨?hw65, ?hy65⟩) (by assumption) ?rest65; (case hi65 => (simp only [List.getElem?_toArray, List.getElem?_cons_succ, List.getElem?_cons_zero]; rfl)); (case hQ65 => exact fun _ _ _ h => h); (case hw65 => rfl); (case hy65 => ((intro w hSw); (try dsimp only at hSw); go_simp; (try with_reducible rfl)))) | (refine wpAnyH_take (i := 12) (oi := ?oi66) (v := undef) ?hi66 (by kernel_rfl) (by kernel_rfl) (by kernel_rfl) ?hQ66 (Or.inr ⟨?hw66, rfl⟩) (by assumption) ?rest66; (case hi66 => (simp only [List.getElem?_toArray, List.getElem?_cons_succ, List.getElem?_cons_zero]; rfl)); (case hQ66 => exact fun _ _ _ h => h); (case hw66 => rfl))
  (try simp only [Act.put, List.setIfInBounds_toArray, List.set_cons_zero, List.set_cons_succ])
  first | (refine wpAnyH_take (i := 13) (oi := ?oi67) (v := ?v67) ?hi67 (by kernel_rfl) (by kernel_rfl) (by kernel_rfl) ?hQ67 (Or.inl ⟨?hw67, ?hy67⟩) (by assumption) ?rest67; (case hi67 => (simp only [List.getElem?_toArray, List.getElem?_cons_succ, List.getElem?_cons_zero]; rfl)); (case hQ67 => exact fun _ _ _ h => h); (case hw67 => rfl); (case hy67 => ((intro w hSw); (try dsimp only at hSw); go_simp; (try with_reducible rfl)))) | (refine wpAnyH_take (i := 13) (oi := ?oi68) (v := undef) ?hi68 (by kernel_rfl) (by kernel_rfl) (by kernel_rfl) ?hQ68 (Or.inr ⟨?hw68, rfl⟩) (by assumption) ?rest68; (case hi68 => (simp only [List.getElem?_toArray, List.getElem?_cons_succ, List.getElem?_cons_zero]; rfl)); (case hQ68 => exact fun _ _ _ h => h); (case hw68 => rfl))
  (try simp only [Act.put, List.setIfInBounds_toArray, List.set_cons_zero, List.set_cons_succ])
  first | (refine wpAnyH_take (i := 15) (oi := ?oi69) (v := ?v69) ?hi69 (by kernel_rfl) (by kernel_rfl) (by kernel_rfl) ?hQ69 (Or.inl ⟨?hw69, ?hy69⟩) (by assumption) ?rest69; (case hi69 => (simp only [List.getElem?_toArray, List.getElem?_cons_succ, List.getElem?_cons_zero]; rfl)); (case hQ69 => exact fun _ _ _ h => h); (case hw69 => rfl); (case hy69 => ((intro w hSw); (try dsimp only at hSw); go_simp; (try with_reducible rfl)))) | (refine wpAnyH_take (i := 15) (oi := ?oi70) (v := undef) ?hi70 (by kernel_rfl) (by kernel_rfl) (by kernel_rfl) ?hQ70 (Or.inr ⟨?hw70, rfl⟩) (by assumption) ?rest70; (case hi70 => (simp only [List.getElem?_toArray, List.getElem?_cons_succ, List.getElem?_cons_zero]; rfl)); (case hQ70 => exact fun _ _ _ h => h); (case hw70 => rfl))
  (try simp only [Act.put, List.setIfInBounds_toArray, List.set_cons_zero, List.set_cons_succ])
  first | (refine wpAnyH_take (i := 16) (oi := ?oi71) (v := ?v71) ?hi71 (by kernel_rfl) (by kernel_rfl) (by kernel_rfl) ?hQ71 (Or.inl ⟨?hw71, ?hy71⟩) (by assumption) ?rest71; (case hi71 => (simp only [List.getElem?_toArray, List.getElem?_cons_succ, List.getElem?_cons_zero]; rfl)); (case hQ71 => exact fun _ _ _ h => h); (case hw71 => rfl); (case hy71 => ((intro w hSw); (try dsimp only at hSw); go_simp; (try with_reducible rfl)))) | (refine wpAnyH_take (i := 16) (oi := ?oi72) (v := undef) ?hi72 (by kernel_rfl) (by kernel_rfl) (by kernel_rfl) ?hQ72 (Or.inr ⟨?hw72, rfl⟩) (by assumption) ?rest72; (case hi72 => (simp only [List.getElem?_toArray, List.getElem?_cons_succ, List.getElem?_cons_zero]; rfl)); (case hQ72 => exact fun _ _ _ h => h); (case hw72 => rfl))
  (try simp only [Act.put, List.setIfInBounds_toArray, List.set_cons_zero, List.set_cons_succ])
  first | (refine wpAnyH_take (i := 18) (oi := ?oi73) (v := ?v73) ?hi73 (by kernel_rfl) (by kernel_rfl) (by kernel_rfl) ?hQ73 (Or.inl ⟨?hw73, ?hy73⟩) (by assumption) ?rest73; (case hi73 => (simp only [List.getElem?_toArray, List.getElem?_cons_succ, List.getElem?_cons_zero]; rfl)); (case hQ73 => exact fun _ _ _ h => h); (case hw73 => rfl); (case hy73 => ((intro w hSw); (try dsimp only at hSw); go_simp; (try with_reducible rfl)))) | (refine wpAnyH_take (i := 18) (oi := ?oi74) (v := undef) ?hi74 (by kernel_rfl) (by kernel_rfl) (by kernel_rfl) ?hQ74 (Or.inr ⟨?hw74, rfl⟩) (by assumption) ?rest74; (case hi74 => (simp only [List.getElem?_toArray, List.getElem?_cons_succ, List.getElem?_cons_zero]; rfl)); (case hQ74 => exact fun _ _ _ h => h); (case hw74 => rfl))
  (try simp only [Act.put, List.setIfInBounds_toArray, List.set_cons_zero, List.set_cons_succ])
  first | (refine wpAnyH_take (i := 19) (oi := ?oi75) (v := ?v75) ?hi75 (by kernel_rfl) (by kernel_rfl) (by kernel_rfl) ?hQ75 (Or.inl ⟨?hw75, ?hy75⟩) (by assumption) ?rest75; (case hi75 => (simp only [List.getElem?_toArray, List.getElem?_cons_succ, List.getElem?_cons_zero]; rfl)); (case hQ75 => exact fun _ _ _ h => h); (case hw75 => rfl); (case hy75 => ((intro w hSw); (try dsimp only at hSw); go_simp; (try with_reducible rfl)))) | (refine wpAnyH_take (i := 19) (oi := ?oi76) (v := undef) ?hi76 (by kernel_rfl) (by kernel_rfl) (by kernel_rfl) ?hQ76 (Or.inr ⟨?hw76, rfl⟩) (by assumption) ?rest76; (case hi76 => (simp only [List.getElem?_toArray, List.getElem?_cons_succ, List.getElem?_cons_zero]; rfl)); (case hQ76 => exact fun _ _ _ h => h); (case hw76 => rfl))
  (try simp only [Act.put, List.setIfInBounds_toArray, List.set_cons_zero, List.set_cons_succ])
  first | (refine wpAnyH_take (i := 21) (oi := ?oi77) (v := ?v77) ?hi77 (by kernel_rfl) (by kernel_rfl) (by kernel_rfl) ?hQ77 (Or.inl ⟨?hw77, ?hy77⟩) (by assumption) ?rest77; (case hi77 => (simp only [List.getElem?_toArray, List.getElem?_cons_succ, List.getElem?_cons_zero]; rfl)); (case hQ77 => exact fun _ _ _ h => h); (case hw77 => rfl); (case hy77 => ((intro w hSw); (try dsimp only at hSw); go_simp; (try with_reducible rfl)))) | (refine wpAnyH_take (i := 21) (oi := ?oi78) (v := undef) ?hi78 (by kernel_rfl) (by kernel_rfl) (by kernel_rfl) ?hQ78 (Or.inr ⟨?hw78, rfl⟩) (by assumption) ?rest78; (case hi78 => (simp only [List.getElem?_toArray, List.getElem?_cons_succ, List.getElem?_cons_zero]; rfl)); (case hQ78 => exact fun _ _ _ h => h); (case hw78 => rfl))
  (try simp only [Act.put, List.setIfInBounds_toArray, List.set_cons_zero, List.set_cons_succ])
  first | (refine wpAnyH_take (i := 22) (oi := ?oi79) (v := ?v79) ?hi79 (by kernel_rfl) (by kernel_rfl) (by kernel_rfl) ?hQ79 (Or.inl ⟨?hw79, ?hy79⟩) (by assumption) ?rest79; (case hi79 => (simp only [List.getElem?_toArray, List.getElem?_cons_succ, List.getElem?_cons_zero]; rfl)); (case hQ79 => exact fun _ _ _ h => h); (case hw79 => rfl); (case hy79 => ((intro w hSw); (try dsimp only at hSw); go_simp; (try with_reducible rfl)))) | (refine wpAnyH_take (i := 22) (oi := ?oi80) (v := undef) ?hi80 (by kernel_rfl) (by kernel_rfl) (by kernel_rfl) ?hQ80 (Or.inr ⟨?hw80, rfl⟩) (by assumption) ?rest80; (case hi80 => (simp only [List.getElem?_toArray, List.getElem?_cons_succ, List.getElem?_cons_zero]; rfl)); (case hQ80 => exact fun _ _ _ h => h); (case hw80 => rfl))
  (try simp only [Act.put, List.setIfInBounds_toArray, List.set_cons_zero, List.set_cons_succ])
  first | (refine wpAnyH_take (i := 24) (oi := ?oi81) (v := ?v81) ?hi81 (by kernel_rfl) (by kernel_rfl) (by kernel_rfl) ?hQ81 (Or.inl ⟨?hw81, ?hy81⟩) (by assumption) ?rest81; (case hi81 => (simp only [List.getElem?_toArray, List.getElem?_cons_succ, List.getElem?_cons_zero]; rfl)); (case hQ81 => exact fun _ _ _ h => h); (case hw81 => rfl); (case hy81 => ((intro w hSw); (try dsimp only at hSw); go_simp; (try with_reducible rfl)))) | (refine wpAnyH_take (i := 24) (oi := ?oi82) (v := undef) ?hi82 (by kernel_rfl) (by kernel_rfl) (by kernel_rfl) ?hQ82 (Or.inr ⟨?hw82, rfl⟩) (by assumption) ?rest82; (case hi82 => (simp only [List.getElem?_toArray, List.getElem?_cons_succ, List.getElem?_cons_zero]; rfl)); (case hQ82 => exact fun _ _ _ h => h); (case hw82 => rfl))
  (try simp only [Act.put, List.setIfInBounds_toArray, List.set_cons_zero, List.set_cons_succ])
  first | (refine wpAnyH_take (i := 25) (oi := ?oi83) (v := ?v83) ?hi83 (by kernel_rfl) (by kernel_rfl) (by kernel_rfl) ?hQ83 (Or.inl ⟨?hw83, ?hy83⟩) (by assumption) ?rest83; (case hi83 => (simp only [List.getElem?_toArray, List.getElem?_cons_succ, List.getElem?_cons_zero]; rfl)); (case hQ83 => exact fun _ _ _ h => h); (case hw83 => rfl); (case hy83 => ((intro w hSw); (try dsimp only at hSw); go_simp; (try with_reducible rfl)))) | (refine wpAnyH_take (i := 25) (oi := ?oi84) (v := undef) ?hi84 (by kernel_rfl) (by kernel_rfl) (by kernel_rfl) ?hQ84 (Or.inr ⟨?hw84, rfl⟩) (by assumption) ?rest84; (case hi84 => (simp only [List.getElem?_toArray, List.getElem?_cons_succ, List.getElem?_cons_zero]; rfl)); (case hQ84 => exact fun _ _ _ h => h); (case hw84 => rfl))
  (try simp only [Act.put, List.setIfInBounds_toArray, List.set_cons_zero, List.set_cons_succ])
  refine wpAnyH_ready (rs := [2]) (by kernel_rfl) (by simp) ?_
  refine AllReadyH.cons (o := ?oi85) ?hi85 (fun K hK => ?rest85) AllReadyH.nil
  (case hi85 => (simp only [List.getElem?_toArray, List.getElem?_cons_succ, List.getElem?_cons_zero]; rfl))
  obtain ⟨s0, s1, s2, s3, s4, s5, s6, s7, s8, s9, s10, s11, s12⟩ := hHeld
  go_simp
  ((with_reducible refine (H0.out _).mono ?_); rintro e wx0 ⟨rfl, hb⟩)
  replace HW := Lib.hid (below_step HW.out hb)
  refine hK.out _ _ ?_ (fun hHeld => ?_)
  · (try dsimp only); exact ⟨cel_below hb s0, cel_below hb s1, cel_below hb s2, cel_below hb s3, cel_below hb s4, cel_below hb s5, cel_below hb s6, cel_below hb s7, cel_below hb s8, cel_below hb s9, cel_below hb s10, cel_below hb s11, cel_below hb s12⟩
  clear hK K s0 s1 s2 s3 s4 s5 s6 s7 s8 s9 s10 s11 s12 hb
  (try simp only [Act.put, List.setIfInBounds_toArray, List.set_cons_zero, List.set_cons_succ])
  refine wpAnyH_ready (rs := [5]) (by kernel_rfl) (by simp) ?_
  refine AllReadyH.cons (o := ?oi86) ?hi86 (fun K hK => ?rest86) AllReadyH.nil
  (case hi86 => (simp only [List.getElem?_toArray, List.getElem?_cons_succ, List.getElem?_cons_zero]; rfl))
  obtain ⟨s0, s1, s2, s3, s4, s5, s6, s7, s8, s9, s10, s11, s12⟩ := hHeld
  go_simp
  ((with_reducible refine (H1.out _).mono ?_); rintro e wx1 ⟨rfl, hb⟩)
  replace HW := Lib.hid (below_step HW.out hb)
  refine hK.out _ _ ?_ (fun hHeld => ?_)
  · (try dsimp only); exact ⟨cel_below hb s0, cel_below hb s1, cel_below hb s2, cel_below hb s3, cel_below hb s4, cel_below hb s5, cel_below hb s6, cel_below hb s7, cel_below hb s8, cel_below hb s9, cel_below hb s10, cel_below hb s11, cel_below hb s12⟩
  clear hK K s0 s1 s2 s3 s4 s5 s6 s7 s8 s9 s10 s11 s12 hb
  (try simp only [Act.put, List.setIfInBounds_toArray, List.set_cons_zero, List.set_cons_succ])
  refine wpAnyH_ready (rs := [8]) (by kernel_rfl) (by simp) ?_
  refine AllReadyH.cons (o := ?oi87) ?hi87 (fun K hK => ?rest87) AllReadyH.nil
  (case hi87 => (simp only [List.getElem?_toArray, List.getElem?_cons_succ, List.getElem?_cons_zero]; rfl))
  obtain ⟨s0, s1, s2, s3, s4, s5, s6, s7, s8, s9, s10, s11, s12⟩ := hHeld
  go_simp
  ((with_reducible refine (H2.out _).mono ?_); rintro e wx2 ⟨rfl, hb⟩)
  replace HW := Lib.hid (below_step HW.out hb)
  refine hK.out _ _ ?_ (fun hHeld => ?_)
  · (try dsimp only); exact ⟨cel_below hb s0, cel_below hb s1, cel_below hb s2, cel_below hb s3, cel_below hb s4, cel_below hb s5, cel_below hb s6, cel_below hb s7, cel_below hb s8, cel_below hb s9, cel_below hb s10, cel_below hb s11, cel_below hb s12⟩
  clear hK K s0 s1 s2 s3 s4 s5 s6 s7 s8 s9 s10 s11 s12 hb
  (try simp only [Act.put, List.setIfInBounds_toArray, List.set_cons_zero, List.set_cons_succ])
  refine wpAnyH_ready (rs := [11]) (by kernel_rfl) (by simp) ?_
  refine AllReadyH.cons (o := ?oi88) ?hi88 (fun K hK => ?rest88) AllReadyH.nil
  (case hi88 => (simp only [List.getElem?_toArray, List.getElem?_cons_succ, List.getElem?_cons_zero]; rfl))
  obtain ⟨s0, s1, s2, s3, s4, s5, s6, s7, s8, s9, s10, s11, s12⟩ := hHeld
  go_simp
  ((with_reducible refine (H3.out _).mono ?_); rintro e wx3 ⟨rfl, hb⟩)
  replace HW := Lib.hid (below_step HW.out hb)
  refine hK.out _ _ ?_ (fun hHeld => ?_)
  · (try dsimp only); exact ⟨cel_below hb s0, cel_below hb s1, cel_below hb s2, cel_below hb s3, cel_below hb s4, cel_below hb s5, cel_below hb s6, cel_below hb s7, cel_below hb s8, cel_below hb s9, cel_below hb s10, cel_below hb s11, cel_below hb s12⟩
  clear hK K s0 s1 s2 s3 s4 s5 s6 s7 s8 s9 s10 s11 s12 hb
  (try simp only [Act.put, List.setIfInBounds_toArray, List.set_cons_zero, List.set_cons_succ])
  refine wpAnyH_ready (rs := [14]) (by kernel_rfl) (by simp) ?_
  refine AllReadyH.cons (o := ?oi89) ?hi89 (fun K hK => ?rest89) AllReadyH.nil
  (case hi89 => (simp only [List.getElem?_toArray, List.getElem?_cons_succ, List.getElem?_cons_zero]; rfl))
  obtain ⟨s0, s1, s2, s3, s4, s5, s6, s7, s8, s9, s10, s11, s12⟩ := hHeld
  go_simp
  ((with_reducible refine (H4.out _).mono ?_); rintro e wx4 ⟨rfl, hb⟩)
  replace HW := Lib.hid (below_step HW.out hb)
  refine hK.out _ _ ?_ (fun hHeld => ?_)
  · (try dsimp only); exact ⟨cel_below hb s0, cel_below hb s1, cel_below hb s2, cel_below hb s3, cel_below hb s4, cel_below hb s5, cel_below hb s6, cel_below hb s7, cel_below hb s8, cel_below hb s9, cel_below hb s10, cel_below hb s11, cel_below hb s12⟩
  clear hK K s0 s1 s2 s3 s4 s5 s6 s7 s8 s9 s10 s11 s12 hb
  (try simp only [Act.put, List.setIfInBounds_toArray, List.set_cons_zero, List.set_cons_succ])
  refine wpAnyH_ready (rs := [17]) (by kernel_rfl) (by simp) ?_
  refine AllReadyH.cons (o := ?oi90) ?hi90 (fun K hK => ?rest90) AllReadyH.nil
  (case hi90 => (simp only [List.getElem?_toArray, List.getElem?_cons_succ, List.getElem?_cons_zero]; rfl))
  obtain ⟨s0, s1, s2, s3, s4, s5, s6, s7, s8, s9, s10, s11, s12⟩ := hHeld
  go_simp
  ((with_reducible refine (H5.out _).mono ?_); rintro e wx5 ⟨rfl, hb⟩)
  replace HW := Lib.hid (below_step HW.out hb)
  refine hK.out _ _ ?_ (fun hHeld => ?_)
  · (try dsimp only); exact ⟨cel_below hb s0, cel_below hb s1, cel_below hb s2, cel_below hb s3, cel_below hb s4, cel_below hb s5, cel_below hb s6, cel_below hb s7, cel_below hb s8, cel_below hb s9, cel_below hb s10, cel_below hb s11, cel_below hb s12⟩
  clear hK K s0 s1 s2 s3 s4 s5 s6 s7 s8 s9 s10 s11 s12 hb
  (try simp only [Act.put, List.setIfInBounds_toArray, List.set_cons_zero, List.set_cons_succ])
  refine wpAnyH_ready (rs := [20]) (by kernel_rfl) (by simp) ?_
  refine AllReadyH.cons (o := ?oi91) ?hi91 (fun K hK => ?rest91) AllReadyH.nil
  (case hi91 => (simp only [List.getElem?_toArray, List.getElem?_cons_succ, List.getElem?_cons_zero]; rfl))
  obtain ⟨s0, s1, s2, s3, s4, s5, s6, s7, s8, s9, s10, s11, s12⟩ := hHeld
  go_simp
  ((with_reducible refine (H6.out _).mono ?_); rintro e wx6 ⟨rfl, hb⟩)
  replace HW := Lib.hid (below_step HW.out hb)
  refine hK.out _ _ ?_ (fun hHeld => ?_)
  · (try dsimp only); exact ⟨cel_below hb s0, cel_below hb s1, cel_below hb s2, cel_below hb s3, cel_below hb s4, cel_below hb s5, cel_below hb s6, cel_below hb s7, cel_below hb s8, cel_below hb s9, cel_below hb s10, cel_below hb s11, cel_below hb s12⟩
  clear hK K s0 s1 s2 s3 s4 s5 s6 s7 s8 s9 s10 s11 s12 hb
  (try simp only [Act.put, List.setIfInBounds_toArray, List.set_cons_zero, List.set_cons_succ])
  refine wpAnyH_ready (rs := [23]) (by kernel_rfl) (by simp) ?_
  refine AllReadyH.cons (o := ?oi92) ?hi92 (fun K hK => ?rest92) AllReadyH.nil
  (case hi92 => (simp only [List.getElem?_toArray, List.getElem?_cons_succ, List.getElem?_cons_zero]; rfl))
  obtain ⟨s0, s1, s2, s3, s4, s5, s6, s7, s8, s9, s10, s11, s12⟩ := hHeld
  go_simp
  ((with_reducible refine (H7.out _).mono ?_); rintro e wx7 ⟨rfl, hb⟩)
  replace HW := Lib.hid (below_step HW.out hb)
  refine hK.out _ _ ?_ (fun hHeld => ?_)
  · (try dsimp only); exact ⟨cel_below hb s0, cel_below hb s1, cel_below hb s2, cel_below hb s3, cel_below hb s4, cel_below hb s5, cel_below hb s6, cel_below hb s7, cel_below hb s8, cel_below hb s9, cel_below hb s10, cel_below hb s11, cel_below hb s12⟩
  clear hK K s0 s1 s2 s3 s4 s5 s6 s7 s8 s9 s10 s11 s12 hb
  (try simp only [Act.put, List.setIfInBounds_toArray, List.set_cons_zero, List.set_cons_succ])
  refine wpAnyH_ready (rs := [26]) (by kernel_rfl) (by simp) ?_
  refine AllReadyH.cons (o := ?oi93) ?hi93 (fun K hK => ?rest93) AllReadyH.nil
  (case hi93 => (simp only [List.getElem?_toArray, List.getElem?_cons_succ, List.getElem?_cons_zero]; rfl))
  obtain ⟨s0, s1, s2, s3, s4, s5, s6, s7, s8, s9, s10, s11, s12⟩ := hHeld
  go_simp
  ((with_reducible refine (H8.out _).mono ?_); rintro e wx8 ⟨rfl, hb⟩)
  replace HW := Lib.hid (below_step HW.out hb)
  have HG8 := Lib.hid HW.out.size
  refine hK.out _ _ ?_ (fun hHeld => ?_)
  · (try dsimp only); exact ⟨cel_below hb s0, cel_below hb s1, cel_below hb s2, cel_below hb s3, cel_below hb s4, cel_below hb s5, cel_below hb s6, cel_below hb s7, cel_below hb s8, cel_below hb s9, cel_below hb s10, cel_below hb s11, cel_below hb s12⟩
  clear hK K s0 s1 s2 s3 s4 s5 s6 s7 s8 s9 s10 s11 s12 hb
  (try simp only [Act.put, List.setIfInBounds_toArray, List.set_cons_zero, List.set_cons_succ])
  refine wpAnyH_ready (rs := [27]) (by kernel_rfl) (by simp) ?_
  refine AllReadyH.cons (o := ?oi94) ?hi94 (fun K hK => ?rest94) AllReadyH.nil
  (case hi94 => (simp only [List.getElem?_toArray, List.getElem?_cons_succ, List.getElem?_cons_zero]; rfl))
  obtain ⟨s0, s1, s2, s3, s4, s5, s6, s7, s8, s9, s10, s11, s12⟩ := hHeld
  go_simp
  replace HW := Lib.hid (below_step HW.out (below_new1 _ (.cells #[.int .i64 v0, .int .i64 v1, .int .i64 v2, .int .i64 v3, .int .i64 v4, .int .i64 v5, .int .i64 v6, .int .i64 v7, .int .i64 v8] 3)))
  refine hK.out _ _ ?_ (fun hHeld => ?_)
  · (try dsimp only); exact ⟨cell_alloc _ s0, cell_alloc _ s1, cell_alloc _ s2, cell_alloc _ s3, cell_alloc _ s4, cell_alloc _ s5, cell_alloc _ s6, cell_alloc _ s7, cell_alloc _ s8, cell_alloc _ s9, cell_alloc _ s10, cell_alloc _ s11, cell_alloc _ s12⟩
  clear hK K s0 s1 s2 s3 s4 s5 s6 s7 s8 s9 s10 s11 s12
  (try simp only [Act.put, List.setIfInBounds_toArray, List.set_cons_zero, List.set_cons_succ])
  first | (refine wpAnyH_take (i := 28) (oi := ?oi95) (v := ?v95) ?hi95 (by kernel_rfl) (by kernel_rfl) (by kernel_rfl) ?hQ95 (Or.inl ⟨?hw95, ?hy95⟩) (by assumption) ?rest95; (case hi95 => (simp only [List.getElem?_toArray, List.getElem?_cons_succ, List.getElem?_cons_zero]; rfl)); (case hQ95 => exact fun _ _ _ h => h); (case hw95 => rfl); (case hy95 => ((intro w hSw); (try dsimp only at hSw); go_simp; (try with_reducible rfl)))) | (refine wpAnyH_take (i := 28) (oi := ?oi96) (v := undef) ?hi96 (by kernel_rfl) (by kernel_rfl) (by kernel_rfl) ?hQ96 (Or.inr ⟨?hw96, rfl⟩) (by assumption) ?rest96; (case hi96 => (simp only [List.getElem?_toArray, List.getElem?_cons_succ, List.getElem?_cons_zero]; rfl)); (case hQ96 => exact fun _ _ _ h => h); (case hw96 => rfl))
  (try simp only [Act.put, List.setIfInBounds_toArray, List.set_cons_zero, List.set_cons_succ])
  refine wpAnyH_done (by kernel_rfl) ?_ _
  obtain ⟨s0, s1, s2, s3, s4, s5, s6, s7, s8, s9, s10, s11, s12⟩ := hHeld
  go_wp2
  go_ret
  exact ⟨_, rfl, HG8.out, by rw [HP.out]; exact hasInts_new15 _ rfl rfl (by simp) rfl, HW.out⟩

theorem rall15_any (l : Ly) (n : Int) (w : World) (hok : l.ok) : Calls Try.prog 30 #[l.v, .int .i64 n] w fun e w' => ∃ u, e = .returned u ∧ HasInts w' u (placesL l n) ∧ Below w.heap.size w w' :=
  (rall15F_any l n w hok).mono fun e w' ⟨g, he, _, hi, hb⟩ => ⟨_, he, hi, hb⟩

end Go.Proofs.Ytimjodpndhckdaa
