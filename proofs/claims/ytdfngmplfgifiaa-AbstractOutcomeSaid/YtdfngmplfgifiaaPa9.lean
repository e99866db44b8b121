/-
  Merged: AbsD, AbsE
-/
import Derived.Test.YtdfngmplfgifiaaRows
import Derived.Test.YtdfngmplfgifiaaPa1
import Derived.Test.YtdfngmplfgifiaaPa2
import Derived.Test.YtdfngmplfgifiaaPa3
import Derived.Test.YtdfngmplfgifiaaPa4
import Derived.WalkKit
import Derived.WalkLawsBesides
import Derived.Lib.Hide

/-
  Layer 17: Resolve, the own status asked.
-/
namespace Go.Proofs.Ytdfngmplfgifiaa
set_option linter.unusedVariables false
set_option linter.unusedSimpArgs false
set_option maxRecDepth 100000
set_option maxHeartbeats 4000000
open Go.ChangeShapes Go.WideShapes Go.ChangeAt Go.RowKit

theorem resR_own0 (w : World) (g : Nat) (L : Ly) (hok : L.ok) (me other : Int) (m : Ct)  (h0 : RunAt w g []) :
    Calls Try.prog 83 #[caseV L me other true m, .pointer (some ⟨g, 0, none⟩)] w fun e w' => e = .panicked [{ v := .iface 122 (Ask.v ⟨1, atStatus L me, 0, 0⟩), recovered := false }] ∧ w.grownBy w' (some g) := by
  unfold caseV
  have HM : Hid (∀ w, Calls Try.prog 39 #[L.v, .int .i64 me] w fun e w' => e = .returned (.int .i64 (atStatus L me)) ∧ Below w.heap.size w w') := Lib.hid (fun w => status_any L me w hok)
  have HS : Hid (∀ w, Calls Try.prog 39 #[L.v, .int .i64 other] w fun e w' => e = .returned (.int .i64 (atStatus L other)) ∧ Below w.heap.size w w') := Lib.hid (fun w => status_any L other w hok)
  have HT : Hid (∀ w, Calls Try.prog 37 #[L.v, .int .i64 other] w fun e w' => e = .returned (.int .i64 (atStamp L other)) ∧ Below w.heap.size w w') := Lib.hid (fun w => stamp_any L other w hok)
  have HK : Hid (∀ w, Calls Try.prog 38 #[L.v, .int .i64 other] w fun e w' => e = .returned (.int .i64 (atKarma L other)) ∧ Below w.heap.size w w') := Lib.hid (fun w => karma_any L other w hok)
  unfold Ly.v at HM HS HT HK
  have hg0 := runAt_lt h0
  have G : w.grownBy w (some g) := gb_refl _ _
  have hS0 : w.heap.size + 0 ≤ w.heap.size := Nat.le_refl _
  go_enter Try.func83, Try.ntmps83
  go_wp2_with fail
  obtain ⟨w1, hwr⟩ : ∃ W, W = ((w.alloc (.cells #[.int .i64 L.c.t, .int .i64 L.c.l, .int .i64 L.c.k, .int .i64 L.c.s, .int .i64 L.c.m, .int .i64 L.clock, .int .i64 L.stamps, .int .i64 L.log, .int .i64 L.fin, .int .i64 L.thread, .int .i64 L.lock, .int .i64 L.loc, .int .i64 L.size, .int .i64 me, .int .i64 other, .bool true, .int .i64 m.s, .int .i64 m.k, .int .i64 m.a, .func (.func 82) #[] #[]] 131)).alloc (.cells #[.int .i64 0, .int .i64 0, .int .i64 0, .int .i64 0, .bool false, .bool false, .int .i64 0] 42)) := ⟨_, rfl⟩
  rw [← hwr]
  have hb : Below w.heap.size w w1 := by rw [hwr]; exact (Below.alloc (Below.alloc (Below.refl _ _) (by first | exact Nat.le_refl _ | (simp; omega) | simp) _) (by first | exact Nat.le_refl _ | (simp; omega) | simp) _)
  have cc : CellsAt w1 (w.heap.size) [.int .i64 L.c.t, .int .i64 L.c.l, .int .i64 L.c.k, .int .i64 L.c.s, .int .i64 L.c.m, .int .i64 L.clock, .int .i64 L.stamps, .int .i64 L.log, .int .i64 L.fin, .int .i64 L.thread, .int .i64 L.lock, .int .i64 L.loc, .int .i64 L.size, .int .i64 me, .int .i64 other, .bool true, .int .i64 m.s, .int .i64 m.k, .int .i64 m.a, .func (.func 82) #[] #[]] := by rw [hwr]; exact (cellsAt_alloc (cellsAt_new' w _ _ (w.heap.size) (by simp)) _)
  have ccz : w.heap.size < w1.heap.size := World.block_lt_of_cell? _ _ (cc 0 _ rfl)
  have oz : OutZ w1 (w.heap.size + 1) := by rw [hwr]; exact (OutZ.new' (w.alloc (.cells #[.int .i64 L.c.t, .int .i64 L.c.l, .int .i64 L.c.k, .int .i64 L.c.s, .int .i64 L.c.m, .int .i64 L.clock, .int .i64 L.stamps, .int .i64 L.log, .int .i64 L.fin, .int .i64 L.thread, .int .i64 L.lock, .int .i64 L.loc, .int .i64 L.size, .int .i64 me, .int .i64 other, .bool true, .int .i64 m.s, .int .i64 m.k, .int .i64 m.a, .func (.func 82) #[] #[]] 131)) _ (w.heap.size + 1) (by simp))
  have ozz : w.heap.size + 1 < w1.heap.size := OutZ.lt oz
  have h1 := runAt_keep h0 hb
  replace G := gb_trans G (gb_of_below (some g) hb)
  clear hb hwr
  replace hS0 := G.size
  have cc_4 := cc 4 _ rfl
  have cc_13 := cc 13 _ rfl
  have cc_14 := cc 14 _ rfl
  have cc_15 := cc 15 _ rfl
  have cc_16 := cc 16 _ rfl
  have cc_17 := cc 17 _ rfl
  have cc_18 := cc 18 _ rfl
  have cc_19 := cc 19 _ rfl
  go_wp2_with (first | ((with_reducible refine ld_layT cc ?a43 ?h43); (case a43 => exact ⟨_, rfl, rfl, rfl⟩)) | ((with_reducible refine ld_case cc rfl ?a44 ?h44); (case a44 => exact ⟨_, rfl, rfl, rfl⟩)))
  ((with_reducible refine (HM.out _).mono ?_); rintro e w2 ⟨rfl, hb⟩)
  clear cc_4 cc_13 cc_14 cc_15 cc_16 cc_17 cc_18 cc_19
  have hsz := hb.size
  (try simp at hsz)
  replace cc := cellsAt_keep cc hb
  replace oz := OutZ.below oz hb
  replace ccz : w.heap.size < w2.heap.size := by omega
  replace ozz : w.heap.size + 1 < w2.heap.size := by omega
  have h2 := runAt_keep h1 hb
  replace G := gb_trans G (gb_of_below (some g) hb)
  clear hb hsz
  replace hS0 := G.size
  have cc_4 := cc 4 _ rfl
  have cc_13 := cc 13 _ rfl
  have cc_14 := cc 14 _ rfl
  have cc_15 := cc 15 _ rfl
  have cc_16 := cc 16 _ rfl
  have cc_17 := cc 17 _ rfl
  have cc_18 := cc 18 _ rfl
  have cc_19 := cc 19 _ rfl
  go_wp2_with (first | ((with_reducible refine ld_layT cc ?a45 ?h45); (case a45 => exact ⟨_, rfl, rfl, rfl⟩)) | ((with_reducible refine ld_case cc rfl ?a46 ?h46); (case a46 => exact ⟨_, rfl, rfl, rfl⟩)))
  ((with_reducible refine (load_none _ g _ h2).mono ?_); rintro e w3 ⟨rfl, hb⟩)
  exact ⟨rfl, rfl, gb_trans G (gb_of_below (some g) hb)⟩

theorem resR_own3 (w : World) (g : Nat) (L : Ly) (hok : L.ok) (me other : Int) (m : Ct) (r : Int × Bool) (l : List (Int × Bool)) (h0 : RunAt w g (r :: l)) (hr : r.1 % 4 = 3) :
    Calls Try.prog 83 #[caseV L me other true m, .pointer (some ⟨g, 0, none⟩)] w fun e w' => e = .returned (OutD.v { val := 1, lost := true }) ∧ w.grownBy w' (some g) ∧ RunAt w' g l := by
  unfold caseV
  have HM : Hid (∀ w, Calls Try.prog 39 #[L.v, .int .i64 me] w fun e w' => e = .returned (.int .i64 (atStatus L me)) ∧ Below w.heap.size w w') := Lib.hid (fun w => status_any L me w hok)
  have HS : Hid (∀ w, Calls Try.prog 39 #[L.v, .int .i64 other] w fun e w' => e = .returned (.int .i64 (atStatus L other)) ∧ Below w.heap.size w w') := Lib.hid (fun w => status_any L other w hok)
  have HT : Hid (∀ w, Calls Try.prog 37 #[L.v, .int .i64 other] w fun e w' => e = .returned (.int .i64 (atStamp L other)) ∧ Below w.heap.size w w') := Lib.hid (fun w => stamp_any L other w hok)
  have HK : Hid (∀ w, Calls Try.prog 38 #[L.v, .int .i64 other] w fun e w' => e = .returned (.int .i64 (atKarma L other)) ∧ Below w.heap.size w w') := Lib.hid (fun w => karma_any L other w hok)
  unfold Ly.v at HM HS HT HK
  have hq : (r.1 % 4 == 3) = true := by simp [hr]
  have hg0 := runAt_lt h0
  have G : w.grownBy w (some g) := gb_refl _ _
  have hS0 : w.heap.size + 0 ≤ w.heap.size := Nat.le_refl _
  go_enter Try.func83, Try.ntmps83
  go_wp2_with fail
  obtain ⟨w1, hwr⟩ : ∃ W, W = ((w.alloc (.cells #[.int .i64 L.c.t, .int .i64 L.c.l, .int .i64 L.c.k, .int .i64 L.c.s, .int .i64 L.c.m, .int .i64 L.clock, .int .i64 L.stamps, .int .i64 L.log, .int .i64 L.fin, .int .i64 L.thread, .int .i64 L.lock, .int .i64 L.loc, .int .i64 L.size, .int .i64 me, .int .i64 other, .bool true, .int .i64 m.s, .int .i64 m.k, .int .i64 m.a, .func (.func 82) #[] #[]] 131)).alloc (.cells #[.int .i64 0, .int .i64 0, .int .i64 0, .int .i64 0, .bool false, .bool false, .int .i64 0] 42)) := ⟨_, rfl⟩
  rw [← hwr]
  have hb : Below w.heap.size w w1 := by rw [hwr]; exact (Below.alloc (Below.alloc (Below.refl _ _) (by first | exact Nat.le_refl _ | (simp; omega) | simp) _) (by first | exact Nat.le_refl _ | (simp; omega) | simp) _)
  have cc : CellsAt w1 (w.heap.size) [.int .i64 L.c.t, .int .i64 L.c.l, .int .i64 L.c.k, .int .i64 L.c.s, .int .i64 L.c.m, .int .i64 L.clock, .int .i64 L.stamps, .int .i64 L.log, .int .i64 L.fin, .int .i64 L.thread, .int .i64 L.lock, .int .i64 L.loc, .int .i64 L.size, .int .i64 me, .int .i64 other, .bool true, .int .i64 m.s, .int .i64 m.k, .int .i64 m.a, .func (.func 82) #[] #[]] := by rw [hwr]; exact (cellsAt_alloc (cellsAt_new' w _ _ (w.heap.size) (by simp)) _)
  have ccz : w.heap.size < w1.heap.size := World.block_lt_of_cell? _ _ (cc 0 _ rfl)
  have oz : OutZ w1 (w.heap.size + 1) := by rw [hwr]; exact (OutZ.new' (w.alloc (.cells #[.int .i64 L.c.t, .int .i64 L.c.l, .int .i64 L.c.k, .int .i64 L.c.s, .int .i64 L.c.m, .int .i64 L.clock, .int .i64 L.stamps, .int .i64 L.log, .int .i64 L.fin, .int .i64 L.thread, .int .i64 L.lock, .int .i64 L.loc, .int .i64 L.size, .int .i64 me, .int .i64 other, .bool true, .int .i64 m.s, .int .i64 m.k, .int .i64 m.a, .func (.func 82) #[] #[]] 131)) _ (w.heap.size + 1) (by simp))
  have ozz : w.heap.size + 1 < w1.heap.size := OutZ.lt oz
  have h1 := runAt_keep h0 hb
  replace G := gb_trans G (gb_of_below (some g) hb)
  clear hb hwr
  replace hS0 := G.size
  have cc_4 := cc 4 _ rfl
  have cc_13 := cc 13 _ rfl
  have cc_14 := cc 14 _ rfl
  have cc_15 := cc 15 _ rfl
  have cc_16 := cc 16 _ rfl
  have cc_17 := cc 17 _ rfl
  have cc_18 := cc 18 _ rfl
  have cc_19 := cc 19 _ rfl
  go_wp2_with (first | ((with_reducible refine ld_layT cc ?a47 ?h47); (case a47 => exact ⟨_, rfl, rfl, rfl⟩)) | ((with_reducible refine ld_case cc rfl ?a48 ?h48); (case a48 => exact ⟨_, rfl, rfl, rfl⟩)))
  ((with_reducible refine (HM.out _).mono ?_); rintro e w2 ⟨rfl, hb⟩)
  clear cc_4 cc_13 cc_14 cc_15 cc_16 cc_17 cc_18 cc_19
  have hsz := hb.size
  (try simp at hsz)
  replace cc := cellsAt_keep cc hb
  replace oz := OutZ.below oz hb
  replace ccz : w.heap.size < w2.heap.size := by omega
  replace ozz : w.heap.size + 1 < w2.heap.size := by omega
  have h2 := runAt_keep h1 hb
  replace G := gb_trans G (gb_of_below (some g) hb)
  clear hb hsz
  replace hS0 := G.size
  have cc_4 := cc 4 _ rfl
  have cc_13 := cc 13 _ rfl
  have cc_14 := cc 14 _ rfl
  have cc_15 := cc 15 _ rfl
  have cc_16 := cc 16 _ rfl
  have cc_17 := cc 17 _ rfl
  have cc_18 := cc 18 _ rfl
  have cc_19 := cc 19 _ rfl
  go_wp2_with (first | ((with_reducible refine ld_layT cc ?a49 ?h49); (case a49 => exact ⟨_, rfl, rfl, rfl⟩)) | ((with_reducible refine ld_case cc rfl ?a50 ?h50); (case a50 => exact ⟨_, rfl, rfl, rfl⟩)))
  ((with_reducible refine (load_some _ g _ _ _ h2).mono ?_); rintro e w3 ⟨rfl, h3, hb⟩)
  clear cc_4 cc_13 cc_14 cc_15 cc_16 cc_17 cc_18 cc_19
  have hsz := hb.size
  (try simp at hsz)
  replace cc := cellsAt_gb cc hb (by omega)
  replace oz := OutZ.gb oz hb (by omega)
  replace ccz : w.heap.size < w3.heap.size := by omega
  replace ozz : w.heap.size + 1 < w3.heap.size := by omega
  replace G := gb_trans G hb
  clear hb hsz
  replace hS0 := G.size
  have cc_4 := cc 4 _ rfl
  have cc_13 := cc 13 _ rfl
  have cc_14 := cc 14 _ rfl
  have cc_15 := cc 15 _ rfl
  have cc_16 := cc 16 _ rfl
  have cc_17 := cc 17 _ rfl
  have cc_18 := cc 18 _ rfl
  have cc_19 := cc 19 _ rfl
  go_wp2_with (first | ((with_reducible refine ld_layT cc ?a51 ?h51); (case a51 => exact ⟨_, rfl, rfl, rfl⟩)) | ((with_reducible refine ld_case cc rfl ?a52 ?h52); (case a52 => exact ⟨_, rfl, rfl, rfl⟩)))
  ((with_reducible refine (kind_any _ _).mono ?_); rintro e w' ⟨rfl, rfl⟩)
  have oq0 := oz.c0
  have oq1 := oz.c1
  have oq2 := oz.c2
  have oq3 := oz.c3
  have oq4 := oz.c4
  have oq5 := oz.c5
  have oq6 := oz.c6
  have of := oz.fr
  go_wp2_with (first | ((with_reducible refine ld_layT cc ?a53 ?h53); (case a53 => exact ⟨_, rfl, rfl, rfl⟩)) | ((with_reducible refine ld_case cc rfl ?a54 ?h54); (case a54 => exact ⟨_, rfl, rfl, rfl⟩)))
  obtain ⟨W, hW, k0, k1, k2, k3, k4, k5, k6⟩ := outs_at oz (.int .i64 (1)) (.int .i64 (0)) (.int .i64 (0)) (.int .i64 (0)) (.bool false) (.bool true) (.int .i64 (0))
  rw [← hW]
  simp [bodyPost, results, Try.results83, go_sem, k0, k1, k2, k3, k4, k5, k6, OutD.v]
  rw [hW]
  exact ⟨gb_outs G (by first | exact Nat.le_refl _ | omega) _ _ _ _ _ _ _, runAt_outs h3 (by omega) _ _ _ _ _ _ _⟩

theorem resR_t0 (w : World) (g : Nat) (L : Ly) (hok : L.ok) (me other : Int) (m : Ct) (r : Int × Bool)  (h0 : RunAt w g (r :: [])) (hr : ¬r.1 % 4 = 3) :
    Calls Try.prog 83 #[caseV L me other true m, .pointer (some ⟨g, 0, none⟩)] w fun e w' => e = .panicked [{ v := .iface 122 (Ask.v ⟨1, atStatus L other, 0, 0⟩), recovered := false }] ∧ w.grownBy w' (some g) := by
  unfold caseV
  have HM : Hid (∀ w, Calls Try.prog 39 #[L.v, .int .i64 me] w fun e w' => e = .returned (.int .i64 (atStatus L me)) ∧ Below w.heap.size w w') := Lib.hid (fun w => status_any L me w hok)
  have HS : Hid (∀ w, Calls Try.prog 39 #[L.v, .int .i64 other] w fun e w' => e = .returned (.int .i64 (atStatus L other)) ∧ Below w.heap.size w w') := Lib.hid (fun w => status_any L other w hok)
  have HT : Hid (∀ w, Calls Try.prog 37 #[L.v, .int .i64 other] w fun e w' => e = .returned (.int .i64 (atStamp L other)) ∧ Below w.heap.size w w') := Lib.hid (fun w => stamp_any L other w hok)
  have HK : Hid (∀ w, Calls Try.prog 38 #[L.v, .int .i64 other] w fun e w' => e = .returned (.int .i64 (atKarma L other)) ∧ Below w.heap.size w w') := Lib.hid (fun w => karma_any L other w hok)
  unfold Ly.v at HM HS HT HK
  have hq : (r.1 % 4 == 3) = false := by simp [hr]
  have hg0 := runAt_lt h0
  have G : w.grownBy w (some g) := gb_refl _ _
  have hS0 : w.heap.size + 0 ≤ w.heap.size := Nat.le_refl _
  go_enter Try.func83, Try.ntmps83
  go_wp2_with fail
  obtain ⟨w1, hwr⟩ : ∃ W, W = ((w.alloc (.cells #[.int .i64 L.c.t, .int .i64 L.c.l, .int .i64 L.c.k, .int .i64 L.c.s, .int .i64 L.c.m, .int .i64 L.clock, .int .i64 L.stamps, .int .i64 L.log, .int .i64 L.fin, .int .i64 L.thread, .int .i64 L.lock, .int .i64 L.loc, .int .i64 L.size, .int .i64 me, .int .i64 other, .bool true, .int .i64 m.s, .int .i64 m.k, .int .i64 m.a, .func (.func 82) #[] #[]] 131)).alloc (.cells #[.int .i64 0, .int .i64 0, .int .i64 0, .int .i64 0, .bool false, .bool false, .int .i64 0] 42)) := ⟨_, rfl⟩
  rw [← hwr]
  have hb : Below w.heap.size w w1 := by rw [hwr]; exact (Below.alloc (Below.alloc (Below.refl _ _) (by first | exact Nat.le_refl _ | (simp; omega) | simp) _) (by first | exact Nat.le_refl _ | (simp; omega) | simp) _)
  have cc : CellsAt w1 (w.heap.size) [.int .i64 L.c.t, .int .i64 L.c.l, .int .i64 L.c.k, .int .i64 L.c.s, .int .i64 L.c.m, .int .i64 L.clock, .int .i64 L.stamps, .int .i64 L.log, .int .i64 L.fin, .int .i64 L.thread, .int .i64 L.lock, .int .i64 L.loc, .int .i64 L.size, .int .i64 me, .int .i64 other, .bool true, .int .i64 m.s, .int .i64 m.k, .int .i64 m.a, .func (.func 82) #[] #[]] := by rw [hwr]; exact (cellsAt_alloc (cellsAt_new' w _ _ (w.heap.size) (by simp)) _)
  have ccz : w.heap.size < w1.heap.size := World.block_lt_of_cell? _ _ (cc 0 _ rfl)
  have oz : OutZ w1 (w.heap.size + 1) := by rw [hwr]; exact (OutZ.new' (w.alloc (.cells #[.int .i64 L.c.t, .int .i64 L.c.l, .int .i64 L.c.k, .int .i64 L.c.s, .int .i64 L.c.m, .int .i64 L.clock, .int .i64 L.stamps, .int .i64 L.log, .int .i64 L.fin, .int .i64 L.thread, .int .i64 L.lock, .int .i64 L.loc, .int .i64 L.size, .int .i64 me, .int .i64 other, .bool true, .int .i64 m.s, .int .i64 m.k, .int .i64 m.a, .func (.func 82) #[] #[]] 131)) _ (w.heap.size + 1) (by simp))
  have ozz : w.heap.size + 1 < w1.heap.size := OutZ.lt oz
  have h1 := runAt_keep h0 hb
  replace G := gb_trans G (gb_of_below (some g) hb)
  clear hb hwr
  replace hS0 := G.size
  have cc_4 := cc 4 _ rfl
  have cc_13 := cc 13 _ rfl
  have cc_14 := cc 14 _ rfl
  have cc_15 := cc 15 _ rfl
  have cc_16 := cc 16 _ rfl
  have cc_17 := cc 17 _ rfl
  have cc_18 := cc 18 _ rfl
  have cc_19 := cc 19 _ rfl
  go_wp2_with (first | ((with_reducible refine ld_layT cc ?a181 ?h181); (case a181 => exact ⟨_, rfl, rfl, rfl⟩)) | ((with_reducible refine ld_case cc rfl ?a182 ?h182); (case a182 => exact ⟨_, rfl, rfl, rfl⟩)))
  ((with_reducible refine (HM.out _).mono ?_); rintro e w2 ⟨rfl, hb⟩)
  clear cc_4 cc_13 cc_14 cc_15 cc_16 cc_17 cc_18 cc_19
  have hsz := hb.size
  (try simp at hsz)
  replace cc := cellsAt_keep cc hb
  replace oz := OutZ.below oz hb
  replace ccz : w.heap.size < w2.heap.size := by omega
  replace ozz : w.heap.size + 1 < w2.heap.size := by omega
  have h2 := runAt_keep h1 hb
  replace G := gb_trans G (gb_of_below (some g) hb)
  clear hb hsz
  replace hS0 := G.size
  have cc_4 := cc 4 _ rfl
  have cc_13 := cc 13 _ rfl
  have cc_14 := cc 14 _ rfl
  have cc_15 := cc 15 _ rfl
  have cc_16 := cc 16 _ rfl
  have cc_17 := cc 17 _ rfl
  have cc_18 := cc 18 _ rfl
  have cc_19 := cc 19 _ rfl
  go_wp2_with (first | ((with_reducible refine ld_layT cc ?a183 ?h183); (case a183 => exact ⟨_, rfl, rfl, rfl⟩)) | ((with_reducible refine ld_case cc rfl ?a184 ?h184); (case a184 => exact ⟨_, rfl, rfl, rfl⟩)))
  ((with_reducible refine (load_some _ g _ _ _ h2).mono ?_); rintro e w3 ⟨rfl, h3, hb⟩)
  clear cc_4 cc_13 cc_14 cc_15 cc_16 cc_17 cc_18 cc_19
  have hsz := hb.size
  (try simp at hsz)
  replace cc := cellsAt_gb cc hb (by omega)
  replace oz := OutZ.gb oz hb (by omega)
  replace ccz : w.heap.size < w3.heap.size := by omega
  replace ozz : w.heap.size + 1 < w3.heap.size := by omega
  replace G := gb_trans G hb
  clear hb hsz
  replace hS0 := G.size
  have cc_4 := cc 4 _ rfl
  have cc_13 := cc 13 _ rfl
  have cc_14 := cc 14 _ rfl
  have cc_15 := cc 15 _ rfl
  have cc_16 := cc 16 _ rfl
  have cc_17 := cc 17 _ rfl
  have cc_18 := cc 18 _ rfl
  have cc_19 := cc 19 _ rfl
  go_wp2_with (first | ((with_reducible refine ld_layT cc ?a185 ?h185); (case a185 => exact ⟨_, rfl, rfl, rfl⟩)) | ((with_reducible refine ld_case cc rfl ?a186 ?h186); (case a186 => exact ⟨_, rfl, rfl, rfl⟩)))
  ((with_reducible refine (kind_any _ _).mono ?_); rintro e w' ⟨rfl, rfl⟩)
  go_wp2_with (first | ((with_reducible refine ld_layT cc ?a187 ?h187); (case a187 => exact ⟨_, rfl, rfl, rfl⟩)) | ((with_reducible refine ld_case cc rfl ?a188 ?h188); (case a188 => exact ⟨_, rfl, rfl, rfl⟩)))
  ((with_reducible refine (HS.out _).mono ?_); rintro e w4 ⟨rfl, hb⟩)
  clear cc_4 cc_13 cc_14 cc_15 cc_16 cc_17 cc_18 cc_19
  have hsz := hb.size
  (try simp at hsz)
  replace cc := cellsAt_keep cc hb
  replace oz := OutZ.below oz hb
  replace ccz : w.heap.size < w4.heap.size := by omega
  replace ozz : w.heap.size + 1 < w4.heap.size := by omega
  have h4 := runAt_keep h3 hb
  replace G := gb_trans G (gb_of_below (some g) hb)
  clear hb hsz
  replace hS0 := G.size
  have cc_4 := cc 4 _ rfl
  have cc_13 := cc 13 _ rfl
  have cc_14 := cc 14 _ rfl
  have cc_15 := cc 15 _ rfl
  have cc_16 := cc 16 _ rfl
  have cc_17 := cc 17 _ rfl
  have cc_18 := cc 18 _ rfl
  have cc_19 := cc 19 _ rfl
  go_wp2_with (first | ((with_reducible refine ld_layT cc ?a189 ?h189); (case a189 => exact ⟨_, rfl, rfl, rfl⟩)) | ((with_reducible refine ld_case cc rfl ?a190 ?h190); (case a190 => exact ⟨_, rfl, rfl, rfl⟩)))
  ((with_reducible refine (load_none _ g _ h4).mono ?_); rintro e w5 ⟨rfl, hb⟩)
  exact ⟨rfl, rfl, gb_trans G (gb_of_below (some g) hb)⟩

theorem resR_tidle (w : World) (g : Nat) (L : Ly) (hok : L.ok) (me other : Int) (m : Ct) (r : Int × Bool) (s : Int × Bool) (l : List (Int × Bool)) (h0 : RunAt w g (r :: s :: l)) (hr : ¬r.1 % 4 = 3) (hs : s.1 % 4 = 0) :
    Calls Try.prog 83 #[caseV L me other true m, .pointer (some ⟨g, 0, none⟩)] w fun e w' => e = .returned (OutD.v { val := 0 }) ∧ w.grownBy w' (some g) ∧ RunAt w' g l := by
  unfold caseV
  have HM : Hid (∀ w, Calls Try.prog 39 #[L.v, .int .i64 me] w fun e w' => e = .returned (.int .i64 (atStatus L me)) ∧ Below w.heap.size w w') := Lib.hid (fun w => status_any L me w hok)
  have HS : Hid (∀ w, Calls Try.prog 39 #[L.v, .int .i64 other] w fun e w' => e = .returned (.int .i64 (atStatus L other)) ∧ Below w.heap.size w w') := Lib.hid (fun w => status_any L other w hok)
  have HT : Hid (∀ w, Calls Try.prog 37 #[L.v, .int .i64 other] w fun e w' => e = .returned (.int .i64 (atStamp L other)) ∧ Below w.heap.size w w') := Lib.hid (fun w => stamp_any L other w hok)
  have HK : Hid (∀ w, Calls Try.prog 38 #[L.v, .int .i64 other] w fun e w' => e = .returned (.int .i64 (atKarma L other)) ∧ Below w.heap.size w w') := Lib.hid (fun w => karma_any L other w hok)
  unfold Ly.v at HM HS HT HK
  have hq : (r.1 % 4 == 3) = false := by simp [hr]
  have hs0 : (s.1 % 4 == 0) = true := by simp [hs]
  have hg0 := runAt_lt h0
  have G : w.grownBy w (some g) := gb_refl _ _
  have hS0 : w.heap.size + 0 ≤ w.heap.size := Nat.le_refl _
  go_enter Try.func83, Try.ntmps83
  go_wp2_with fail
  obtain ⟨w1, hwr⟩ : ∃ W, W = ((w.alloc (.cells #[.int .i64 L.c.t, .int .i64 L.c.l, .int .i64 L.c.k, .int .i64 L.c.s, .int .i64 L.c.m, .int .i64 L.clock, .int .i64 L.stamps, .int .i64 L.log, .int .i64 L.fin, .int .i64 L.thread, .int .i64 L.lock, .int .i64 L.loc, .int .i64 L.size, .int .i64 me, .int .i64 other, .bool true, .int .i64 m.s, .int .i64 m.k, .int .i64 m.a, .func (.func 82) #[] #[]] 131)).alloc (.cells #[.int .i64 0, .int .i64 0, .int .i64 0, .int .i64 0, .bool false, .bool false, .int .i64 0] 42)) := ⟨_, rfl⟩
  rw [← hwr]
  have hb : Below w.heap.size w w1 := by rw [hwr]; exact (Below.alloc (Below.alloc (Below.refl _ _) (by first | exact Nat.le_refl _ | (simp; omega) | simp) _) (by first | exact Nat.le_refl _ | (simp; omega) | simp) _)
  have cc : CellsAt w1 (w.heap.size) [.int .i64 L.c.t, .int .i64 L.c.l, .int .i64 L.c.k, .int .i64 L.c.s, .int .i64 L.c.m, .int .i64 L.clock, .int .i64 L.stamps, .int .i64 L.log, .int .i64 L.fin, .int .i64 L.thread, .int .i64 L.lock, .int .i64 L.loc, .int .i64 L.size, .int .i64 me, .int .i64 other, .bool true, .int .i64 m.s, .int .i64 m.k, .int .i64 m.a, .func (.func 82) #[] #[]] := by rw [hwr]; exact (cellsAt_alloc (cellsAt_new' w _ _ (w.heap.size) (by simp)) _)
  have ccz : w.heap.size < w1.heap.size := World.block_lt_of_cell? _ _ (cc 0 _ rfl)
  have oz : OutZ w1 (w.heap.size + 1) := by rw [hwr]; exact (OutZ.new' (w.alloc (.cells #[.int .i64 L.c.t, .int .i64 L.c.l, .int .i64 L.c.k, .int .i64 L.c.s, .int .i64 L.c.m, .int .i64 L.clock, .int .i64 L.stamps, .int .i64 L.log, .int .i64 L.fin, .int .i64 L.thread, .int .i64 L.lock, .int .i64 L.loc, .int .i64 L.size, .int .i64 me, .int .i64 other, .bool true, .int .i64 m.s, .int .i64 m.k, .int .i64 m.a, .func (.func 82) #[] #[]] 131)) _ (w.heap.size + 1) (by simp))
  have ozz : w.heap.size + 1 < w1.heap.size := OutZ.lt oz
  have h1 := runAt_keep h0 hb
  replace G := gb_trans G (gb_of_below (some g) hb)
  clear hb hwr
  replace hS0 := G.size
  have cc_4 := cc 4 _ rfl
  have cc_13 := cc 13 _ rfl
  have cc_14 := cc 14 _ rfl
  have cc_15 := cc 15 _ rfl
  have cc_16 := cc 16 _ rfl
  have cc_17 := cc 17 _ rfl
  have cc_18 := cc 18 _ rfl
  have cc_19 := cc 19 _ rfl
  go_wp2_with (first | ((with_reducible refine ld_layT cc ?a191 ?h191); (case a191 => exact ⟨_, rfl, rfl, rfl⟩)) | ((with_reducible refine ld_case cc rfl ?a192 ?h192); (case a192 => exact ⟨_, rfl, rfl, rfl⟩)))
  ((with_reducible refine (HM.out _).mono ?_); rintro e w2 ⟨rfl, hb⟩)
  clear cc_4 cc_13 cc_14 cc_15 cc_16 cc_17 cc_18 cc_19
  have hsz := hb.size
  (try simp at hsz)
  replace cc := cellsAt_keep cc hb
  replace oz := OutZ.below oz hb
  replace ccz : w.heap.size < w2.heap.size := by omega
  replace ozz : w.heap.size + 1 < w2.heap.size := by omega
  have h2 := runAt_keep h1 hb
  replace G := gb_trans G (gb_of_below (some g) hb)
  clear hb hsz
  replace hS0 := G.size
  have cc_4 := cc 4 _ rfl
  have cc_13 := cc 13 _ rfl
  have cc_14 := cc 14 _ rfl
  have cc_15 := cc 15 _ rfl
  have cc_16 := cc 16 _ rfl
  have cc_17 := cc 17 _ rfl
  have cc_18 := cc 18 _ rfl
  have cc_19 := cc 19 _ rfl
  go_wp2_with (first | ((with_reducible refine ld_layT cc ?a193 ?h193); (case a193 => exact ⟨_, rfl, rfl, rfl⟩)) | ((with_reducible refine ld_case cc rfl ?a194 ?h194); (case a194 => exact ⟨_, rfl, rfl, rfl⟩)))
  ((with_reducible refine (load_some _ g _ _ _ h2).mono ?_); rintro e w3 ⟨rfl, h3, hb⟩)
  clear cc_4 cc_13 cc_14 cc_15 cc_16 cc_17 cc_18 cc_19
  have hsz := hb.size
  (try simp at hsz)
  replace cc := cellsAt_gb cc hb (by omega)
  replace oz := OutZ.gb oz hb (by omega)
  replace ccz : w.heap.size < w3.heap.size := by omega
  replace ozz : w.heap.size + 1 < w3.heap.size := by omega
  replace G := gb_trans G hb
  clear hb hsz
  replace hS0 := G.size
  have cc_4 := cc 4 _ rfl
  have cc_13 := cc 13 _ rfl
  have cc_14 := cc 14 _ rfl
  have cc_15 := cc 15 _ rfl
  have cc_16 := cc 16 _ rfl
  have cc_17 := cc 17 _ rfl
  have cc_18 := cc 18 _ rfl
  have cc_19 := cc 19 _ rfl
  go_wp2_with (first | ((with_reducible refine ld_layT cc ?a195 ?h195); (case a195 => exact ⟨_, rfl, rfl, rfl⟩)) | ((with_reducible refine ld_case cc rfl ?a196 ?h196); (case a196 => exact ⟨_, rfl, rfl, rfl⟩)))
  ((with_reducible refine (kind_any _ _).mono ?_); rintro e w' ⟨rfl, rfl⟩)
  go_wp2_with (first | ((with_reducible refine ld_layT cc ?a197 ?h197); (case a197 => exact ⟨_, rfl, rfl, rfl⟩)) | ((with_reducible refine ld_case cc rfl ?a198 ?h198); (case a198 => exact ⟨_, rfl, rfl, rfl⟩)))
  ((with_reducible refine (HS.out _).mono ?_); rintro e w4 ⟨rfl, hb⟩)
  clear cc_4 cc_13 cc_14 cc_15 cc_16 cc_17 cc_18 cc_19
  have hsz := hb.size
  (try simp at hsz)
  replace cc := cellsAt_keep cc hb
  replace oz := OutZ.below oz hb
  replace ccz : w.heap.size < w4.heap.size := by omega
  replace ozz : w.heap.size + 1 < w4.heap.size := by omega
  have h4 := runAt_keep h3 hb
  replace G := gb_trans G (gb_of_below (some g) hb)
  clear hb hsz
  replace hS0 := G.size
  have cc_4 := cc 4 _ rfl
  have cc_13 := cc 13 _ rfl
  have cc_14 := cc 14 _ rfl
  have cc_15 := cc 15 _ rfl
  have cc_16 := cc 16 _ rfl
  have cc_17 := cc 17 _ rfl
  have cc_18 := cc 18 _ rfl
  have cc_19 := cc 19 _ rfl
  go_wp2_with (first | ((with_reducible refine ld_layT cc ?a199 ?h199); (case a199 => exact ⟨_, rfl, rfl, rfl⟩)) | ((with_reducible refine ld_case cc rfl ?a200 ?h200); (case a200 => exact ⟨_, rfl, rfl, rfl⟩)))
  ((with_reducible refine (load_some _ g _ _ _ h4).mono ?_); rintro e w5 ⟨rfl, h5, hb⟩)
  clear cc_4 cc_13 cc_14 cc_15 cc_16 cc_17 cc_18 cc_19
  have hsz := hb.size
  (try simp at hsz)
  replace cc := cellsAt_gb cc hb (by omega)
  replace oz := OutZ.gb oz hb (by omega)
  replace ccz : w.heap.size < w5.heap.size := by omega
  replace ozz : w.heap.size + 1 < w5.heap.size := by omega
  replace G := gb_trans G hb
  clear hb hsz
  replace hS0 := G.size
  have cc_4 := cc 4 _ rfl
  have cc_13 := cc 13 _ rfl
  have cc_14 := cc 14 _ rfl
  have cc_15 := cc 15 _ rfl
  have cc_16 := cc 16 _ rfl
  have cc_17 := cc 17 _ rfl
  have cc_18 := cc 18 _ rfl
  have cc_19 := cc 19 _ rfl
  go_wp2_with (first | ((with_reducible refine ld_layT cc ?a201 ?h201); (case a201 => exact ⟨_, rfl, rfl, rfl⟩)) | ((with_reducible refine ld_case cc rfl ?a202 ?h202); (case a202 => exact ⟨_, rfl, rfl, rfl⟩)))
  ((with_reducible refine (kind_any _ _).mono ?_); rintro e w' ⟨rfl, rfl⟩)
  have oq0 := oz.c0
  have oq1 := oz.c1
  have oq2 := oz.c2
  have oq3 := oz.c3
  have oq4 := oz.c4
  have oq5 := oz.c5
  have oq6 := oz.c6
  have of := oz.fr
  go_wp2_with (first | ((with_reducible refine ld_layT cc ?a203 ?h203); (case a203 => exact ⟨_, rfl, rfl, rfl⟩)) | ((with_reducible refine ld_case cc rfl ?a204 ?h204); (case a204 => exact ⟨_, rfl, rfl, rfl⟩)))
  obtain ⟨W, hW, k0, k1, k2, k3, k4, k5, k6⟩ := outs_at oz (.int .i64 (0)) (.int .i64 (0)) (.int .i64 (0)) (.int .i64 (0)) (.bool false) (.bool false) (.int .i64 (0))
  rw [← hW]
  simp [bodyPost, results, Try.results83, go_sem, k0, k1, k2, k3, k4, k5, k6, OutD.v]
  rw [hW]
  exact ⟨gb_outs G (by first | exact Nat.le_refl _ | omega) _ _ _ _ _ _ _, runAt_outs h5 (by omega) _ _ _ _ _ _ _⟩

theorem resR_t1 (w : World) (g : Nat) (L : Ly) (hok : L.ok) (me other : Int) (m : Ct) (r : Int × Bool) (s : Int × Bool) (h0 : RunAt w g (r :: [s])) (hr : ¬r.1 % 4 = 3) (hi : I64 s.1) (hs : ¬s.1 % 4 = 0) :
    Calls Try.prog 83 #[caseV L me other true m, .pointer (some ⟨g, 0, none⟩)] w fun e w' => e = .panicked [{ v := .iface 122 (Ask.v ⟨1, atStamp L other, 0, 0⟩), recovered := false }] ∧ w.grownBy w' (some g) := by
  unfold caseV
  have HM : Hid (∀ w, Calls Try.prog 39 #[L.v, .int .i64 me] w fun e w' => e = .returned (.int .i64 (atStatus L me)) ∧ Below w.heap.size w w') := Lib.hid (fun w => status_any L me w hok)
  have HS : Hid (∀ w, Calls Try.prog 39 #[L.v, .int .i64 other] w fun e w' => e = .returned (.int .i64 (atStatus L other)) ∧ Below w.heap.size w w') := Lib.hid (fun w => status_any L other w hok)
  have HT : Hid (∀ w, Calls Try.prog 37 #[L.v, .int .i64 other] w fun e w' => e = .returned (.int .i64 (atStamp L other)) ∧ Below w.heap.size w w') := Lib.hid (fun w => stamp_any L other w hok)
  have HK : Hid (∀ w, Calls Try.prog 38 #[L.v, .int .i64 other] w fun e w' => e = .returned (.int .i64 (atKarma L other)) ∧ Below w.heap.size w w') := Lib.hid (fun w => karma_any L other w hok)
  unfold Ly.v at HM HS HT HK
  have hq : (r.1 % 4 == 3) = false := by simp [hr]
  have hs0 : (s.1 % 4 == 0) = false := by simp [hs]
  have hg0 := runAt_lt h0
  have G : w.grownBy w (some g) := gb_refl _ _
  have hS0 : w.heap.size + 0 ≤ w.heap.size := Nat.le_refl _
  go_enter Try.func83, Try.ntmps83
  go_wp2_with fail
  obtain ⟨w1, hwr⟩ : ∃ W, W = ((w.alloc (.cells #[.int .i64 L.c.t, .int .i64 L.c.l, .int .i64 L.c.k, .int .i64 L.c.s, .int .i64 L.c.m, .int .i64 L.clock, .int .i64 L.stamps, .int .i64 L.log, .int .i64 L.fin, .int .i64 L.thread, .int .i64 L.lock, .int .i64 L.loc, .int .i64 L.size, .int .i64 me, .int .i64 other, .bool true, .int .i64 m.s, .int .i64 m.k, .int .i64 m.a, .func (.func 82) #[] #[]] 131)).alloc (.cells #[.int .i64 0, .int .i64 0, .int .i64 0, .int .i64 0, .bool false, .bool false, .int .i64 0] 42)) := ⟨_, rfl⟩
  rw [← hwr]
  have hb : Below w.heap.size w w1 := by rw [hwr]; exact (Below.alloc (Below.alloc (Below.refl _ _) (by first | exact Nat.le_refl _ | (simp; omega) | simp) _) (by first | exact Nat.le_refl _ | (simp; omega) | simp) _)
  have cc : CellsAt w1 (w.heap.size) [.int .i64 L.c.t, .int .i64 L.c.l, .int .i64 L.c.k, .int .i64 L.c.s, .int .i64 L.c.m, .int .i64 L.clock, .int .i64 L.stamps, .int .i64 L.log, .int .i64 L.fin, .int .i64 L.thread, .int .i64 L.lock, .int .i64 L.loc, .int .i64 L.size, .int .i64 me, .int .i64 other, .bool true, .int .i64 m.s, .int .i64 m.k, .int .i64 m.a, .func (.func 82) #[] #[]] := by rw [hwr]; exact (cellsAt_alloc (cellsAt_new' w _ _ (w.heap.size) (by simp)) _)
  have ccz : w.heap.size < w1.heap.size := World.block_lt_of_cell? _ _ (cc 0 _ rfl)
  have oz : OutZ w1 (w.heap.size + 1) := by rw [hwr]; exact (OutZ.new' (w.alloc (.cells #[.int .i64 L.c.t, .int .i64 L.c.l, .int .i64 L.c.k, .int .i64 L.c.s, .int .i64 L.c.m, .int .i64 L.clock, .int .i64 L.stamps, .int .i64 L.log, .int .i64 L.fin, .int .i64 L.thread, .int .i64 L.lock, .int .i64 L.loc, .int .i64 L.size, .int .i64 me, .int .i64 other, .bool true, .int .i64 m.s, .int .i64 m.k, .int .i64 m.a, .func (.func 82) #[] #[]] 131)) _ (w.heap.size + 1) (by simp))
  have ozz : w.heap.size + 1 < w1.heap.size := OutZ.lt oz
  have h1 := runAt_keep h0 hb
  replace G := gb_trans G (gb_of_below (some g) hb)
  clear hb hwr
  replace hS0 := G.size
  have cc_4 := cc 4 _ rfl
  have cc_13 := cc 13 _ rfl
  have cc_14 := cc 14 _ rfl
  have cc_15 := cc 15 _ rfl
  have cc_16 := cc 16 _ rfl
  have cc_17 := cc 17 _ rfl
  have cc_18 := cc 18 _ rfl
  have cc_19 := cc 19 _ rfl
  go_wp2_with (first | ((with_reducible refine ld_layT cc ?a205 ?h205); (case a205 => exact ⟨_, rfl, rfl, rfl⟩)) | ((with_reducible refine ld_case cc rfl ?a206 ?h206); (case a206 => exact ⟨_, rfl, rfl, rfl⟩)))
  ((with_reducible refine (HM.out _).mono ?_); rintro e w2 ⟨rfl, hb⟩)
  clear cc_4 cc_13 cc_14 cc_15 cc_16 cc_17 cc_18 cc_19
  have hsz := hb.size
  (try simp at hsz)
  replace cc := cellsAt_keep cc hb
  replace oz := OutZ.below oz hb
  replace ccz : w.heap.size < w2.heap.size := by omega
  replace ozz : w.heap.size + 1 < w2.heap.size := by omega
  have h2 := runAt_keep h1 hb
  replace G := gb_trans G (gb_of_below (some g) hb)
  clear hb hsz
  replace hS0 := G.size
  have cc_4 := cc 4 _ rfl
  have cc_13 := cc 13 _ rfl
  have cc_14 := cc 14 _ rfl
  have cc_15 := cc 15 _ rfl
  have cc_16 := cc 16 _ rfl
  have cc_17 := cc 17 _ rfl
  have cc_18 := cc 18 _ rfl
  have cc_19 := cc 19 _ rfl
  go_wp2_with (first | ((with_reducible refine ld_layT cc ?a207 ?h207); (case a207 => exact ⟨_, rfl, rfl, rfl⟩)) | ((with_reducible refine ld_case cc rfl ?a208 ?h208); (case a208 => exact ⟨_, rfl, rfl, rfl⟩)))
  ((with_reducible refine (load_some _ g _ _ _ h2).mono ?_); rintro e w3 ⟨rfl, h3, hb⟩)
  clear cc_4 cc_13 cc_14 cc_15 cc_16 cc_17 cc_18 cc_19
  have hsz := hb.size
  (try simp at hsz)
  replace cc := cellsAt_gb cc hb (by omega)
  replace oz := OutZ.gb oz hb (by omega)
  replace ccz : w.heap.size < w3.heap.size := by omega
  replace ozz : w.heap.size + 1 < w3.heap.size := by omega
  replace G := gb_trans G hb
  clear hb hsz
  replace hS0 := G.size
  have cc_4 := cc 4 _ rfl
  have cc_13 := cc 13 _ rfl
  have cc_14 := cc 14 _ rfl
  have cc_15 := cc 15 _ rfl
  have cc_16 := cc 16 _ rfl
  have cc_17 := cc 17 _ rfl
  have cc_18 := cc 18 _ rfl
  have cc_19 := cc 19 _ rfl
  go_wp2_with (first | ((with_reducible refine ld_layT cc ?a209 ?h209); (case a209 => exact ⟨_, rfl, rfl, rfl⟩)) | ((with_reducible refine ld_case cc rfl ?a210 ?h210); (case a210 => exact ⟨_, rfl, rfl, rfl⟩)))
  ((with_reducible refine (kind_any _ _).mono ?_); rintro e w' ⟨rfl, rfl⟩)
  go_wp2_with (first | ((with_reducible refine ld_layT cc ?a211 ?h211); (case a211 => exact ⟨_, rfl, rfl, rfl⟩)) | ((with_reducible refine ld_case cc rfl ?a212 ?h212); (case a212 => exact ⟨_, rfl, rfl, rfl⟩)))
  ((with_reducible refine (HS.out _).mono ?_); rintro e w4 ⟨rfl, hb⟩)
  clear cc_4 cc_13 cc_14 cc_15 cc_16 cc_17 cc_18 cc_19
  have hsz := hb.size
  (try simp at hsz)
  replace cc := cellsAt_keep cc hb
  replace oz := OutZ.below oz hb
  replace ccz : w.heap.size < w4.heap.size := by omega
  replace ozz : w.heap.size + 1 < w4.heap.size := by omega
  have h4 := runAt_keep h3 hb
  replace G := gb_trans G (gb_of_below (some g) hb)
  clear hb hsz
  replace hS0 := G.size
  have cc_4 := cc 4 _ rfl
  have cc_13 := cc 13 _ rfl
  have cc_14 := cc 14 _ rfl
  have cc_15 := cc 15 _ rfl
  have cc_16 := cc 16 _ rfl
  have cc_17 := cc 17 _ rfl
  have cc_18 := cc 18 _ rfl
  have cc_19 := cc 19 _ rfl
  go_wp2_with (first | ((with_reducible refine ld_layT cc ?a213 ?h213); (case a213 => exact ⟨_, rfl, rfl, rfl⟩)) | ((with_reducible refine ld_case cc rfl ?a214 ?h214); (case a214 => exact ⟨_, rfl, rfl, rfl⟩)))
  ((with_reducible refine (load_some _ g _ _ _ h4).mono ?_); rintro e w5 ⟨rfl, h5, hb⟩)
  clear cc_4 cc_13 cc_14 cc_15 cc_16 cc_17 cc_18 cc_19
  have hsz := hb.size
  (try simp at hsz)
  replace cc := cellsAt_gb cc hb (by omega)
  replace oz := OutZ.gb oz hb (by omega)
  replace ccz : w.heap.size < w5.heap.size := by omega
  replace ozz : w.heap.size + 1 < w5.heap.size := by omega
  replace G := gb_trans G hb
  clear hb hsz
  replace hS0 := G.size
  have cc_4 := cc 4 _ rfl
  have cc_13 := cc 13 _ rfl
  have cc_14 := cc 14 _ rfl
  have cc_15 := cc 15 _ rfl
  have cc_16 := cc 16 _ rfl
  have cc_17 := cc 17 _ rfl
  have cc_18 := cc 18 _ rfl
  have cc_19 := cc 19 _ rfl
  go_wp2_with (first | ((with_reducible refine ld_layT cc ?a215 ?h215); (case a215 => exact ⟨_, rfl, rfl, rfl⟩)) | ((with_reducible refine ld_case cc rfl ?a216 ?h216); (case a216 => exact ⟨_, rfl, rfl, rfl⟩)))
  ((with_reducible refine (kind_any _ _).mono ?_); rintro e w' ⟨rfl, rfl⟩)
  go_wp2_with (first | ((with_reducible refine ld_layT cc ?a217 ?h217); (case a217 => exact ⟨_, rfl, rfl, rfl⟩)) | ((with_reducible refine ld_case cc rfl ?a218 ?h218); (case a218 => exact ⟨_, rfl, rfl, rfl⟩)))
  ((with_reducible refine (try_any _ hi _).mono ?_); rintro e w' ⟨rfl, rfl⟩)
  go_wp2_with (first | ((with_reducible refine ld_layT (cellsAt_alloc cc _) ?a219 ?h219); (case a219 => exact ⟨_, rfl, rfl, rfl⟩)) | ((with_reducible refine ld_layT cc ?a220 ?h220); (case a220 => exact ⟨_, rfl, rfl, rfl⟩)) | ((with_reducible refine ld_case (cellsAt_alloc cc _) rfl ?a221 ?h221); (case a221 => exact ⟨_, rfl, rfl, rfl⟩)) | ((with_reducible refine ld_case cc rfl ?a222 ?h222); (case a222 => exact ⟨_, rfl, rfl, rfl⟩)))
  ((with_reducible refine (HT.out _).mono ?_); rintro e w6 ⟨rfl, hb⟩)
  clear cc_4 cc_13 cc_14 cc_15 cc_16 cc_17 cc_18 cc_19
  have hsz := hb.size
  (try simp at hsz)
  have xcczn : w.heap.size ≠ w5.heap.size := by omega
  have xozzn : w.heap.size + 1 ≠ w5.heap.size := by omega
  have xgn : w5.heap.size ≠ g := by omega
  have xlo : w.heap.size ≤ w5.heap.size := by omega
  replace cc := cellsAt_keep (cellsAt_alloc cc _) hb
  replace oz := OutZ.below (OutZ.alloc oz _) hb
  have xq0 : w6.cell? ⟨w5.heap.size, 0, none⟩ = some (.int .i64 0) := cel_below hb (by rw [World.cell?_alloc_at _ _ _ _ (by simp)]; rfl)
  have xq1 : w6.cell? ⟨w5.heap.size, 1, none⟩ = some (.int .i64 0) := cel_below hb (by rw [World.cell?_alloc_at _ _ _ _ (by simp)]; rfl)
  have xq2 : w6.cell? ⟨w5.heap.size, 2, none⟩ = some (.int .i64 (s.1 / 4)) := cel_below hb (by rw [World.cell?_alloc_at _ _ _ _ (by simp)]; rfl)
  have xf : ∀ o, w6.frozen? ⟨w5.heap.size, o, none⟩ = false := fun o => fro_below hb (by first | omega | (simp; done) | (simp; omega)) (World.frozen?_alloc_at _ _ _ _ (by simp))
  replace ccz : w.heap.size < w6.heap.size := by omega
  replace ozz : w.heap.size + 1 < w6.heap.size := by omega
  have xz : w5.heap.size < w6.heap.size := World.block_lt_of_cell? _ _ xq0
  have h6 := runAt_keep (runAt_alloc h5 _) hb
  replace G := gb_trans (gb_alloc G _) (gb_of_below (some g) hb)
  clear hb hsz
  replace hS0 := G.size
  have cc_4 := cc 4 _ rfl
  have cc_13 := cc 13 _ rfl
  have cc_14 := cc 14 _ rfl
  have cc_15 := cc 15 _ rfl
  have cc_16 := cc 16 _ rfl
  have cc_17 := cc 17 _ rfl
  have cc_18 := cc 18 _ rfl
  have cc_19 := cc 19 _ rfl
  go_wp2_with (first | ((with_reducible refine ld_layT cc ?a223 ?h223); (case a223 => exact ⟨_, rfl, rfl, rfl⟩)) | ((with_reducible refine ld_case cc rfl ?a224 ?h224); (case a224 => exact ⟨_, rfl, rfl, rfl⟩)))
  ((with_reducible refine (load_none _ g _ h6).mono ?_); rintro e w7 ⟨rfl, hb⟩)
  exact ⟨rfl, rfl, gb_trans G (gb_of_below (some g) hb)⟩

theorem resR_t2 (w : World) (g : Nat) (L : Ly) (hok : L.ok) (me other : Int) (m : Ct) (r : Int × Bool) (s t : Int × Bool) (h0 : RunAt w g (r :: [s, t])) (hr : ¬r.1 % 4 = 3) (hi : I64 s.1) (hs : ¬s.1 % 4 = 0) :
    Calls Try.prog 83 #[caseV L me other true m, .pointer (some ⟨g, 0, none⟩)] w fun e w' => e = .panicked [{ v := .iface 122 (Ask.v ⟨1, atKarma L other, 0, 0⟩), recovered := false }] ∧ w.grownBy w' (some g) := by
  unfold caseV
  have HM : Hid (∀ w, Calls Try.prog 39 #[L.v, .int .i64 me] w fun e w' => e = .returned (.int .i64 (atStatus L me)) ∧ Below w.heap.size w w') := Lib.hid (fun w => status_any L me w hok)
  have HS : Hid (∀ w, Calls Try.prog 39 #[L.v, .int .i64 other] w fun e w' => e = .returned (.int .i64 (atStatus L other)) ∧ Below w.heap.size w w') := Lib.hid (fun w => status_any L other w hok)
  have HT : Hid (∀ w, Calls Try.prog 37 #[L.v, .int .i64 other] w fun e w' => e = .returned (.int .i64 (atStamp L other)) ∧ Below w.heap.size w w') := Lib.hid (fun w => stamp_any L other w hok)
  have HK : Hid (∀ w, Calls Try.prog 38 #[L.v, .int .i64 other] w fun e w' => e = .returned (.int .i64 (atKarma L other)) ∧ Below w.heap.size w w') := Lib.hid (fun w => karma_any L other w hok)
  unfold Ly.v at HM HS HT HK
  have hq : (r.1 % 4 == 3) = false := by simp [hr]
  have hs0 : (s.1 % 4 == 0) = false := by simp [hs]
  have hg0 := runAt_lt h0
  have G : w.grownBy w (some g) := gb_refl _ _
  have hS0 : w.heap.size + 0 ≤ w.heap.size := Nat.le_refl _
  go_enter Try.func83, Try.ntmps83
  go_wp2_with fail
  obtain ⟨w1, hwr⟩ : ∃ W, W = ((w.alloc (.cells #[.int .i64 L.c.t, .int .i64 L.c.l, .int .i64 L.c.k, .int .i64 L.c.s, .int .i64 L.c.m, .int .i64 L.clock, .int .i64 L.stamps, .int .i64 L.log, .int .i64 L.fin, .int .i64 L.thread, .int .i64 L.lock, .int .i64 L.loc, .int .i64 L.size, .int .i64 me, .int .i64 other, .bool true, .int .i64 m.s, .int .i64 m.k, .int .i64 m.a, .func (.func 82) #[] #[]] 131)).alloc (.cells #[.int .i64 0, .int .i64 0, .int .i64 0, .int .i64 0, .bool false, .bool false, .int .i64 0] 42)) := ⟨_, rfl⟩
  rw [← hwr]
  have hb : Below w.heap.size w w1 := by rw [hwr]; exact (Below.alloc (Below.alloc (Below.refl _ _) (by first | exact Nat.le_refl _ | (simp; omega) | simp) _) (by first | exact Nat.le_refl _ | (simp; omega) | simp) _)
  have cc : CellsAt w1 (w.heap.size) [.int .i64 L.c.t, .int .i64 L.c.l, .int .i64 L.c.k, .int .i64 L.c.s, .int .i64 L.c.m, .int .i64 L.clock, .int .i64 L.stamps, .int .i64 L.log, .int .i64 L.fin, .int .i64 L.thread, .int .i64 L.lock, .int .i64 L.loc, .int .i64 L.size, .int .i64 me, .int .i64 other, .bool true, .int .i64 m.s, .int .i64 m.k, .int .i64 m.a, .func (.func 82) #[] #[]] := by rw [hwr]; exact (cellsAt_alloc (cellsAt_new' w _ _ (w.heap.size) (by simp)) _)
  have ccz : w.heap.size < w1.heap.size := World.block_lt_of_cell? _ _ (cc 0 _ rfl)
  have oz : OutZ w1 (w.heap.size + 1) := by rw [hwr]; exact (OutZ.new' (w.alloc (.cells #[.int .i64 L.c.t, .int .i64 L.c.l, .int .i64 L.c.k, .int .i64 L.c.s, .int .i64 L.c.m, .int .i64 L.clock, .int .i64 L.stamps, .int .i64 L.log, .int .i64 L.fin, .int .i64 L.thread, .int .i64 L.lock, .int .i64 L.loc, .int .i64 L.size, .int .i64 me, .int .i64 other, .bool true, .int .i64 m.s, .int .i64 m.k, .int .i64 m.a, .func (.func 82) #[] #[]] 131)) _ (w.heap.size + 1) (by simp))
  have ozz : w.heap.size + 1 < w1.heap.size := OutZ.lt oz
  have h1 := runAt_keep h0 hb
  replace G := gb_trans G (gb_of_below (some g) hb)
  clear hb hwr
  replace hS0 := G.size
  have cc_4 := cc 4 _ rfl
  have cc_13 := cc 13 _ rfl
  have cc_14 := cc 14 _ rfl
  have cc_15 := cc 15 _ rfl
  have cc_16 := cc 16 _ rfl
  have cc_17 := cc 17 _ rfl
  have cc_18 := cc 18 _ rfl
  have cc_19 := cc 19 _ rfl
  go_wp2_with (first | ((with_reducible refine ld_layT cc ?a225 ?h225); (case a225 => exact ⟨_, rfl, rfl, rfl⟩)) | ((with_reducible refine ld_case cc rfl ?a226 ?h226); (case a226 => exact ⟨_, rfl, rfl, rfl⟩)))
  ((with_reducible refine (HM.out _).mono ?_); rintro e w2 ⟨rfl, hb⟩)
  clear cc_4 cc_13 cc_14 cc_15 cc_16 cc_17 cc_18 cc_19
  have hsz := hb.size
  (try simp at hsz)
  replace cc := cellsAt_keep cc hb
  replace oz := OutZ.below oz hb
  replace ccz : w.heap.size < w2.heap.size := by omega
  replace ozz : w.heap.size + 1 < w2.heap.size := by omega
  have h2 := runAt_keep h1 hb
  replace G := gb_trans G (gb_of_below (some g) hb)
  clear hb hsz
  replace hS0 := G.size
  have cc_4 := cc 4 _ rfl
  have cc_13 := cc 13 _ rfl
  have cc_14 := cc 14 _ rfl
  have cc_15 := cc 15 _ rfl
  have cc_16 := cc 16 _ rfl
  have cc_17 := cc 17 _ rfl
  have cc_18 := cc 18 _ rfl
  have cc_19 := cc 19 _ rfl
  go_wp2_with (first | ((with_reducible refine ld_layT cc ?a227 ?h227); (case a227 => exact ⟨_, rfl, rfl, rfl⟩)) | ((with_reducible refine ld_case cc rfl ?a228 ?h228); (case a228 => exact ⟨_, rfl, rfl, rfl⟩)))
  ((with_reducible refine (load_some _ g _ _ _ h2).mono ?_); rintro e w3 ⟨rfl, h3, hb⟩)
  clear cc_4 cc_13 cc_14 cc_15 cc_16 cc_17 cc_18 cc_19
  have hsz := hb.size
  (try simp at hsz)
  replace cc := cellsAt_gb cc hb (by omega)
  replace oz := OutZ.gb oz hb (by omega)
  replace ccz : w.heap.size < w3.heap.size := by omega
  replace ozz : w.heap.size + 1 < w3.heap.size := by omega
  replace G := gb_trans G hb
  clear hb hsz
  replace hS0 := G.size
  have cc_4 := cc 4 _ rfl
  have cc_13 := cc 13 _ rfl
  have cc_14 := cc 14 _ rfl
  have cc_15 := cc 15 _ rfl
  have cc_16 := cc 16 _ rfl
  have cc_17 := cc 17 _ rfl
  have cc_18 := cc 18 _ rfl
  have cc_19 := cc 19 _ rfl
  go_wp2_with (first | ((with_reducible refine ld_layT cc ?a229 ?h229); (case a229 => exact ⟨_, rfl, rfl, rfl⟩)) | ((with_reducible refine ld_case cc rfl ?a230 ?h230); (case a230 => exact ⟨_, rfl, rfl, rfl⟩)))
  ((with_reducible refine (kind_any _ _).mono ?_); rintro e w' ⟨rfl, rfl⟩)
  go_wp2_with (first | ((with_reducible refine ld_layT cc ?a231 ?h231); (case a231 => exact ⟨_, rfl, rfl, rfl⟩)) | ((with_reducible refine ld_case cc rfl ?a232 ?h232); (case a232 => exact ⟨_, rfl, rfl, rfl⟩)))
  ((with_reducible refine (HS.out _).mono ?_); rintro e w4 ⟨rfl, hb⟩)
  clear cc_4 cc_13 cc_14 cc_15 cc_16 cc_17 cc_18 cc_19
  have hsz := hb.size
  (try simp at hsz)
  replace cc := cellsAt_keep cc hb
  replace oz := OutZ.below oz hb
  replace ccz : w.heap.size < w4.heap.size := by omega
  replace ozz : w.heap.size + 1 < w4.heap.size := by omega
  have h4 := runAt_keep h3 hb
  replace G := gb_trans G (gb_of_below (some g) hb)
  clear hb hsz
  replace hS0 := G.size
  have cc_4 := cc 4 _ rfl
  have cc_13 := cc 13 _ rfl
  have cc_14 := cc 14 _ rfl
  have cc_15 := cc 15 _ rfl
  have cc_16 := cc 16 _ rfl
  have cc_17 := cc 17 _ rfl
  have cc_18 := cc 18 _ rfl
  have cc_19 := cc 19 _ rfl
  go_wp2_with (first | ((with_reducible refine ld_layT cc ?a233 ?h233); (case a233 => exact ⟨_, rfl, rfl, rfl⟩)) | ((with_reducible refine ld_case cc rfl ?a234 ?h234); (case a234 => exact ⟨_, rfl, rfl, rfl⟩)))
  ((with_reducible refine (load_some _ g _ _ _ h4).mono ?_); rintro e w5 ⟨rfl, h5, hb⟩)
  clear cc_4 cc_13 cc_14 cc_15 cc_16 cc_17 cc_18 cc_19
  have hsz := hb.size
  (try simp at hsz)
  replace cc := cellsAt_gb cc hb (by omega)
  replace oz := OutZ.gb oz hb (by omega)
  replace ccz : w.heap.size < w5.heap.size := by omega
  replace ozz : w.heap.size + 1 < w5.heap.size := by omega
  replace G := gb_trans G hb
  clear hb hsz
  replace hS0 := G.size
  have cc_4 := cc 4 _ rfl
  have cc_13 := cc 13 _ rfl
  have cc_14 := cc 14 _ rfl
  have cc_15 := cc 15 _ rfl
  have cc_16 := cc 16 _ rfl
  have cc_17 := cc 17 _ rfl
  have cc_18 := cc 18 _ rfl
  have cc_19 := cc 19 _ rfl
  go_wp2_with (first | ((with_reducible refine ld_layT cc ?a235 ?h235); (case a235 => exact ⟨_, rfl, rfl, rfl⟩)) | ((with_reducible refine ld_case cc rfl ?a236 ?h236); (case a236 => exact ⟨_, rfl, rfl, rfl⟩)))
  ((with_reducible refine (kind_any _ _).mono ?_); rintro e w' ⟨rfl, rfl⟩)
  go_wp2_with (first | ((with_reducible refine ld_layT cc ?a237 ?h237); (case a237 => exact ⟨_, rfl, rfl, rfl⟩)) | ((with_reducible refine ld_case cc rfl ?a238 ?h238); (case a238 => exact ⟨_, rfl, rfl, rfl⟩)))
  ((with_reducible refine (try_any _ hi _).mono ?_); rintro e w' ⟨rfl, rfl⟩)
  go_wp2_with (first | ((with_reducible refine ld_layT (cellsAt_alloc cc _) ?a239 ?h239); (case a239 => exact ⟨_, rfl, rfl, rfl⟩)) | ((with_reducible refine ld_layT cc ?a240 ?h240); (case a240 => exact ⟨_, rfl, rfl, rfl⟩)) | ((with_reducible refine ld_case (cellsAt_alloc cc _) rfl ?a241 ?h241); (case a241 => exact ⟨_, rfl, rfl, rfl⟩)) | ((with_reducible refine ld_case cc rfl ?a242 ?h242); (case a242 => exact ⟨_, rfl, rfl, rfl⟩)))
  ((with_reducible refine (HT.out _).mono ?_); rintro e w6 ⟨rfl, hb⟩)
  clear cc_4 cc_13 cc_14 cc_15 cc_16 cc_17 cc_18 cc_19
  have hsz := hb.size
  (try simp at hsz)
  have xcczn : w.heap.size ≠ w5.heap.size := by omega
  have xozzn : w.heap.size + 1 ≠ w5.heap.size := by omega
  have xgn : w5.heap.size ≠ g := by omega
  have xlo : w.heap.size ≤ w5.heap.size := by omega
  replace cc := cellsAt_keep (cellsAt_alloc cc _) hb
  replace oz := OutZ.below (OutZ.alloc oz _) hb
  have xq0 : w6.cell? ⟨w5.heap.size, 0, none⟩ = some (.int .i64 0) := cel_below hb (by rw [World.cell?_alloc_at _ _ _ _ (by simp)]; rfl)
  have xq1 : w6.cell? ⟨w5.heap.size, 1, none⟩ = some (.int .i64 0) := cel_below hb (by rw [World.cell?_alloc_at _ _ _ _ (by simp)]; rfl)
  have xq2 : w6.cell? ⟨w5.heap.size, 2, none⟩ = some (.int .i64 (s.1 / 4)) := cel_below hb (by rw [World.cell?_alloc_at _ _ _ _ (by simp)]; rfl)
  have xf : ∀ o, w6.frozen? ⟨w5.heap.size, o, none⟩ = false := fun o => fro_below hb (by first | omega | (simp; done) | (simp; omega)) (World.frozen?_alloc_at _ _ _ _ (by simp))
  replace ccz : w.heap.size < w6.heap.size := by omega
  replace ozz : w.heap.size + 1 < w6.heap.size := by omega
  have xz : w5.heap.size < w6.heap.size := World.block_lt_of_cell? _ _ xq0
  have h6 := runAt_keep (runAt_alloc h5 _) hb
  replace G := gb_trans (gb_alloc G _) (gb_of_below (some g) hb)
  clear hb hsz
  replace hS0 := G.size
  have cc_4 := cc 4 _ rfl
  have cc_13 := cc 13 _ rfl
  have cc_14 := cc 14 _ rfl
  have cc_15 := cc 15 _ rfl
  have cc_16 := cc 16 _ rfl
  have cc_17 := cc 17 _ rfl
  have cc_18 := cc 18 _ rfl
  have cc_19 := cc 19 _ rfl
  go_wp2_with (first | ((with_reducible refine ld_layT cc ?a243 ?h243); (case a243 => exact ⟨_, rfl, rfl, rfl⟩)) | ((with_reducible refine ld_case cc rfl ?a244 ?h244); (case a244 => exact ⟨_, rfl, rfl, rfl⟩)))
  ((with_reducible refine (load_some _ g _ _ _ h6).mono ?_); rintro e w7 ⟨rfl, h7, hb⟩)
  clear cc_4 cc_13 cc_14 cc_15 cc_16 cc_17 cc_18 cc_19
  have hsz := hb.size
  (try simp at hsz)
  replace cc := cellsAt_gb cc hb (by omega)
  replace oz := OutZ.gb oz hb (by omega)
  replace xq0 : w7.cell? ⟨w5.heap.size, 0, none⟩ = some (.int .i64 0) := gbc hb xq0 (by omega)
  replace xq1 : w7.cell? ⟨w5.heap.size, 1, none⟩ = some (.int .i64 0) := gbc hb xq1 (by omega)
  replace xq2 : w7.cell? ⟨w5.heap.size, 2, none⟩ = some (.int .i64 (s.1 / 4)) := gbc hb xq2 (by omega)
  replace xf : ∀ o, w7.frozen? ⟨w5.heap.size, o, none⟩ = false := fun o => gbf hb (by first | omega | (simp; done) | (simp; omega)) (by omega) (xf o)
  replace ccz : w.heap.size < w7.heap.size := by omega
  replace ozz : w.heap.size + 1 < w7.heap.size := by omega
  replace xz : w5.heap.size < w7.heap.size := by omega
  replace G := gb_trans G hb
  clear hb hsz
  replace hS0 := G.size
  have cc_4 := cc 4 _ rfl
  have cc_13 := cc 13 _ rfl
  have cc_14 := cc 14 _ rfl
  have cc_15 := cc 15 _ rfl
  have cc_16 := cc 16 _ rfl
  have cc_17 := cc 17 _ rfl
  have cc_18 := cc 18 _ rfl
  have cc_19 := cc 19 _ rfl
  go_wp2_with (first | ((with_reducible refine ld_layT (cellsAt_set cc (by omega) _) ?a245 ?h245); (case a245 => exact ⟨_, rfl, rfl, rfl⟩)) | ((with_reducible refine ld_layT cc ?a246 ?h246); (case a246 => exact ⟨_, rfl, rfl, rfl⟩)) | ((with_reducible refine ld_case (cellsAt_set cc (by omega) _) rfl ?a247 ?h247); (case a247 => exact ⟨_, rfl, rfl, rfl⟩)) | ((with_reducible refine ld_case cc rfl ?a248 ?h248); (case a248 => exact ⟨_, rfl, rfl, rfl⟩)))
  ((with_reducible refine (HK.out _).mono ?_); rintro e w8 ⟨rfl, hb⟩)
  clear cc_4 cc_13 cc_14 cc_15 cc_16 cc_17 cc_18 cc_19
  have hsz := hb.size
  (try simp at hsz)
  replace cc := cellsAt_keep (cellsAt_set cc (by omega) _) hb
  replace oz := OutZ.below (OutZ.set oz (by omega) _) hb
  replace xq0 : w8.cell? ⟨w5.heap.size, 0, none⟩ = some (.int .i64 t.1) := cel_below hb (World.cell?_setCell_same _ _ _ xq0)
  replace xq1 : w8.cell? ⟨w5.heap.size, 1, none⟩ = some (.int .i64 0) := cel_below hb (keepA_ xq1 (by omega))
  replace xq2 : w8.cell? ⟨w5.heap.size, 2, none⟩ = some (.int .i64 (s.1 / 4)) := cel_below hb (keepA_ xq2 (by omega))
  replace xf : ∀ o, w8.frozen? ⟨w5.heap.size, o, none⟩ = false := fun o => fro_below hb (by first | omega | (simp; done) | (simp; omega)) ((World.frozen?_setCell _ _ _ _).trans (xf o))
  replace ccz : w.heap.size < w8.heap.size := by omega
  replace ozz : w.heap.size + 1 < w8.heap.size := by omega
  replace xz : w5.heap.size < w8.heap.size := by omega
  have h8 := runAt_keep (runAt_set h7 (by omega) _) hb
  replace G := gb_trans (gb_set G (Or.inr (by first | exact Nat.le_refl _ | (dsimp only; omega))) _) (gb_of_below (some g) hb)
  clear hb hsz
  replace hS0 := G.size
  have cc_4 := cc 4 _ rfl
  have cc_13 := cc 13 _ rfl
  have cc_14 := cc 14 _ rfl
  have cc_15 := cc 15 _ rfl
  have cc_16 := cc 16 _ rfl
  have cc_17 := cc 17 _ rfl
  have cc_18 := cc 18 _ rfl
  have cc_19 := cc 19 _ rfl
  go_wp2_with (first | ((with_reducible refine ld_layT cc ?a249 ?h249); (case a249 => exact ⟨_, rfl, rfl, rfl⟩)) | ((with_reducible refine ld_case cc rfl ?a250 ?h250); (case a250 => exact ⟨_, rfl, rfl, rfl⟩)))
  ((with_reducible refine (load_none _ g _ h8).mono ?_); rintro e w9 ⟨rfl, hb⟩)
  exact ⟨rfl, rfl, gb_trans G (gb_of_below (some g) hb)⟩

theorem resR_tabort (w : World) (g : Nat) (L : Ly) (hok : L.ok) (me other : Int) (m : Ct) (r : Int × Bool) (s t k : Int × Bool) (l : List (Int × Bool)) (h0 : RunAt w g (r :: s :: t :: k :: l)) (hr : ¬r.1 % 4 = 3) (hi : I64 s.1) (hs : ¬s.1 % 4 = 0) (hc : chooseD L.c.m m ⟨t.1, k.1, s.1 / 4⟩ = 1) :
    Calls Try.prog 83 #[caseV L me other true m, .pointer (some ⟨g, 0, none⟩)] w fun e w' => e = .returned (OutD.v { val := 1 }) ∧ w.grownBy w' (some g) ∧ RunAt w' g l := by
  unfold caseV
  have HM : Hid (∀ w, Calls Try.prog 39 #[L.v, .int .i64 me] w fun e w' => e = .returned (.int .i64 (atStatus L me)) ∧ Below w.heap.size w w') := Lib.hid (fun w => status_any L me w hok)
  have HS : Hid (∀ w, Calls Try.prog 39 #[L.v, .int .i64 other] w fun e w' => e = .returned (.int .i64 (atStatus L other)) ∧ Below w.heap.size w w') := Lib.hid (fun w => status_any L other w hok)
  have HT : Hid (∀ w, Calls Try.prog 37 #[L.v, .int .i64 other] w fun e w' => e = .returned (.int .i64 (atStamp L other)) ∧ Below w.heap.size w w') := Lib.hid (fun w => stamp_any L other w hok)
  have HK : Hid (∀ w, Calls Try.prog 38 #[L.v, .int .i64 other] w fun e w' => e = .returned (.int .i64 (atKarma L other)) ∧ Below w.heap.size w w') := Lib.hid (fun w => karma_any L other w hok)
  unfold Ly.v at HM HS HT HK
  have hq : (r.1 % 4 == 3) = false := by simp [hr]
  have hs0 : (s.1 % 4 == 0) = false := by simp [hs]
  have HC : Hid (∀ w, Calls Try.prog 82 #[.int .i64 L.c.m, m.v, Ct.v ⟨t.1, k.1, s.1 / 4⟩] w fun e w' => e = .returned (.int .i64 1) ∧ Below w.heap.size w w') := Lib.hid (fun w => by rw [← hc]; exact choose_any _ _ _ w)
  unfold Ct.v at HC
  have hg0 := runAt_lt h0
  have G : w.grownBy w (some g) := gb_refl _ _
  have hS0 : w.heap.size + 0 ≤ w.heap.size := Nat.le_refl _
  go_enter Try.func83, Try.ntmps83
  go_wp2_with fail
  obtain ⟨w1, hwr⟩ : ∃ W, W = ((w.alloc (.cells #[.int .i64 L.c.t, .int .i64 L.c.l, .int .i64 L.c.k, .int .i64 L.c.s, .int .i64 L.c.m, .int .i64 L.clock, .int .i64 L.stamps, .int .i64 L.log, .int .i64 L.fin, .int .i64 L.thread, .int .i64 L.lock, .int .i64 L.loc, .int .i64 L.size, .int .i64 me, .int .i64 other, .bool true, .int .i64 m.s, .int .i64 m.k, .int .i64 m.a, .func (.func 82) #[] #[]] 131)).alloc (.cells #[.int .i64 0, .int .i64 0, .int .i64 0, .int .i64 0, .bool false, .bool false, .int .i64 0] 42)) := ⟨_, rfl⟩
  rw [← hwr]
  have hb : Below w.heap.size w w1 := by rw [hwr]; exact (Below.alloc (Below.alloc (Below.refl _ _) (by first | exact Nat.le_refl _ | (simp; omega) | simp) _) (by first | exact Nat.le_refl _ | (simp; omega) | simp) _)
  have cc : CellsAt w1 (w.heap.size) [.int .i64 L.c.t, .int .i64 L.c.l, .int .i64 L.c.k, .int .i64 L.c.s, .int .i64 L.c.m, .int .i64 L.clock, .int .i64 L.stamps, .int .i64 L.log, .int .i64 L.fin, .int .i64 L.thread, .int .i64 L.lock, .int .i64 L.loc, .int .i64 L.size, .int .i64 me, .int .i64 other, .bool true, .int .i64 m.s, .int .i64 m.k, .int .i64 m.a, .func (.func 82) #[] #[]] := by rw [hwr]; exact (cellsAt_alloc (cellsAt_new' w _ _ (w.heap.size) (by simp)) _)
  have ccz : w.heap.size < w1.heap.size := World.block_lt_of_cell? _ _ (cc 0 _ rfl)
  have oz : OutZ w1 (w.heap.size + 1) := by rw [hwr]; exact (OutZ.new' (w.alloc (.cells #[.int .i64 L.c.t, .int .i64 L.c.l, .int .i64 L.c.k, .int .i64 L.c.s, .int .i64 L.c.m, .int .i64 L.clock, .int .i64 L.stamps, .int .i64 L.log, .int .i64 L.fin, .int .i64 L.thread, .int .i64 L.lock, .int .i64 L.loc, .int .i64 L.size, .int .i64 me, .int .i64 other, .bool true, .int .i64 m.s, .int .i64 m.k, .int .i64 m.a, .func (.func 82) #[] #[]] 131)) _ (w.heap.size + 1) (by simp))
  have ozz : w.heap.size + 1 < w1.heap.size := OutZ.lt oz
  have h1 := runAt_keep h0 hb
  replace G := gb_trans G (gb_of_below (some g) hb)
  clear hb hwr
  replace hS0 := G.size
  have cc_4 := cc 4 _ rfl
  have cc_13 := cc 13 _ rfl
  have cc_14 := cc 14 _ rfl
  have cc_15 := cc 15 _ rfl
  have cc_16 := cc 16 _ rfl
  have cc_17 := cc 17 _ rfl
  have cc_18 := cc 18 _ rfl
  have cc_19 := cc 19 _ rfl
  go_wp2_with (first | ((with_reducible refine ld_layT cc ?a251 ?h251); (case a251 => exact ⟨_, rfl, rfl, rfl⟩)) | ((with_reducible refine ld_case cc rfl ?a252 ?h252); (case a252 => exact ⟨_, rfl, rfl, rfl⟩)))
  ((with_reducible refine (HM.out _).mono ?_); rintro e w2 ⟨rfl, hb⟩)
  clear cc_4 cc_13 cc_14 cc_15 cc_16 cc_17 cc_18 cc_19
  have hsz := hb.size
  (try simp at hsz)
  replace cc := cellsAt_keep cc hb
  replace oz := OutZ.below oz hb
  replace ccz : w.heap.size < w2.heap.size := by omega
  replace ozz : w.heap.size + 1 < w2.heap.size := by omega
  have h2 := runAt_keep h1 hb
  replace G := gb_trans G (gb_of_below (some g) hb)
  clear hb hsz
  replace hS0 := G.size
  have cc_4 := cc 4 _ rfl
  have cc_13 := cc 13 _ rfl
  have cc_14 := cc 14 _ rfl
  have cc_15 := cc 15 _ rfl
  have cc_16 := cc 16 _ rfl
  have cc_17 := cc 17 _ rfl
  have cc_18 := cc 18 _ rfl
  have cc_19 := cc 19 _ rfl
  go_wp2_with (first | ((with_reducible refine ld_layT cc ?a253 ?h253); (case a253 => exact ⟨_, rfl, rfl, rfl⟩)) | ((with_reducible refine ld_case cc rfl ?a254 ?h254); (case a254 => exact ⟨_, rfl, rfl, rfl⟩)))
  ((with_reducible refine (load_some _ g _ _ _ h2).mono ?_); rintro e w3 ⟨rfl, h3, hb⟩)
  clear cc_4 cc_13 cc_14 cc_15 cc_16 cc_17 cc_18 cc_19
  have hsz := hb.size
  (try simp at hsz)
  replace cc := cellsAt_gb cc hb (by omega)
  replace oz := OutZ.gb oz hb (by omega)
  replace ccz : w.heap.size < w3.heap.size := by omega
  replace ozz : w.heap.size + 1 < w3.heap.size := by omega
  replace G := gb_trans G hb
  clear hb hsz
  replace hS0 := G.size
  have cc_4 := cc 4 _ rfl
  have cc_13 := cc 13 _ rfl
  have cc_14 := cc 14 _ rfl
  have cc_15 := cc 15 _ rfl
  have cc_16 := cc 16 _ rfl
  have cc_17 := cc 17 _ rfl
  have cc_18 := cc 18 _ rfl
  have cc_19 := cc 19 _ rfl
  go_wp2_with (first | ((with_reducible refine ld_layT cc ?a255 ?h255); (case a255 => exact ⟨_, rfl, rfl, rfl⟩)) | ((with_reducible refine ld_case cc rfl ?a256 ?h256); (case a256 => exact ⟨_, rfl, rfl, rfl⟩)))
  ((with_reducible refine (kind_any _ _).mono ?_); rintro e w' ⟨rfl, rfl⟩)
  go_wp2_with (first | ((with_reducible refine ld_layT cc ?a257 ?h257); (case a257 => exact ⟨_, rfl, rfl, rfl⟩)) | ((with_reducible refine ld_case cc rfl ?a258 ?h258); (case a258 => exact ⟨_, rfl, rfl, rfl⟩)))
  ((with_reducible refine (HS.out _).mono ?_); rintro e w4 ⟨rfl, hb⟩)
  clear cc_4 cc_13 cc_14 cc_15 cc_16 cc_17 cc_18 cc_19
  have hsz := hb.size
  (try simp at hsz)
  replace cc := cellsAt_keep cc hb
  replace oz := OutZ.below oz hb
  replace ccz : w.heap.size < w4.heap.size := by omega
  replace ozz : w.heap.size + 1 < w4.heap.size := by omega
  have h4 := runAt_keep h3 hb
  replace G := gb_trans G (gb_of_below (some g) hb)
  clear hb hsz
  replace hS0 := G.size
  have cc_4 := cc 4 _ rfl
  have cc_13 := cc 13 _ rfl
  have cc_14 := cc 14 _ rfl
  have cc_15 := cc 15 _ rfl
  have cc_16 := cc 16 _ rfl
  have cc_17 := cc 17 _ rfl
  have cc_18 := cc 18 _ rfl
  have cc_19 := cc 19 _ rfl
  go_wp2_with (first | ((with_reducible refine ld_layT cc ?a259 ?h259); (case a259 => exact ⟨_, rfl, rfl, rfl⟩)) | ((with_reducible refine ld_case cc rfl ?a260 ?h260); (case a260 => exact ⟨_, rfl, rfl, rfl⟩)))
  ((with_reducible refine (load_some _ g _ _ _ h4).mono ?_); rintro e w5 ⟨rfl, h5, hb⟩)
  clear cc_4 cc_13 cc_14 cc_15 cc_16 cc_17 cc_18 cc_19
  have hsz := hb.size
  (try simp at hsz)
  replace cc := cellsAt_gb cc hb (by omega)
  replace oz := OutZ.gb oz hb (by omega)
  replace ccz : w.heap.size < w5.heap.size := by omega
  replace ozz : w.heap.size + 1 < w5.heap.size := by omega
  replace G := gb_trans G hb
  clear hb hsz
  replace hS0 := G.size
  have cc_4 := cc 4 _ rfl
  have cc_13 := cc 13 _ rfl
  have cc_14 := cc 14 _ rfl
  have cc_15 := cc 15 _ rfl
  have cc_16 := cc 16 _ rfl
  have cc_17 := cc 17 _ rfl
  have cc_18 := cc 18 _ rfl
  have cc_19 := cc 19 _ rfl
  go_wp2_with (first | ((with_reducible refine ld_layT cc ?a261 ?h261); (case a261 => exact ⟨_, rfl, rfl, rfl⟩)) | ((with_reducible refine ld_case cc rfl ?a262 ?h262); (case a262 => exact ⟨_, rfl, rfl, rfl⟩)))
  ((with_reducible refine (kind_any _ _).mono ?_); rintro e w' ⟨rfl, rfl⟩)
  go_wp2_with (first | ((with_reducible refine ld_layT cc ?a263 ?h263); (case a263 => exact ⟨_, rfl, rfl, rfl⟩)) | ((with_reducible refine ld_case cc rfl ?a264 ?h264); (case a264 => exact ⟨_, rfl, rfl, rfl⟩)))
  ((with_reducible refine (try_any _ hi _).mono ?_); rintro e w' ⟨rfl, rfl⟩)
  go_wp2_with (first | ((with_reducible refine ld_layT (cellsAt_alloc cc _) ?a265 ?h265); (case a265 => exact ⟨_, rfl, rfl, rfl⟩)) | ((with_reducible refine ld_layT cc ?a266 ?h266); (case a266 => exact ⟨_, rfl, rfl, rfl⟩)) | ((with_reducible refine ld_case (cellsAt_alloc cc _) rfl ?a267 ?h267); (case a267 => exact ⟨_, rfl, rfl, rfl⟩)) | ((with_reducible refine ld_case cc rfl ?a268 ?h268); (case a268 => exact ⟨_, rfl, rfl, rfl⟩)))
  ((with_reducible refine (HT.out _).mono ?_); rintro e w6 ⟨rfl, hb⟩)
  clear cc_4 cc_13 cc_14 cc_15 cc_16 cc_17 cc_18 cc_19
  have hsz := hb.size
  (try simp at hsz)
  have xcczn : w.heap.size ≠ w5.heap.size := by omega
  have xozzn : w.heap.size + 1 ≠ w5.heap.size := by omega
  have xgn : w5.heap.size ≠ g := by omega
  have xlo : w.heap.size ≤ w5.heap.size := by omega
  replace cc := cellsAt_keep (cellsAt_alloc cc _) hb
  replace oz := OutZ.below (OutZ.alloc oz _) hb
  have xq0 : w6.cell? ⟨w5.heap.size, 0, none⟩ = some (.int .i64 0) := cel_below hb (by rw [World.cell?_alloc_at _ _ _ _ (by simp)]; rfl)
  have xq1 : w6.cell? ⟨w5.heap.size, 1, none⟩ = some (.int .i64 0) := cel_below hb (by rw [World.cell?_alloc_at _ _ _ _ (by simp)]; rfl)
  have xq2 : w6.cell? ⟨w5.heap.size, 2, none⟩ = some (.int .i64 (s.1 / 4)) := cel_below hb (by rw [World.cell?_alloc_at _ _ _ _ (by simp)]; rfl)
  have xf : ∀ o, w6.frozen? ⟨w5.heap.size, o, none⟩ = false := fun o => fro_below hb (by first | omega | (simp; done) | (simp; omega)) (World.frozen?_alloc_at _ _ _ _ (by simp))
  replace ccz : w.heap.size < w6.heap.size := by omega
  replace ozz : w.heap.size + 1 < w6.heap.size := by omega
  have xz : w5.heap.size < w6.heap.size := World.block_lt_of_cell? _ _ xq0
  have h6 := runAt_keep (runAt_alloc h5 _) hb
  replace G := gb_trans (gb_alloc G _) (gb_of_below (some g) hb)
  clear hb hsz
  replace hS0 := G.size
  have cc_4 := cc 4 _ rfl
  have cc_13 := cc 13 _ rfl
  have cc_14 := cc 14 _ rfl
  have cc_15 := cc 15 _ rfl
  have cc_16 := cc 16 _ rfl
  have cc_17 := cc 17 _ rfl
  have cc_18 := cc 18 _ rfl
  have cc_19 := cc 19 _ rfl
  go_wp2_with (first | ((with_reducible refine ld_layT cc ?a269 ?h269); (case a269 => exact ⟨_, rfl, rfl, rfl⟩)) | ((with_reducible refine ld_case cc rfl ?a270 ?h270); (case a270 => exact ⟨_, rfl, rfl, rfl⟩)))
  ((with_reducible refine (load_some _ g _ _ _ h6).mono ?_); rintro e w7 ⟨rfl, h7, hb⟩)
  clear cc_4 cc_13 cc_14 cc_15 cc_16 cc_17 cc_18 cc_19
  have hsz := hb.size
  (try simp at hsz)
  replace cc := cellsAt_gb cc hb (by omega)
  replace oz := OutZ.gb oz hb (by omega)
  replace xq0 : w7.cell? ⟨w5.heap.size, 0, none⟩ = some (.int .i64 0) := gbc hb xq0 (by omega)
  replace xq1 : w7.cell? ⟨w5.heap.size, 1, none⟩ = some (.int .i64 0) := gbc hb xq1 (by omega)
  replace xq2 : w7.cell? ⟨w5.heap.size, 2, none⟩ = some (.int .i64 (s.1 / 4)) := gbc hb xq2 (by omega)
  replace xf : ∀ o, w7.frozen? ⟨w5.heap.size, o, none⟩ = false := fun o => gbf hb (by first | omega | (simp; done) | (simp; omega)) (by omega) (xf o)
  replace ccz : w.heap.size < w7.heap.size := by omega
  replace ozz : w.heap.size + 1 < w7.heap.size := by omega
  replace xz : w5.heap.size < w7.heap.size := by omega
  replace G := gb_trans G hb
  clear hb hsz
  replace hS0 := G.size
  have cc_4 := cc 4 _ rfl
  have cc_13 := cc 13 _ rfl
  have cc_14 := cc 14 _ rfl
  have cc_15 := cc 15 _ rfl
  have cc_16 := cc 16 _ rfl
  have cc_17 := cc 17 _ rfl
  have cc_18 := cc 18 _ rfl
  have cc_19 := cc 19 _ rfl
  go_wp2_with (first | ((with_reducible refine ld_layT (cellsAt_set cc (by omega) _) ?a271 ?h271); (case a271 => exact ⟨_, rfl, rfl, rfl⟩)) | ((with_reducible refine ld_layT cc ?a272 ?h272); (case a272 => exact ⟨_, rfl, rfl, rfl⟩)) | ((with_reducible refine ld_case (cellsAt_set cc (by omega) _) rfl ?a273 ?h273); (case a273 => exact ⟨_, rfl, rfl, rfl⟩)) | ((with_reducible refine ld_case cc rfl ?a274 ?h274); (case a274 => exact ⟨_, rfl, rfl, rfl⟩)))
  ((with_reducible refine (HK.out _).mono ?_); rintro e w8 ⟨rfl, hb⟩)
  clear cc_4 cc_13 cc_14 cc_15 cc_16 cc_17 cc_18 cc_19
  have hsz := hb.size
  (try simp at hsz)
  replace cc := cellsAt_keep (cellsAt_set cc (by omega) _) hb
  replace oz := OutZ.below (OutZ.set oz (by omega) _) hb
  replace xq0 : w8.cell? ⟨w5.heap.size, 0, none⟩ = some (.int .i64 t.1) := cel_below hb (World.cell?_setCell_same _ _ _ xq0)
  replace xq1 : w8.cell? ⟨w5.heap.size, 1, none⟩ = some (.int .i64 0) := cel_below hb (keepA_ xq1 (by omega))
  replace xq2 : w8.cell? ⟨w5.heap.size, 2, none⟩ = some (.int .i64 (s.1 / 4)) := cel_below hb (keepA_ xq2 (by omega))
  replace xf : ∀ o, w8.frozen? ⟨w5.heap.size, o, none⟩ = false := fun o => fro_below hb (by first | omega | (simp; done) | (simp; omega)) ((World.frozen?_setCell _ _ _ _).trans (xf o))
  replace ccz : w.heap.size < w8.heap.size := by omega
  replace ozz : w.heap.size + 1 < w8.heap.size := by omega
  replace xz : w5.heap.size < w8.heap.size := by omega
  have h8 := runAt_keep (runAt_set h7 (by omega) _) hb
  replace G := gb_trans (gb_set G (Or.inr (by first | exact Nat.le_refl _ | (dsimp only; omega))) _) (gb_of_below (some g) hb)
  clear hb hsz
  replace hS0 := G.size
  have cc_4 := cc 4 _ rfl
  have cc_13 := cc 13 _ rfl
  have cc_14 := cc 14 _ rfl
  have cc_15 := cc 15 _ rfl
  have cc_16 := cc 16 _ rfl
  have cc_17 := cc 17 _ rfl
  have cc_18 := cc 18 _ rfl
  have cc_19 := cc 19 _ rfl
  go_wp2_with (first | ((with_reducible refine ld_layT cc ?a275 ?h275); (case a275 => exact ⟨_, rfl, rfl, rfl⟩)) | ((with_reducible refine ld_case cc rfl ?a276 ?h276); (case a276 => exact ⟨_, rfl, rfl, rfl⟩)))
  ((with_reducible refine (load_some _ g _ _ _ h8).mono ?_); rintro e w9 ⟨rfl, h9, hb⟩)
  clear cc_4 cc_13 cc_14 cc_15 cc_16 cc_17 cc_18 cc_19
  have hsz := hb.size
  (try simp at hsz)
  replace cc := cellsAt_gb cc hb (by omega)
  replace oz := OutZ.gb oz hb (by omega)
  replace xq0 : w9.cell? ⟨w5.heap.size, 0, none⟩ = some (.int .i64 t.1) := gbc hb xq0 (by omega)
  replace xq1 : w9.cell? ⟨w5.heap.size, 1, none⟩ = some (.int .i64 0) := gbc hb xq1 (by omega)
  replace xq2 : w9.cell? ⟨w5.heap.size, 2, none⟩ = some (.int .i64 (s.1 / 4)) := gbc hb xq2 (by omega)
  replace xf : ∀ o, w9.frozen? ⟨w5.heap.size, o, none⟩ = false := fun o => gbf hb (by first | omega | (simp; done) | (simp; omega)) (by omega) (xf o)
  replace ccz : w.heap.size < w9.heap.size := by omega
  replace ozz : w.heap.size + 1 < w9.heap.size := by omega
  replace xz : w5.heap.size < w9.heap.size := by omega
  replace G := gb_trans G hb
  clear hb hsz
  replace hS0 := G.size
  have cc_4 := cc 4 _ rfl
  have cc_13 := cc 13 _ rfl
  have cc_14 := cc 14 _ rfl
  have cc_15 := cc 15 _ rfl
  have cc_16 := cc 16 _ rfl
  have cc_17 := cc 17 _ rfl
  have cc_18 := cc 18 _ rfl
  have cc_19 := cc 19 _ rfl
  go_wp2_with (first | ((with_reducible refine ld_layT (cellsAt_set cc (by omega) _) ?a277 ?h277); (case a277 => exact ⟨_, rfl, rfl, rfl⟩)) | ((with_reducible refine ld_layT cc ?a278 ?h278); (case a278 => exact ⟨_, rfl, rfl, rfl⟩)) | ((with_reducible refine ld_case (cellsAt_set cc (by omega) _) rfl ?a279 ?h279); (case a279 => exact ⟨_, rfl, rfl, rfl⟩)) | ((with_reducible refine ld_case cc rfl ?a280 ?h280); (case a280 => exact ⟨_, rfl, rfl, rfl⟩)))
  ((with_reducible refine (HC.out _).mono ?_); rintro e w10 ⟨rfl, hb⟩)
  clear cc_4 cc_13 cc_14 cc_15 cc_16 cc_17 cc_18 cc_19
  have hsz := hb.size
  (try simp at hsz)
  replace cc := cellsAt_keep (cellsAt_set cc (by omega) _) hb
  replace oz := OutZ.below (OutZ.set oz (by omega) _) hb
  replace xq0 : w10.cell? ⟨w5.heap.size, 0, none⟩ = some (.int .i64 t.1) := cel_below hb (keepA_ xq0 (by omega))
  replace xq1 : w10.cell? ⟨w5.heap.size, 1, none⟩ = some (.int .i64 k.1) := cel_below hb (World.cell?_setCell_same _ _ _ xq1)
  replace xq2 : w10.cell? ⟨w5.heap.size, 2, none⟩ = some (.int .i64 (s.1 / 4)) := cel_below hb (keepA_ xq2 (by omega))
  replace xf : ∀ o, w10.frozen? ⟨w5.heap.size, o, none⟩ = false := fun o => fro_below hb (by first | omega | (simp; done) | (simp; omega)) ((World.frozen?_setCell _ _ _ _).trans (xf o))
  replace ccz : w.heap.size < w10.heap.size := by omega
  replace ozz : w.heap.size + 1 < w10.heap.size := by omega
  replace xz : w5.heap.size < w10.heap.size := by omega
  have h10 := runAt_keep (runAt_set h9 (by omega) _) hb
  replace G := gb_trans (gb_set G (Or.inr (by first | exact Nat.le_refl _ | (dsimp only; omega))) _) (gb_of_below (some g) hb)
  clear hb hsz
  replace hS0 := G.size
  have cc_4 := cc 4 _ rfl
  have cc_13 := cc 13 _ rfl
  have cc_14 := cc 14 _ rfl
  have cc_15 := cc 15 _ rfl
  have cc_16 := cc 16 _ rfl
  have cc_17 := cc 17 _ rfl
  have cc_18 := cc 18 _ rfl
  have cc_19 := cc 19 _ rfl
  have oq0 := oz.c0
  have oq1 := oz.c1
  have oq2 := oz.c2
  have oq3 := oz.c3
  have oq4 := oz.c4
  have oq5 := oz.c5
  have oq6 := oz.c6
  have of := oz.fr
  go_wp2_with (first | ((with_reducible refine ld_layT cc ?a281 ?h281); (case a281 => exact ⟨_, rfl, rfl, rfl⟩)) | ((with_reducible refine ld_case cc rfl ?a282 ?h282); (case a282 => exact ⟨_, rfl, rfl, rfl⟩)))
  obtain ⟨W, hW, k0, k1, k2, k3, k4, k5, k6⟩ := outs_at oz (.int .i64 (1)) (.int .i64 (0)) (.int .i64 (0)) (.int .i64 (0)) (.bool false) (.bool false) (.int .i64 (0))
  rw [← hW]
  simp [bodyPost, results, Try.results83, go_sem, k0, k1, k2, k3, k4, k5, k6, OutD.v]
  rw [hW]
  exact ⟨gb_outs G (by first | exact Nat.le_refl _ | omega) _ _ _ _ _ _ _, runAt_outs h10 (by omega) _ _ _ _ _ _ _⟩

theorem resR_tret (w : World) (g : Nat) (L : Ly) (hok : L.ok) (me other : Int) (m : Ct) (r : Int × Bool) (s t k : Int × Bool) (l : List (Int × Bool)) (o : OutD) (h0 : RunAt w g (r :: s :: t :: k :: l)) (hr : ¬r.1 % 4 = 3) (hi : I64 s.1) (hs : ¬s.1 % 4 = 0) (hc : chooseD L.c.m m ⟨t.1, k.1, s.1 / 4⟩ = 2) (hd : (doomT L other s.1).run l = .inr o) :
    Calls Try.prog 83 #[caseV L me other true m, .pointer (some ⟨g, 0, none⟩)] w fun e w' => e = .returned (OutD.v o) ∧ w.grownBy w' (some g) ∧ RunAt w' g ((doomT L other s.1).rest l) := by
  unfold caseV
  have HM : Hid (∀ w, Calls Try.prog 39 #[L.v, .int .i64 me] w fun e w' => e = .returned (.int .i64 (atStatus L me)) ∧ Below w.heap.size w w') := Lib.hid (fun w => status_any L me w hok)
  have HS : Hid (∀ w, Calls Try.prog 39 #[L.v, .int .i64 other] w fun e w' => e = .returned (.int .i64 (atStatus L other)) ∧ Below w.heap.size w w') := Lib.hid (fun w => status_any L other w hok)
  have HT : Hid (∀ w, Calls Try.prog 37 #[L.v, .int .i64 other] w fun e w' => e = .returned (.int .i64 (atStamp L other)) ∧ Below w.heap.size w w') := Lib.hid (fun w => stamp_any L other w hok)
  have HK : Hid (∀ w, Calls Try.prog 38 #[L.v, .int .i64 other] w fun e w' => e = .returned (.int .i64 (atKarma L other)) ∧ Below w.heap.size w w') := Lib.hid (fun w => karma_any L other w hok)
  unfold Ly.v at HM HS HT HK
  have hq : (r.1 % 4 == 3) = false := by simp [hr]
  have hs0 : (s.1 % 4 == 0) = false := by simp [hs]
  have HC : Hid (∀ w, Calls Try.prog 82 #[.int .i64 L.c.m, m.v, Ct.v ⟨t.1, k.1, s.1 / 4⟩] w fun e w' => e = .returned (.int .i64 2) ∧ Below w.heap.size w w') := Lib.hid (fun w => by rw [← hc]; exact choose_any _ _ _ w)
  unfold Ct.v at HC
  have HD : Hid (∀ w, RunAt w g l → Calls Try.prog 96 #[caseV L me other true m, .pointer (some ⟨g, 0, none⟩), .int .i64 s.1] w fun e w' => e = .returned o.v ∧ w.grownBy w' (some g) ∧ RunAt w' g ((doomT L other s.1).rest l)) := Lib.hid (fun w h => by have := doomR_any w g L hok me other true m s.1 hi l h; rw [hd] at this; exact (this.mono fun e w' h => ⟨h.1.1, h.1.2, h.2 o rfl⟩))
  unfold caseV at HD
  unfold OutD.v at HD
  have hg0 := runAt_lt h0
  have G : w.grownBy w (some g) := gb_refl _ _
  have hS0 : w.heap.size + 0 ≤ w.heap.size := Nat.le_refl _
  go_enter Try.func83, Try.ntmps83
  go_wp2_with fail
  obtain ⟨w1, hwr⟩ : ∃ W, W = ((w.alloc (.cells #[.int .i64 L.c.t, .int .i64 L.c.l, .int .i64 L.c.k, .int .i64 L.c.s, .int .i64 L.c.m, .int .i64 L.clock, .int .i64 L.stamps, .int .i64 L.log, .int .i64 L.fin, .int .i64 L.thread, .int .i64 L.lock, .int .i64 L.loc, .int .i64 L.size, .int .i64 me, .int .i64 other, .bool true, .int .i64 m.s, .int .i64 m.k, .int .i64 m.a, .func (.func 82) #[] #[]] 131)).alloc (.cells #[.int .i64 0, .int .i64 0, .int .i64 0, .int .i64 0, .bool false, .bool false, .int .i64 0] 42)) := ⟨_, rfl⟩
  rw [← hwr]
  have hb : Below w.heap.size w w1 := by rw [hwr]; exact (Below.alloc (Below.alloc (Below.refl _ _) (by first | exact Nat.le_refl _ | (simp; omega) | simp) _) (by first | exact Nat.le_refl _ | (simp; omega) | simp) _)
  have cc : CellsAt w1 (w.heap.size) [.int .i64 L.c.t, .int .i64 L.c.l, .int .i64 L.c.k, .int .i64 L.c.s, .int .i64 L.c.m, .int .i64 L.clock, .int .i64 L.stamps, .int .i64 L.log, .int .i64 L.fin, .int .i64 L.thread, .int .i64 L.lock, .int .i64 L.loc, .int .i64 L.size, .int .i64 me, .int .i64 other, .bool true, .int .i64 m.s, .int .i64 m.k, .int .i64 m.a, .func (.func 82) #[] #[]] := by rw [hwr]; exact (cellsAt_alloc (cellsAt_new' w _ _ (w.heap.size) (by simp)) _)
  have ccz : w.heap.size < w1.heap.size := World.block_lt_of_cell? _ _ (cc 0 _ rfl)
  have oz : OutZ w1 (w.heap.size + 1) := by rw [hwr]; exact (OutZ.new' (w.alloc (.cells #[.int .i64 L.c.t, .int .i64 L.c.l, .int .i64 L.c.k, .int .i64 L.c.s, .int .i64 L.c.m, .int .i64 L.clock, .int .i64 L.stamps, .int .i64 L.log, .int .i64 L.fin, .int .i64 L.thread, .int .i64 L.lock, .int .i64 L.loc, .int .i64 L.size, .int .i64 me, .int .i64 other, .bool true, .int .i64 m.s, .int .i64 m.k, .int .i64 m.a, .func (.func 82) #[] #[]] 131)) _ (w.heap.size + 1) (by simp))
  have ozz : w.heap.size + 1 < w1.heap.size := OutZ.lt oz
  have h1 := runAt_keep h0 hb
  replace G := gb_trans G (gb_of_below (some g) hb)
  clear hb hwr
  replace hS0 := G.size
  have cc_4 := cc 4 _ rfl
  have cc_13 := cc 13 _ rfl
  have cc_14 := cc 14 _ rfl
  have cc_15 := cc 15 _ rfl
  have cc_16 := cc 16 _ rfl
  have cc_17 := cc 17 _ rfl
  have cc_18 := cc 18 _ rfl
  have cc_19 := cc 19 _ rfl
  go_wp2_with (first | ((with_reducible refine ld_layT cc ?a283 ?h283); (case a283 => exact ⟨_, rfl, rfl, rfl⟩)) | ((with_reducible refine ld_case cc rfl ?a284 ?h284); (case a284 => exact ⟨_, rfl, rfl, rfl⟩)))
  ((with_reducible refine (HM.out _).mono ?_); rintro e w2 ⟨rfl, hb⟩)
  clear cc_4 cc_13 cc_14 cc_15 cc_16 cc_17 cc_18 cc_19
  have hsz := hb.size
  (try simp at hsz)
  replace cc := cellsAt_keep cc hb
  replace oz := OutZ.below oz hb
  replace ccz : w.heap.size < w2.heap.size := by omega
  replace ozz : w.heap.size + 1 < w2.heap.size := by omega
  have h2 := runAt_keep h1 hb
  replace G := gb_trans G (gb_of_below (some g) hb)
  clear hb hsz
  replace hS0 := G.size
  have cc_4 := cc 4 _ rfl
  have cc_13 := cc 13 _ rfl
  have cc_14 := cc 14 _ rfl
  have cc_15 := cc 15 _ rfl
  have cc_16 := cc 16 _ rfl
  have cc_17 := cc 17 _ rfl
  have cc_18 := cc 18 _ rfl
  have cc_19 := cc 19 _ rfl
  go_wp2_with (first | ((with_reducible refine ld_layT cc ?a285 ?h285); (case a285 => exact ⟨_, rfl, rfl, rfl⟩)) | ((with_reducible refine ld_case cc rfl ?a286 ?h286); (case a286 => exact ⟨_, rfl, rfl, rfl⟩)))
  ((with_reducible refine (load_some _ g _ _ _ h2).mono ?_); rintro e w3 ⟨rfl, h3, hb⟩)
  clear cc_4 cc_13 cc_14 cc_15 cc_16 cc_17 cc_18 cc_19
  have hsz := hb.size
  (try simp at hsz)
  replace cc := cellsAt_gb cc hb (by omega)
  replace oz := OutZ.gb oz hb (by omega)
  replace ccz : w.heap.size < w3.heap.size := by omega
  replace ozz : w.heap.size + 1 < w3.heap.size := by omega
  replace G := gb_trans G hb
  clear hb hsz
  replace hS0 := G.size
  have cc_4 := cc 4 _ rfl
  have cc_13 := cc 13 _ rfl
  have cc_14 := cc 14 _ rfl
  have cc_15 := cc 15 _ rfl
  have cc_16 := cc 16 _ rfl
  have cc_17 := cc 17 _ rfl
  have cc_18 := cc 18 _ rfl
  have cc_19 := cc 19 _ rfl
  go_wp2_with (first | ((with_reducible refine ld_layT cc ?a287 ?h287); (case a287 => exact ⟨_, rfl, rfl, rfl⟩)) | ((with_reducible refine ld_case cc rfl ?a288 ?h288); (case a288 => exact ⟨_, rfl, rfl, rfl⟩)))
  ((with_reducible refine (kind_any _ _).mono ?_); rintro e w' ⟨rfl, rfl⟩)
  go_wp2_with (first | ((with_reducible refine ld_layT cc ?a289 ?h289); (case a289 => exact ⟨_, rfl, rfl, rfl⟩)) | ((with_reducible refine ld_case cc rfl ?a290 ?h290); (case a290 => exact ⟨_, rfl, rfl, rfl⟩)))
  ((with_reducible refine (HS.out _).mono ?_); rintro e w4 ⟨rfl, hb⟩)
  clear cc_4 cc_13 cc_14 cc_15 cc_16 cc_17 cc_18 cc_19
  have hsz := hb.size
  (try simp at hsz)
  replace cc := cellsAt_keep cc hb
  replace oz := OutZ.below oz hb
  replace ccz : w.heap.size < w4.heap.size := by omega
  replace ozz : w.heap.size + 1 < w4.heap.size := by omega
  have h4 := runAt_keep h3 hb
  replace G := gb_trans G (gb_of_below (some g) hb)
  clear hb hsz
  replace hS0 := G.size
  have cc_4 := cc 4 _ rfl
  have cc_13 := cc 13 _ rfl
  have cc_14 := cc 14 _ rfl
  have cc_15 := cc 15 _ rfl
  have cc_16 := cc 16 _ rfl
  have cc_17 := cc 17 _ rfl
  have cc_18 := cc 18 _ rfl
  have cc_19 := cc 19 _ rfl
  go_wp2_with (first | ((with_reducible refine ld_layT cc ?a291 ?h291); (case a291 => exact ⟨_, rfl, rfl, rfl⟩)) | ((with_reducible refine ld_case cc rfl ?a292 ?h292); (case a292 => exact ⟨_, rfl, rfl, rfl⟩)))
  ((with_reducible refine (load_some _ g _ _ _ h4).mono ?_); rintro e w5 ⟨rfl, h5, hb⟩)
  clear cc_4 cc_13 cc_14 cc_15 cc_16 cc_17 cc_18 cc_19
  have hsz := hb.size
  (try simp at hsz)
  replace cc := cellsAt_gb cc hb (by omega)
  replace oz := OutZ.gb oz hb (by omega)
  replace ccz : w.heap.size < w5.heap.size := by omega
  replace ozz : w.heap.size + 1 < w5.heap.size := by omega
  replace G := gb_trans G hb
  clear hb hsz
  replace hS0 := G.size
  have cc_4 := cc 4 _ rfl
  have cc_13 := cc 13 _ rfl
  have cc_14 := cc 14 _ rfl
  have cc_15 := cc 15 _ rfl
  have cc_16 := cc 16 _ rfl
  have cc_17 := cc 17 _ rfl
  have cc_18 := cc 18 _ rfl
  have cc_19 := cc 19 _ rfl
  go_wp2_with (first | ((with_reducible refine ld_layT cc ?a293 ?h293); (case a293 => exact ⟨_, rfl, rfl, rfl⟩)) | ((with_reducible refine ld_case cc rfl ?a294 ?h294); (case a294 => exact ⟨_, rfl, rfl, rfl⟩)))
  ((with_reducible refine (kind_any _ _).mono ?_); rintro e w' ⟨rfl, rfl⟩)
  go_wp2_with (first | ((with_reducible refine ld_layT cc ?a295 ?h295); (case a295 => exact ⟨_, rfl, rfl, rfl⟩)) | ((with_reducible refine ld_case cc rfl ?a296 ?h296); (case a296 => exact ⟨_, rfl, rfl, rfl⟩)))
  ((with_reducible refine (try_any _ hi _).mono ?_); rintro e w' ⟨rfl, rfl⟩)
  go_wp2_with (first | ((with_reducible refine ld_layT (cellsAt_alloc cc _) ?a297 ?h297); (case a297 => exact ⟨_, rfl, rfl, rfl⟩)) | ((with_reducible refine ld_layT cc ?a298 ?h298); (case a298 => exact ⟨_, rfl, rfl, rfl⟩)) | ((with_reducible refine ld_case (cellsAt_alloc cc _) rfl ?a299 ?h299); (case a299 => exact ⟨_, rfl, rfl, rfl⟩)) | ((with_reducible refine ld_case cc rfl ?a300 ?h300); (case a300 => exact ⟨_, rfl, rfl, rfl⟩)))
  ((with_reducible refine (HT.out _).mono ?_); rintro e w6 ⟨rfl, hb⟩)
  clear cc_4 cc_13 cc_14 cc_15 cc_16 cc_17 cc_18 cc_19
  have hsz := hb.size
  (try simp at hsz)
  have xcczn : w.heap.size ≠ w5.heap.size := by omega
  have xozzn : w.heap.size + 1 ≠ w5.heap.size := by omega
  have xgn : w5.heap.size ≠ g := by omega
  have xlo : w.heap.size ≤ w5.heap.size := by omega
  replace cc := cellsAt_keep (cellsAt_alloc cc _) hb
  replace oz := OutZ.below (OutZ.alloc oz _) hb
  have xq0 : w6.cell? ⟨w5.heap.size, 0, none⟩ = some (.int .i64 0) := cel_below hb (by rw [World.cell?_alloc_at _ _ _ _ (by simp)]; rfl)
  have xq1 : w6.cell? ⟨w5.heap.size, 1, none⟩ = some (.int .i64 0) := cel_below hb (by rw [World.cell?_alloc_at _ _ _ _ (by simp)]; rfl)
  have xq2 : w6.cell? ⟨w5.heap.size, 2, none⟩ = some (.int .i64 (s.1 / 4)) := cel_below hb (by rw [World.cell?_alloc_at _ _ _ _ (by simp)]; rfl)
  have xf : ∀ o, w6.frozen? ⟨w5.heap.size, o, none⟩ = false := fun o => fro_below hb (by first | omega | (simp; done) | (simp; omega)) (World.frozen?_alloc_at _ _ _ _ (by simp))
  replace ccz : w.heap.size < w6.heap.size := by omega
  replace ozz : w.heap.size + 1 < w6.heap.size := by omega
  have xz : w5.heap.size < w6.heap.size := World.block_lt_of_cell? _ _ xq0
  have h6 := runAt_keep (runAt_alloc h5 _) hb
  replace G := gb_trans (gb_alloc G _) (gb_of_below (some g) hb)
  clear hb hsz
  replace hS0 := G.size
  have cc_4 := cc 4 _ rfl
  have cc_13 := cc 13 _ rfl
  have cc_14 := cc 14 _ rfl
  have cc_15 := cc 15 _ rfl
  have cc_16 := cc 16 _ rfl
  have cc_17 := cc 17 _ rfl
  have cc_18 := cc 18 _ rfl
  have cc_19 := cc 19 _ rfl
  go_wp2_with (first | ((with_reducible refine ld_layT cc ?a301 ?h301); (case a301 => exact ⟨_, rfl, rfl, rfl⟩)) | ((with_reducible refine ld_case cc rfl ?a302 ?h302); (case a302 => exact ⟨_, rfl, rfl, rfl⟩)))
  ((with_reducible refine (load_some _ g _ _ _ h6).mono ?_); rintro e w7 ⟨rfl, h7, hb⟩)
  clear cc_4 cc_13 cc_14 cc_15 cc_16 cc_17 cc_18 cc_19
  have hsz := hb.size
  (try simp at hsz)
  replace cc := cellsAt_gb cc hb (by omega)
  replace oz := OutZ.gb oz hb (by omega)
  replace xq0 : w7.cell? ⟨w5.heap.size, 0, none⟩ = some (.int .i64 0) := gbc hb xq0 (by omega)
  replace xq1 : w7.cell? ⟨w5.heap.size, 1, none⟩ = some (.int .i64 0) := gbc hb xq1 (by omega)
  replace xq2 : w7.cell? ⟨w5.heap.size, 2, none⟩ = some (.int .i64 (s.1 / 4)) := gbc hb xq2 (by omega)
  replace xf : ∀ o, w7.frozen? ⟨w5.heap.size, o, none⟩ = false := fun o => gbf hb (by first | omega | (simp; done) | (simp; omega)) (by omega) (xf o)
  replace ccz : w.heap.size < w7.heap.size := by omega
  replace ozz : w.heap.size + 1 < w7.heap.size := by omega
  replace xz : w5.heap.size < w7.heap.size := by omega
  replace G := gb_trans G hb
  clear hb hsz
  replace hS0 := G.size
  have cc_4 := cc 4 _ rfl
  have cc_13 := cc 13 _ rfl
  have cc_14 := cc 14 _ rfl
  have cc_15 := cc 15 _ rfl
  have cc_16 := cc 16 _ rfl
  have cc_17 := cc 17 _ rfl
  have cc_18 := cc 18 _ rfl
  have cc_19 := cc 19 _ rfl
  go_wp2_with (first | ((with_reducible refine ld_layT (cellsAt_set cc (by omega) _) ?a303 ?h303); (case a303 => exact ⟨_, rfl, rfl, rfl⟩)) | ((with_reducible refine ld_layT cc ?a304 ?h304); (case a304 => exact ⟨_, rfl, rfl, rfl⟩)) | ((with_reducible refine ld_case (cellsAt_set cc (by omega) _) rfl ?a305 ?h305); (case a305 => exact ⟨_, rfl, rfl, rfl⟩)) | ((with_reducible refine ld_case cc rfl ?a306 ?h306); (case a306 => exact ⟨_, rfl, rfl, rfl⟩)))
  ((with_reducible refine (HK.out _).mono ?_); rintro e w8 ⟨rfl, hb⟩)
  clear cc_4 cc_13 cc_14 cc_15 cc_16 cc_17 cc_18 cc_19
  have hsz := hb.size
  (try simp at hsz)
  replace cc := cellsAt_keep (cellsAt_set cc (by omega) _) hb
  replace oz := OutZ.below (OutZ.set oz (by omega) _) hb
  replace xq0 : w8.cell? ⟨w5.heap.size, 0, none⟩ = some (.int .i64 t.1) := cel_below hb (World.cell?_setCell_same _ _ _ xq0)
  replace xq1 : w8.cell? ⟨w5.heap.size, 1, none⟩ = some (.int .i64 0) := cel_below hb (keepA_ xq1 (by omega))
  replace xq2 : w8.cell? ⟨w5.heap.size, 2, none⟩ = some (.int .i64 (s.1 / 4)) := cel_below hb (keepA_ xq2 (by omega))
  replace xf : ∀ o, w8.frozen? ⟨w5.heap.size, o, none⟩ = false := fun o => fro_below hb (by first | omega | (simp; done) | (simp; omega)) ((World.frozen?_setCell _ _ _ _).trans (xf o))
  replace ccz : w.heap.size < w8.heap.size := by omega
  replace ozz : w.heap.size + 1 < w8.heap.size := by omega
  replace xz : w5.heap.size < w8.heap.size := by omega
  have h8 := runAt_keep (runAt_set h7 (by omega) _) hb
  replace G := gb_trans (gb_set G (Or.inr (by first | exact Nat.le_refl _ | (dsimp only; omega))) _) (gb_of_below (some g) hb)
  clear hb hsz
  replace hS0 := G.size
  have cc_4 := cc 4 _ rfl
  have cc_13 := cc 13 _ rfl
  have cc_14 := cc 14 _ rfl
  have cc_15 := cc 15 _ rfl
  have cc_16 := cc 16 _ rfl
  have cc_17 := cc 17 _ rfl
  have cc_18 := cc 18 _ rfl
  have cc_19 := cc 19 _ rfl
  go_wp2_with (first | ((with_reducible refine ld_layT cc ?a307 ?h307); (case a307 => exact ⟨_, rfl, rfl, rfl⟩)) | ((with_reducible refine ld_case cc rfl ?a308 ?h308); (case a308 => exact ⟨_, rfl, rfl, rfl⟩)))
  ((with_reducible refine (load_some _ g _ _ _ h8).mono ?_); rintro e w9 ⟨rfl, h9, hb⟩)
  clear cc_4 cc_13 cc_14 cc_15 cc_16 cc_17 cc_18 cc_19
  have hsz := hb.size
  (try simp at hsz)
  replace cc := cellsAt_gb cc hb (by omega)
  replace oz := OutZ.gb oz hb (by omega)
  replace xq0 : w9.cell? ⟨w5.heap.size, 0, none⟩ = some (.int .i64 t.1) := gbc hb xq0 (by omega)
  replace xq1 : w9.cell? ⟨w5.heap.size, 1, none⟩ = some (.int .i64 0) := gbc hb xq1 (by omega)
  replace xq2 : w9.cell? ⟨w5.heap.size, 2, none⟩ = some (.int .i64 (s.1 / 4)) := gbc hb xq2 (by omega)
  replace xf : ∀ o, w9.frozen? ⟨w5.heap.size, o, none⟩ = false := fun o => gbf hb (by first | omega | (simp; done) | (simp; omega)) (by omega) (xf o)
  replace ccz : w.heap.size < w9.heap.size := by omega
  replace ozz : w.heap.size + 1 < w9.heap.size := by omega
  replace xz : w5.heap.size < w9.heap.size := by omega
  replace G := gb_trans G hb
  clear hb hsz
  replace hS0 := G.size
  have cc_4 := cc 4 _ rfl
  have cc_13 := cc 13 _ rfl
  have cc_14 := cc 14 _ rfl
  have cc_15 := cc 15 _ rfl
  have cc_16 := cc 16 _ rfl
  have cc_17 := cc 17 _ rfl
  have cc_18 := cc 18 _ rfl
  have cc_19 := cc 19 _ rfl
  go_wp2_with (first | ((with_reducible refine ld_layT (cellsAt_set cc (by omega) _) ?a309 ?h309); (case a309 => exact ⟨_, rfl, rfl, rfl⟩)) | ((with_reducible refine ld_layT cc ?a310 ?h310); (case a310 => exact ⟨_, rfl, rfl, rfl⟩)) | ((with_reducible refine ld_case (cellsAt_set cc (by omega) _) rfl ?a311 ?h311); (case a311 => exact ⟨_, rfl, rfl, rfl⟩)) | ((with_reducible refine ld_case cc rfl ?a312 ?h312); (case a312 => exact ⟨_, rfl, rfl, rfl⟩)))
  ((with_reducible refine (HC.out _).mono ?_); rintro e w10 ⟨rfl, hb⟩)
  clear cc_4 cc_13 cc_14 cc_15 cc_16 cc_17 cc_18 cc_19
  have hsz := hb.size
  (try simp at hsz)
  replace cc := cellsAt_keep (cellsAt_set cc (by omega) _) hb
  replace oz := OutZ.below (OutZ.set oz (by omega) _) hb
  replace xq0 : w10.cell? ⟨w5.heap.size, 0, none⟩ = some (.int .i64 t.1) := cel_below hb (keepA_ xq0 (by omega))
  replace xq1 : w10.cell? ⟨w5.heap.size, 1, none⟩ = some (.int .i64 k.1) := cel_below hb (World.cell?_setCell_same _ _ _ xq1)
  replace xq2 : w10.cell? ⟨w5.heap.size, 2, none⟩ = some (.int .i64 (s.1 / 4)) := cel_below hb (keepA_ xq2 (by omega))
  replace xf : ∀ o, w10.frozen? ⟨w5.heap.size, o, none⟩ = false := fun o => fro_below hb (by first | omega | (simp; done) | (simp; omega)) ((World.frozen?_setCell _ _ _ _).trans (xf o))
  replace ccz : w.heap.size < w10.heap.size := by omega
  replace ozz : w.heap.size + 1 < w10.heap.size := by omega
  replace xz : w5.heap.size < w10.heap.size := by omega
  have h10 := runAt_keep (runAt_set h9 (by omega) _) hb
  replace G := gb_trans (gb_set G (Or.inr (by first | exact Nat.le_refl _ | (dsimp only; omega))) _) (gb_of_below (some g) hb)
  clear hb hsz
  replace hS0 := G.size
  have cc_4 := cc 4 _ rfl
  have cc_13 := cc 13 _ rfl
  have cc_14 := cc 14 _ rfl
  have cc_15 := cc 15 _ rfl
  have cc_16 := cc 16 _ rfl
  have cc_17 := cc 17 _ rfl
  have cc_18 := cc 18 _ rfl
  have cc_19 := cc 19 _ rfl
  go_wp2_with (first | ((with_reducible refine ld_layT cc ?a313 ?h313); (case a313 => exact ⟨_, rfl, rfl, rfl⟩)) | ((with_reducible refine ld_case cc rfl ?a314 ?h314); (case a314 => exact ⟨_, rfl, rfl, rfl⟩)))
  ((with_reducible refine (HD.out _ h10).mono ?_); rintro e w11 ⟨rfl, hb, h11⟩)
  clear cc_4 cc_13 cc_14 cc_15 cc_16 cc_17 cc_18 cc_19
  have hsz := hb.size
  (try simp at hsz)
  replace cc := cellsAt_gb cc hb (by omega)
  replace oz := OutZ.gb oz hb (by omega)
  replace xq0 : w11.cell? ⟨w5.heap.size, 0, none⟩ = some (.int .i64 t.1) := gbc hb xq0 (by omega)
  replace xq1 : w11.cell? ⟨w5.heap.size, 1, none⟩ = some (.int .i64 k.1) := gbc hb xq1 (by omega)
  replace xq2 : w11.cell? ⟨w5.heap.size, 2, none⟩ = some (.int .i64 (s.1 / 4)) := gbc hb xq2 (by omega)
  replace xf : ∀ o, w11.frozen? ⟨w5.heap.size, o, none⟩ = false := fun o => gbf hb (by first | omega | (simp; done) | (simp; omega)) (by omega) (xf o)
  replace ccz : w.heap.size < w11.heap.size := by omega
  replace ozz : w.heap.size + 1 < w11.heap.size := by omega
  replace xz : w5.heap.size < w11.heap.size := by omega
  replace G := gb_trans G hb
  clear hb hsz
  replace hS0 := G.size
  have cc_4 := cc 4 _ rfl
  have cc_13 := cc 13 _ rfl
  have cc_14 := cc 14 _ rfl
  have cc_15 := cc 15 _ rfl
  have cc_16 := cc 16 _ rfl
  have cc_17 := cc 17 _ rfl
  have cc_18 := cc 18 _ rfl
  have cc_19 := cc 19 _ rfl
  have oq0 := oz.c0
  have oq1 := oz.c1
  have oq2 := oz.c2
  have oq3 := oz.c3
  have oq4 := oz.c4
  have oq5 := oz.c5
  have oq6 := oz.c6
  have of := oz.fr
  go_wp2_with (first | ((with_reducible refine ld_layT cc ?a315 ?h315); (case a315 => exact ⟨_, rfl, rfl, rfl⟩)) | ((with_reducible refine ld_case cc rfl ?a316 ?h316); (case a316 => exact ⟨_, rfl, rfl, rfl⟩)))
  obtain ⟨W, hW, k0, k1, k2, k3, k4, k5, k6⟩ := outs_at oz (.int .i64 o.val) (.int .i64 o.ver) (.int .i64 o.rv) (.int .i64 o.st) (.bool o.ok) (.bool o.lost) (.int .i64 o.err)
  rw [← hW]
  simp [bodyPost, results, Try.results83, go_sem, k0, k1, k2, k3, k4, k5, k6, OutD.v]
  rw [hW]
  exact ⟨gb_outs G (by first | exact Nat.le_refl _ | omega) _ _ _ _ _ _ _, runAt_outs h11 (by omega) _ _ _ _ _ _ _⟩

theorem resR_tpend (w : World) (g : Nat) (L : Ly) (hok : L.ok) (me other : Int) (m : Ct) (r : Int × Bool) (s t k : Int × Bool) (l : List (Int × Bool)) (a : Ask) (h0 : RunAt w g (r :: s :: t :: k :: l)) (hr : ¬r.1 % 4 = 3) (hi : I64 s.1) (hs : ¬s.1 % 4 = 0) (hc : chooseD L.c.m m ⟨t.1, k.1, s.1 / 4⟩ = 2) (hd : (doomT L other s.1).run l = .inl a) :
    Calls Try.prog 83 #[caseV L me other true m, .pointer (some ⟨g, 0, none⟩)] w fun e w' => e = .panicked [{ v := .iface 122 a.v, recovered := false }] ∧ w.grownBy w' (some g) := by
  unfold caseV
  have HM : Hid (∀ w, Calls Try.prog 39 #[L.v, .int .i64 me] w fun e w' => e = .returned (.int .i64 (atStatus L me)) ∧ Below w.heap.size w w') := Lib.hid (fun w => status_any L me w hok)
  have HS : Hid (∀ w, Calls Try.prog 39 #[L.v, .int .i64 other] w fun e w' => e = .returned (.int .i64 (atStatus L other)) ∧ Below w.heap.size w w') := Lib.hid (fun w => status_any L other w hok)
  have HT : Hid (∀ w, Calls Try.prog 37 #[L.v, .int .i64 other] w fun e w' => e = .returned (.int .i64 (atStamp L other)) ∧ Below w.heap.size w w') := Lib.hid (fun w => stamp_any L other w hok)
  have HK : Hid (∀ w, Calls Try.prog 38 #[L.v, .int .i64 other] w fun e w' => e = .returned (.int .i64 (atKarma L other)) ∧ Below w.heap.size w w') := Lib.hid (fun w => karma_any L other w hok)
  unfold Ly.v at HM HS HT HK
  have hq : (r.1 % 4 == 3) = false := by simp [hr]
  have hs0 : (s.1 % 4 == 0) = false := by simp [hs]
  have HC : Hid (∀ w, Calls Try.prog 82 #[.int .i64 L.c.m, m.v, Ct.v ⟨t.1, k.1, s.1 / 4⟩] w fun e w' => e = .returned (.int .i64 2) ∧ Below w.heap.size w w') := Lib.hid (fun w => by rw [← hc]; exact choose_any _ _ _ w)
  unfold Ct.v at HC
  have HD : Hid (∀ w, RunAt w g l → Calls Try.prog 96 #[caseV L me other true m, .pointer (some ⟨g, 0, none⟩), .int .i64 s.1] w fun e w' => e = .panicked [{ v := .iface 122 a.v, recovered := false }] ∧ w.grownBy w' (some g)) := Lib.hid (fun w h => by have := doom_any w g L hok me other true m s.1 hi l h; rw [hd] at this; exact this)
  unfold caseV at HD
  have hg0 := runAt_lt h0
  have G : w.grownBy w (some g) := gb_refl _ _
  have hS0 : w.heap.size + 0 ≤ w.heap.size := Nat.le_refl _
  go_enter Try.func83, Try.ntmps83
  go_wp2_with fail
  obtain ⟨w1, hwr⟩ : ∃ W, W = ((w.alloc (.cells #[.int .i64 L.c.t, .int .i64 L.c.l, .int .i64 L.c.k, .int .i64 L.c.s, .int .i64 L.c.m, .int .i64 L.clock, .int .i64 L.stamps, .int .i64 L.log, .int .i64 L.fin, .int .i64 L.thread, .int .i64 L.lock, .int .i64 L.loc, .int .i64 L.size, .int .i64 me, .int .i64 other, .bool true, .int .i64 m.s, .int .i64 m.k, .int .i64 m.a, .func (.func 82) #[] #[]] 131)).alloc (.cells #[.int .i64 0, .int .i64 0, .int .i64 0, .int .i64 0, .bool false, .bool false, .int .i64 0] 42)) := ⟨_, rfl⟩
  rw [← hwr]
  have hb : Below w.heap.size w w1 := by rw [hwr]; exact (Below.alloc (Below.alloc (Below.refl _ _) (by first | exact Nat.le_refl _ | (simp; omega) | simp) _) (by first | exact Nat.le_refl _ | (simp; omega) | simp) _)
  have cc : CellsAt w1 (w.heap.size) [.int .i64 L.c.t, .int .i64 L.c.l, .int .i64 L.c.k, .int .i64 L.c.s, .int .i64 L.c.m, .int .i64 L.clock, .int .i64 L.stamps, .int .i64 L.log, .int .i64 L.fin, .int .i64 L.thread, .int .i64 L.lock, .int .i64 L.loc, .int .i64 L.size, .int .i64 me, .int .i64 other, .bool true, .int .i64 m.s, .int .i64 m.k, .int .i64 m.a, .func (.func 82) #[] #[]] := by rw [hwr]; exact (cellsAt_alloc (cellsAt_new' w _ _ (w.heap.size) (by simp)) _)
  have ccz : w.heap.size < w1.heap.size := World.block_lt_of_cell? _ _ (cc 0 _ rfl)
  have oz : OutZ w1 (w.heap.size + 1) := by rw [hwr]; exact (OutZ.new' (w.alloc (.cells #[.int .i64 L.c.t, .int .i64 L.c.l, .int .i64 L.c.k, .int .i64 L.c.s, .int .i64 L.c.m, .int .i64 L.clock, .int .i64 L.stamps, .int .i64 L.log, .int .i64 L.fin, .int .i64 L.thread, .int .i64 L.lock, .int .i64 L.loc, .int .i64 L.size, .int .i64 me, .int .i64 other, .bool true, .int .i64 m.s, .int .i64 m.k, .int .i64 m.a, .func (.func 82) #[] #[]] 131)) _ (w.heap.size + 1) (by simp))
  have ozz : w.heap.size + 1 < w1.heap.size := OutZ.lt oz
  have h1 := runAt_keep h0 hb
  replace G := gb_trans G (gb_of_below (some g) hb)
  clear hb hwr
  replace hS0 := G.size
  have cc_4 := cc 4 _ rfl
  have cc_13 := cc 13 _ rfl
  have cc_14 := cc 14 _ rfl
  have cc_15 := cc 15 _ rfl
  have cc_16 := cc 16 _ rfl
  have cc_17 := cc 17 _ rfl
  have cc_18 := cc 18 _ rfl
  have cc_19 := cc 19 _ rfl
  go_wp2_with (first | ((with_reducible refine ld_layT cc ?a317 ?h317); (case a317 => exact ⟨_, rfl, rfl, rfl⟩)) | ((with_reducible refine ld_case cc rfl ?a318 ?h318); (case a318 => exact ⟨_, rfl, rfl, rfl⟩)))
  ((with_reducible refine (HM.out _).mono ?_); rintro e w2 ⟨rfl, hb⟩)
  clear cc_4 cc_13 cc_14 cc_15 cc_16 cc_17 cc_18 cc_19
  have hsz := hb.size
  (try simp at hsz)
  replace cc := cellsAt_keep cc hb
  replace oz := OutZ.below oz hb
  replace ccz : w.heap.size < w2.heap.size := by omega
  replace ozz : w.heap.size + 1 < w2.heap.size := by omega
  have h2 := runAt_keep h1 hb
  replace G := gb_trans G (gb_of_below (some g) hb)
  clear hb hsz
  replace hS0 := G.size
  have cc_4 := cc 4 _ rfl
  have cc_13 := cc 13 _ rfl
  have cc_14 := cc 14 _ rfl
  have cc_15 := cc 15 _ rfl
  have cc_16 := cc 16 _ rfl
  have cc_17 := cc 17 _ rfl
  have cc_18 := cc 18 _ rfl
  have cc_19 := cc 19 _ rfl
  go_wp2_with (first | ((with_reducible refine ld_layT cc ?a319 ?h319); (case a319 => exact ⟨_, rfl, rfl, rfl⟩)) | ((with_reducible refine ld_case cc rfl ?a320 ?h320); (case a320 => exact ⟨_, rfl, rfl, rfl⟩)))
  ((with_reducible refine (load_some _ g _ _ _ h2).mono ?_); rintro e w3 ⟨rfl, h3, hb⟩)
  clear cc_4 cc_13 cc_14 cc_15 cc_16 cc_17 cc_18 cc_19
  have hsz := hb.size
  (try simp at hsz)
  replace cc := cellsAt_gb cc hb (by omega)
  replace oz := OutZ.gb oz hb (by omega)
  replace ccz : w.heap.size < w3.heap.size := by omega
  replace ozz : w.heap.size + 1 < w3.heap.size := by omega
  replace G := gb_trans G hb
  clear hb hsz
  replace hS0 := G.size
  have cc_4 := cc 4 _ rfl
  have cc_13 := cc 13 _ rfl
  have cc_14 := cc 14 _ rfl
  have cc_15 := cc 15 _ rfl
  have cc_16 := cc 16 _ rfl
  have cc_17 := cc 17 _ rfl
  have cc_18 := cc 18 _ rfl
  have cc_19 := cc 19 _ rfl
  go_wp2_with (first | ((with_reducible refine ld_layT cc ?a321 ?h321); (case a321 => exact ⟨_, rfl, rfl, rfl⟩)) | ((with_reducible refine ld_case cc rfl ?a322 ?h322); (case a322 => exact ⟨_, rfl, rfl, rfl⟩)))
  ((with_reducible refine (kind_any _ _).mono ?_); rintro e w' ⟨rfl, rfl⟩)
  go_wp2_with (first | ((with_reducible refine ld_layT cc ?a323 ?h323); (case a323 => exact ⟨_, rfl, rfl, rfl⟩)) | ((with_reducible refine ld_case cc rfl ?a324 ?h324); (case a324 => exact ⟨_, rfl, rfl, rfl⟩)))
  ((with_reducible refine (HS.out _).mono ?_); rintro e w4 ⟨rfl, hb⟩)
  clear cc_4 cc_13 cc_14 cc_15 cc_16 cc_17 cc_18 cc_19
  have hsz := hb.size
  (try simp at hsz)
  replace cc := cellsAt_keep cc hb
  replace oz := OutZ.below oz hb
  replace ccz : w.heap.size < w4.heap.size := by omega
  replace ozz : w.heap.size + 1 < w4.heap.size := by omega
  have h4 := runAt_keep h3 hb
  replace G := gb_trans G (gb_of_below (some g) hb)
  clear hb hsz
  replace hS0 := G.size
  have cc_4 := cc 4 _ rfl
  have cc_13 := cc 13 _ rfl
  have cc_14 := cc 14 _ rfl
  have cc_15 := cc 15 _ rfl
  have cc_16 := cc 16 _ rfl
  have cc_17 := cc 17 _ rfl
  have cc_18 := cc 18 _ rfl
  have cc_19 := cc 19 _ rfl
  go_wp2_with (first | ((with_reducible refine ld_layT cc ?a325 ?h325); (case a325 => exact ⟨_, rfl, rfl, rfl⟩)) | ((with_reducible refine ld_case cc rfl ?a326 ?h326); (case a326 => exact ⟨_, rfl, rfl, rfl⟩)))
  ((with_reducible refine (load_some _ g _ _ _ h4).mono ?_); rintro e w5 ⟨rfl, h5, hb⟩)
  clear cc_4 cc_13 cc_14 cc_15 cc_16 cc_17 cc_18 cc_19
  have hsz := hb.size
  (try simp at hsz)
  replace cc := cellsAt_gb cc hb (by omega)
  replace oz := OutZ.gb oz hb (by omega)
  replace ccz : w.heap.size < w5.heap.size := by omega
  replace ozz : w.heap.size + 1 < w5.heap.size := by omega
  replace G := gb_trans G hb
  clear hb hsz
  replace hS0 := G.size
  have cc_4 := cc 4 _ rfl
  have cc_13 := cc 13 _ rfl
  have cc_14 := cc 14 _ rfl
  have cc_15 := cc 15 _ rfl
  have cc_16 := cc 16 _ rfl
  have cc_17 := cc 17 _ rfl
  have cc_18 := cc 18 _ rfl
  have cc_19 := cc 19 _ rfl
  go_wp2_with (first | ((with_reducible refine ld_layT cc ?a327 ?h327); (case a327 => exact ⟨_, rfl, rfl, rfl⟩)) | ((with_reducible refine ld_case cc rfl ?a328 ?h328); (case a328 => exact ⟨_, rfl, rfl, rfl⟩)))
  ((with_reducible refine (kind_any _ _).mono ?_); rintro e w' ⟨rfl, rfl⟩)
  go_wp2_with (first | ((with_reducible refine ld_layT cc ?a329 ?h329); (case a329 => exact ⟨_, rfl, rfl, rfl⟩)) | ((with_reducible refine ld_case cc rfl ?a330 ?h330); (case a330 => exact ⟨_, rfl, rfl, rfl⟩)))
  ((with_reducible refine (try_any _ hi _).mono ?_); rintro e w' ⟨rfl, rfl⟩)
  go_wp2_with (first | ((with_reducible refine ld_layT (cellsAt_alloc cc _) ?a331 ?h331); (case a331 => exact ⟨_, rfl, rfl, rfl⟩)) | ((with_reducible refine ld_layT cc ?a332 ?h332); (case a332 => exact ⟨_, rfl, rfl, rfl⟩)) | ((with_reducible refine ld_case (cellsAt_alloc cc _) rfl ?a333 ?h333); (case a333 => exact ⟨_, rfl, rfl, rfl⟩)) | ((with_reducible refine ld_case cc rfl ?a334 ?h334); (case a334 => exact ⟨_, rfl, rfl, rfl⟩)))
  ((with_reducible refine (HT.out _).mono ?_); rintro e w6 ⟨rfl, hb⟩)
  clear cc_4 cc_13 cc_14 cc_15 cc_16 cc_17 cc_18 cc_19
  have hsz := hb.size
  (try simp at hsz)
  have xcczn : w.heap.size ≠ w5.heap.size := by omega
  have xozzn : w.heap.size + 1 ≠ w5.heap.size := by omega
  have xgn : w5.heap.size ≠ g := by omega
  have xlo : w.heap.size ≤ w5.heap.size := by omega
  replace cc := cellsAt_keep (cellsAt_alloc cc _) hb
  replace oz := OutZ.below (OutZ.alloc oz _) hb
  have xq0 : w6.cell? ⟨w5.heap.size, 0, none⟩ = some (.int .i64 0) := cel_below hb (by rw [World.cell?_alloc_at _ _ _ _ (by simp)]; rfl)
  have xq1 : w6.cell? ⟨w5.heap.size, 1, none⟩ = some (.int .i64 0) := cel_below hb (by rw [World.cell?_alloc_at _ _ _ _ (by simp)]; rfl)
  have xq2 : w6.cell? ⟨w5.heap.size, 2, none⟩ = some (.int .i64 (s.1 / 4)) := cel_below hb (by rw [World.cell?_alloc_at _ _ _ _ (by simp)]; rfl)
  have xf : ∀ o, w6.frozen? ⟨w5.heap.size, o, none⟩ = false := fun o => fro_below hb (by first | omega | (simp; done) | (simp; omega)) (World.frozen?_alloc_at _ _ _ _ (by simp))
  replace ccz : w.heap.size < w6.heap.size := by omega
  replace ozz : w.heap.size + 1 < w6.heap.size := by omega
  have xz : w5.heap.size < w6.heap.size := World.block_lt_of_cell? _ _ xq0
  have h6 := runAt_keep (runAt_alloc h5 _) hb
  replace G := gb_trans (gb_alloc G _) (gb_of_below (some g) hb)
  clear hb hsz
  replace hS0 := G.size
  have cc_4 := cc 4 _ rfl
  have cc_13 := cc 13 _ rfl
  have cc_14 := cc 14 _ rfl
  have cc_15 := cc 15 _ rfl
  have cc_16 := cc 16 _ rfl
  have cc_17 := cc 17 _ rfl
  have cc_18 := cc 18 _ rfl
  have cc_19 := cc 19 _ rfl
  go_wp2_with (first | ((with_reducible refine ld_layT cc ?a335 ?h335); (case a335 => exact ⟨_, rfl, rfl, rfl⟩)) | ((with_reducible refine ld_case cc rfl ?a336 ?h336); (case a336 => exact ⟨_, rfl, rfl, rfl⟩)))
  ((with_reducible refine (load_some _ g _ _ _ h6).mono ?_); rintro e w7 ⟨rfl, h7, hb⟩)
  clear cc_4 cc_13 cc_14 cc_15 cc_16 cc_17 cc_18 cc_19
  have hsz := hb.size
  (try simp at hsz)
  replace cc := cellsAt_gb cc hb (by omega)
  replace oz := OutZ.gb oz hb (by omega)
  replace xq0 : w7.cell? ⟨w5.heap.size, 0, none⟩ = some (.int .i64 0) := gbc hb xq0 (by omega)
  replace xq1 : w7.cell? ⟨w5.heap.size, 1, none⟩ = some (.int .i64 0) := gbc hb xq1 (by omega)
  replace xq2 : w7.cell? ⟨w5.heap.size, 2, none⟩ = some (.int .i64 (s.1 / 4)) := gbc hb xq2 (by omega)
  replace xf : ∀ o, w7.frozen? ⟨w5.heap.size, o, none⟩ = false := fun o => gbf hb (by first | omega | (simp; done) | (simp; omega)) (by omega) (xf o)
  replace ccz : w.heap.size < w7.heap.size := by omega
  replace ozz : w.heap.size + 1 < w7.heap.size := by omega
  replace xz : w5.heap.size < w7.heap.size := by omega
  replace G := gb_trans G hb
  clear hb hsz
  replace hS0 := G.size
  have cc_4 := cc 4 _ rfl
  have cc_13 := cc 13 _ rfl
  have cc_14 := cc 14 _ rfl
  have cc_15 := cc 15 _ rfl
  have cc_16 := cc 16 _ rfl
  have cc_17 := cc 17 _ rfl
  have cc_18 := cc 18 _ rfl
  have cc_19 := cc 19 _ rfl
  go_wp2_with (first | ((with_reducible refine ld_layT (cellsAt_set cc (by omega) _) ?a337 ?h337); (case a337 => exact ⟨_, rfl, rfl, rfl⟩)) | ((with_reducible refine ld_layT cc ?a338 ?h338); (case a338 => exact ⟨_, rfl, rfl, rfl⟩)) | ((with_reducible refine ld_case (cellsAt_set cc (by omega) _) rfl ?a339 ?h339); (case a339 => exact ⟨_, rfl, rfl, rfl⟩)) | ((with_reducible refine ld_case cc rfl ?a340 ?h340); (case a340 => exact ⟨_, rfl, rfl, rfl⟩)))
  ((with_reducible refine (HK.out _).mono ?_); rintro e w8 ⟨rfl, hb⟩)
  clear cc_4 cc_13 cc_14 cc_15 cc_16 cc_17 cc_18 cc_19
  have hsz := hb.size
  (try simp at hsz)
  replace cc := cellsAt_keep (cellsAt_set cc (by omega) _) hb
  replace oz := OutZ.below (OutZ.set oz (by omega) _) hb
  replace xq0 : w8.cell? ⟨w5.heap.size, 0, none⟩ = some (.int .i64 t.1) := cel_below hb (World.cell?_setCell_same _ _ _ xq0)
  replace xq1 : w8.cell? ⟨w5.heap.size, 1, none⟩ = some (.int .i64 0) := cel_below hb (keepA_ xq1 (by omega))
  replace xq2 : w8.cell? ⟨w5.heap.size, 2, none⟩ = some (.int .i64 (s.1 / 4)) := cel_below hb (keepA_ xq2 (by omega))
  replace xf : ∀ o, w8.frozen? ⟨w5.heap.size, o, none⟩ = false := fun o => fro_below hb (by first | omega | (simp; done) | (simp; omega)) ((World.frozen?_setCell _ _ _ _).trans (xf o))
  replace ccz : w.heap.size < w8.heap.size := by omega
  replace ozz : w.heap.size + 1 < w8.heap.size := by omega
  replace xz : w5.heap.size < w8.heap.size := by omega
  have h8 := runAt_keep (runAt_set h7 (by omega) _) hb
  replace G := gb_trans (gb_set G (Or.inr (by first | exact Nat.le_refl _ | (dsimp only; omega))) _) (gb_of_below (some g) hb)
  clear hb hsz
  replace hS0 := G.size
  have cc_4 := cc 4 _ rfl
  have cc_13 := cc 13 _ rfl
  have cc_14 := cc 14 _ rfl
  have cc_15 := cc 15 _ rfl
  have cc_16 := cc 16 _ rfl
  have cc_17 := cc 17 _ rfl
  have cc_18 := cc 18 _ rfl
  have cc_19 := cc 19 _ rfl
  go_wp2_with (first | ((with_reducible refine ld_layT cc ?a341 ?h341); (case a341 => exact ⟨_, rfl, rfl, rfl⟩)) | ((with_reducible refine ld_case cc rfl ?a342 ?h342); (case a342 => exact ⟨_, rfl, rfl, rfl⟩)))
  ((with_reducible refine (load_some _ g _ _ _ h8).mono ?_); rintro e w9 ⟨rfl, h9, hb⟩)
  clear cc_4 cc_13 cc_14 cc_15 cc_16 cc_17 cc_18 cc_19
  have hsz := hb.size
  (try simp at hsz)
  replace cc := cellsAt_gb cc hb (by omega)
  replace oz := OutZ.gb oz hb (by omega)
  replace xq0 : w9.cell? ⟨w5.heap.size, 0, none⟩ = some (.int .i64 t.1) := gbc hb xq0 (by omega)
  replace xq1 : w9.cell? ⟨w5.heap.size, 1, none⟩ = some (.int .i64 0) := gbc hb xq1 (by omega)
  replace xq2 : w9.cell? ⟨w5.heap.size, 2, none⟩ = some (.int .i64 (s.1 / 4)) := gbc hb xq2 (by omega)
  replace xf : ∀ o, w9.frozen? ⟨w5.heap.size, o, none⟩ = false := fun o => gbf hb (by first | omega | (simp; done) | (simp; omega)) (by omega) (xf o)
  replace ccz : w.heap.size < w9.heap.size := by omega
  replace ozz : w.heap.size + 1 < w9.heap.size := by omega
  replace xz : w5.heap.size < w9.heap.size := by omega
  replace G := gb_trans G hb
  clear hb hsz
  replace hS0 := G.size
  have cc_4 := cc 4 _ rfl
  have cc_13 := cc 13 _ rfl
  have cc_14 := cc 14 _ rfl
  have cc_15 := cc 15 _ rfl
  have cc_16 := cc 16 _ rfl
  have cc_17 := cc 17 _ rfl
  have cc_18 := cc 18 _ rfl
  have cc_19 := cc 19 _ rfl
  go_wp2_with (first | ((with_reducible refine ld_layT (cellsAt_set cc (by omega) _) ?a343 ?h343); (case a343 => exact ⟨_, rfl, rfl, rfl⟩)) | ((with_reducible refine ld_layT cc ?a344 ?h344); (case a344 => exact ⟨_, rfl, rfl, rfl⟩)) | ((with_reducible refine ld_case (cellsAt_set cc (by omega) _) rfl ?a345 ?h345); (case a345 => exact ⟨_, rfl, rfl, rfl⟩)) | ((with_reducible refine ld_case cc rfl ?a346 ?h346); (case a346 => exact ⟨_, rfl, rfl, rfl⟩)))
  ((with_reducible refine (HC.out _).mono ?_); rintro e w10 ⟨rfl, hb⟩)
  clear cc_4 cc_13 cc_14 cc_15 cc_16 cc_17 cc_18 cc_19
  have hsz := hb.size
  (try simp at hsz)
  replace cc := cellsAt_keep (cellsAt_set cc (by omega) _) hb
  replace oz := OutZ.below (OutZ.set oz (by omega) _) hb
  replace xq0 : w10.cell? ⟨w5.heap.size, 0, none⟩ = some (.int .i64 t.1) := cel_below hb (keepA_ xq0 (by omega))
  replace xq1 : w10.cell? ⟨w5.heap.size, 1, none⟩ = some (.int .i64 k.1) := cel_below hb (World.cell?_setCell_same _ _ _ xq1)
  replace xq2 : w10.cell? ⟨w5.heap.size, 2, none⟩ = some (.int .i64 (s.1 / 4)) := cel_below hb (keepA_ xq2 (by omega))
  replace xf : ∀ o, w10.frozen? ⟨w5.heap.size, o, none⟩ = false := fun o => fro_below hb (by first | omega | (simp; done) | (simp; omega)) ((World.frozen?_setCell _ _ _ _).trans (xf o))
  replace ccz : w.heap.size < w10.heap.size := by omega
  replace ozz : w.heap.size + 1 < w10.heap.size := by omega
  replace xz : w5.heap.size < w10.heap.size := by omega
  have h10 := runAt_keep (runAt_set h9 (by omega) _) hb
  replace G := gb_trans (gb_set G (Or.inr (by first | exact Nat.le_refl _ | (dsimp only; omega))) _) (gb_of_below (some g) hb)
  clear hb hsz
  replace hS0 := G.size
  have cc_4 := cc 4 _ rfl
  have cc_13 := cc 13 _ rfl
  have cc_14 := cc 14 _ rfl
  have cc_15 := cc 15 _ rfl
  have cc_16 := cc 16 _ rfl
  have cc_17 := cc 17 _ rfl
  have cc_18 := cc 18 _ rfl
  have cc_19 := cc 19 _ rfl
  go_wp2_with (first | ((with_reducible refine ld_layT cc ?a347 ?h347); (case a347 => exact ⟨_, rfl, rfl, rfl⟩)) | ((with_reducible refine ld_case cc rfl ?a348 ?h348); (case a348 => exact ⟨_, rfl, rfl, rfl⟩)))
  ((with_reducible refine (HD.out _ h10).mono ?_); rintro e w11 ⟨rfl, hb⟩)
  exact ⟨rfl, rfl, gb_trans G hb⟩

end Go.Proofs.Ytdfngmplfgifiaa


/-
  Layer 20: Resolve, the own status asked, as its tree, with what it leaves of the log.
-/
namespace Go.Proofs.Ytdfngmplfgifiaa
set_option linter.unusedVariables false
set_option linter.unusedSimpArgs false
open Go Go.RowKit

theorem resR_tany (w : World) (g : Nat) (L : Ly) (hok : L.ok) (me other : Int) (m : Ct) (r : Int × Bool) (hr : ¬r.1 % 4 = 3) (l : List (Int × Bool)) (h0 : RunAt w g (r :: l)) (hI : ∀ x ∈ l, I64 x.1) :
    Calls Try.prog 83 #[caseV L me other true m, .pointer (some ⟨g, 0, none⟩)] w (OpPostR ((asksT L other m).run l) ((asksT L other m).rest l) g w) := by
  match l, h0, hI with
  | [], h0, hI => exact (resR_t0 w g L hok me other m r h0 hr).mono fun e w' h => ⟨⟨h.1, h.2⟩, fun o ho => by cases ho⟩
  | s :: l, h0, hI =>
    have hi : I64 s.1 := hI s (by simp)
    unfold asksT
    rw [trun_ask]
    show Calls _ _ _ _ (OpPostR _ ((if s.1 % 4 = 0 then Tree.ret { val := 0 } else .ask ⟨1, atStamp L other, 0, 0⟩ fun t => .ask ⟨1, atKarma L other, 0, 0⟩ fun k => if chooseD L.c.m m ⟨t.1, k.1, s.1 / 4⟩ = 1 then .ret { val := 1 } else doomT L other s.1).rest l) g w)
    by_cases hs : s.1 % 4 = 0
    · rw [if_pos hs, trun_ret]
      have e2 : (Tree.ret { val := 0 }).rest l = l := by cases l <;> rfl
      rw [e2]
      exact (resR_tidle w g L hok me other m r s l h0 hr hs).mono fun e w' h => ⟨⟨h.1, h.2.1⟩, fun o ho => h.2.2⟩
    · rw [if_neg hs]
      match l, h0, hI with
      | [], h0, hI => exact (resR_t1 w g L hok me other m r s h0 hr hi hs).mono fun e w' h => ⟨⟨h.1, h.2⟩, fun o ho => by cases ho⟩
      | [t], h0, hI => exact (resR_t2 w g L hok me other m r s t h0 hr hi hs).mono fun e w' h => ⟨⟨h.1, h.2⟩, fun o ho => by cases ho⟩
      | t :: k :: l, h0, hI =>
        rw [trun_ask, trun_ask]
        show Calls _ _ _ _ (OpPostR _ ((if chooseD L.c.m m ⟨t.1, k.1, s.1 / 4⟩ = 1 then Tree.ret { val := 1 } else doomT L other s.1).rest l) g w)
        rcases tchoose_12 L.c.m m ⟨t.1, k.1, s.1 / 4⟩ with hc | hc
        · rw [if_pos hc, trun_ret]
          have e2 : (Tree.ret { val := 1 }).rest l = l := by cases l <;> rfl
          rw [e2]
          exact (resR_tabort w g L hok me other m r s t k l h0 hr hi hs hc).mono fun e w' h => ⟨⟨h.1, h.2.1⟩, fun o ho => h.2.2⟩
        · rw [if_neg (by rw [hc]; decide)]
          cases hd : (doomT L other s.1).run l with
          | inl a => exact (resR_tpend w g L hok me other m r s t k l a h0 hr hi hs hc hd).mono fun e w' h => ⟨⟨h.1, h.2⟩, fun o ho => by cases ho⟩
          | inr o => exact (resR_tret w g L hok me other m r s t k l o h0 hr hi hs hc hd).mono fun e w' h => ⟨⟨h.1, h.2.1⟩, fun o ho => h.2.2⟩

theorem resolveR_any (w : World) (g : Nat) (L : Ly) (hok : L.ok) (me other : Int) (m : Ct) (l : List (Int × Bool)) (h0 : RunAt w g l) (hI : ∀ x ∈ l, I64 x.1) :
    Calls Try.prog 83 #[caseV L me other true m, .pointer (some ⟨g, 0, none⟩)] w (OpPostR ((resolveT L me other true m).run l) ((resolveT L me other true m).rest l) g w) := by
  match l, h0, hI with
  | [], h0, hI => exact (resR_own0 w g L hok me other m h0).mono fun e w' h => ⟨⟨h.1, h.2⟩, fun o ho => by cases ho⟩
  | r :: l, h0, hI =>
    show Calls _ _ _ _ (OpPostR ((if r.1 % 4 = 3 then Tree.ret { val := 1, lost := true } else asksT L other m).run l) ((if r.1 % 4 = 3 then Tree.ret { val := 1, lost := true } else asksT L other m).rest l) g w)
    by_cases hr : r.1 % 4 = 3
    · rw [if_pos hr, trun_ret]
      have e2 : (Tree.ret { val := 1, lost := true }).rest l = l := by cases l <;> rfl
      rw [e2]
      exact (resR_own3 w g L hok me other m r l h0 hr).mono fun e w' h => ⟨⟨h.1, h.2.1⟩, fun o ho => h.2.2⟩
    · rw [if_neg hr]; exact resR_tany w g L hok me other m r hr l h0 (fun x hx => hI x (by simp [hx]))
/-- What Resolve returns: a verdict from 0 to 3. -/
theorem resolve_form (L : Ly) (me other : Int) (m : Ct) : ∀ (l : List (Int × Bool)) (o : OutD), (resolveT L me other true m).run l = .inr o → (o = {} ∨ o = { val := 1 } ∨ o = { val := 1, lost := true } ∨ o = { val := 2 } ∨ o = { val := 3 }) := by
  intro l o h
  match l, h with
  | [], h => cases h
  | r :: l, h =>
    have h : (if r.1 % 4 = 3 then Tree.ret { val := 1, lost := true } else asksT L other m).run l = .inr o := h
    by_cases hr : r.1 % 4 = 3
    · rw [if_pos hr, trun_ret] at h; cases h; simp
    · rw [if_neg hr] at h
      match l, h with
      | [], h => cases h
      | s :: l, h =>
        have h : (if s.1 % 4 = 0 then Tree.ret { val := 0 } else .ask ⟨1, atStamp L other, 0, 0⟩ fun t => .ask ⟨1, atKarma L other, 0, 0⟩ fun k => if chooseD L.c.m m ⟨t.1, k.1, s.1 / 4⟩ = 1 then .ret { val := 1 } else doomT L other s.1).run l = .inr o := h
        by_cases hs : s.1 % 4 = 0
        · rw [if_pos hs, trun_ret] at h; cases h; simp
        · rw [if_neg hs] at h
          match l, h with
          | [], h => cases h
          | [t], h => cases h
          | t :: k :: l, h =>
            have h : (if chooseD L.c.m m ⟨t.1, k.1, s.1 / 4⟩ = 1 then Tree.ret { val := 1 } else doomT L other s.1).run l = .inr o := h
            by_cases hc : chooseD L.c.m m ⟨t.1, k.1, s.1 / 4⟩ = 1
            · rw [if_pos hc, trun_ret] at h; cases h; simp
            · rw [if_neg hc] at h
              unfold doomT at h
              by_cases h1 : s.1 % 4 = 1
              · rw [if_pos h1] at h
                match l, h with
                | [], h => cases h
                | u :: l, h =>
                  have h : (if u.2 = true then Tree.ret { val := 2 } else .ret { val := 0 }).run l = .inr o := h
                  by_cases hu : u.2 = true
                  · rw [if_pos hu, trun_ret] at h; cases h; simp
                  · rw [if_neg hu, trun_ret] at h; cases h; simp
              · rw [if_neg h1] at h
                by_cases h3 : s.1 % 4 = 3
                · rw [if_pos h3, trun_ret] at h; cases h; simp
                · rw [if_neg h3, trun_ret] at h; cases h; simp
end Go.Proofs.Ytdfngmplfgifiaa
