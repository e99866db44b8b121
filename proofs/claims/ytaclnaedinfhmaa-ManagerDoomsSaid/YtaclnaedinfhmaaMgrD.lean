
/-
  Layer 17: Resolve, the own status asked.
-/
import Derived.Test.YtaclnaedinfhmaaRows
import Derived.Test.YtaclnaedinfhmaaBase
import Derived.Test.YtaclnaedinfhmaaAux
import Derived.Test.YtaclnaedinfhmaaWord2
import Derived.Test.YtaclnaedinfhmaaLayA
import Derived.Test.YtaclnaedinfhmaaStepC
import Derived.Test.YtaclnaedinfhmaaStepD
import Derived.Test.YtaclnaedinfhmaaMgrA
import Derived.Test.YtaclnaedinfhmaaMgrB
import Derived.WalkKit
import Derived.WalkLawsBesides
import Derived.Lib.Hide
namespace Go.Proofs.Ytaclnaedinfhmaa
set_option linter.unusedVariables false
set_option linter.unusedSimpArgs false
set_option maxRecDepth 100000
set_option maxHeartbeats 4000000
open Go.ChangeShapes Go.WideShapes Go.ChangeAt Go.RowKit

theorem res_own0 (w : World) (g : Nat) (L : Ly) (hok : L.ok) (me other : Int) (m : Ct)  (h0 : RunAt w g []) :
    Calls Try.prog 61 #[caseV L me other true m, .pointer (some ⟨g, 0, none⟩)] w fun e w' => e = .panicked [{ v := .iface 124 (Ask.v ⟨1, atStatus L me, 0, 0⟩), recovered := false }] ∧ w.grownBy w' (some g) := by
  unfold caseV
  have HM : Hid (∀ w, Calls Try.prog 38 #[L.v, .int .i64 me] w fun e w' => e = .returned (.int .i64 (atStatus L me)) ∧ Below w.heap.size w w') := Lib.hid (fun w => status_any L me w hok)
  have HS : Hid (∀ w, Calls Try.prog 38 #[L.v, .int .i64 other] w fun e w' => e = .returned (.int .i64 (atStatus L other)) ∧ Below w.heap.size w w') := Lib.hid (fun w => status_any L other w hok)
  have HT : Hid (∀ w, Calls Try.prog 64 #[L.v, .int .i64 other] w fun e w' => e = .returned (.int .i64 (atStamp L other)) ∧ Below w.heap.size w w') := Lib.hid (fun w => stamp_any L other w hok)
  have HK : Hid (∀ w, Calls Try.prog 65 #[L.v, .int .i64 other] w fun e w' => e = .returned (.int .i64 (atKarma L other)) ∧ Below w.heap.size w w') := Lib.hid (fun w => karma_any L other w hok)
  unfold Ly.v at HM HS HT HK
  have hg0 := runAt_lt h0
  have G : w.grownBy w (some g) := gb_refl _ _
  have hS0 : w.heap.size + 0 ≤ w.heap.size := Nat.le_refl _
  go_enter Try.func61, Try.ntmps61
  go_wp2_with fail
  obtain ⟨w1, hwr⟩ : ∃ W, W = ((w.alloc (.cells #[.int .i64 L.c.t, .int .i64 L.c.l, .int .i64 L.c.k, .int .i64 L.c.s, .int .i64 L.c.m, .int .i64 L.clock, .int .i64 L.stamps, .int .i64 L.log, .int .i64 L.fin, .int .i64 L.thread, .int .i64 L.lock, .int .i64 L.loc, .int .i64 L.size, .int .i64 me, .int .i64 other, .bool true, .int .i64 m.s, .int .i64 m.k, .int .i64 m.a, .func (.func 30) #[] #[]] 119)).alloc (.cells #[.int .i64 0, .int .i64 0, .int .i64 0, .int .i64 0, .bool false, .bool false, .int .i64 0] 35)) := ⟨_, rfl⟩
  rw [← hwr]
  have hb : Below w.heap.size w w1 := by rw [hwr]; exact (Below.alloc (Below.alloc (Below.refl _ _) (by first | exact Nat.le_refl _ | (simp; omega) | simp) _) (by first | exact Nat.le_refl _ | (simp; omega) | simp) _)
  have cc : CellsAt w1 (w.heap.size) [.int .i64 L.c.t, .int .i64 L.c.l, .int .i64 L.c.k, .int .i64 L.c.s, .int .i64 L.c.m, .int .i64 L.clock, .int .i64 L.stamps, .int .i64 L.log, .int .i64 L.fin, .int .i64 L.thread, .int .i64 L.lock, .int .i64 L.loc, .int .i64 L.size, .int .i64 me, .int .i64 other, .bool true, .int .i64 m.s, .int .i64 m.k, .int .i64 m.a, .func (.func 30) #[] #[]] := by rw [hwr]; exact (cellsAt_alloc (cellsAt_new' w _ _ (w.heap.size) (by simp)) _)
  have ccz : w.heap.size < w1.heap.size := World.block_lt_of_cell? _ _ (cc 0 _ rfl)
  have oz : OutZ w1 (w.heap.size + 1) := by rw [hwr]; exact (OutZ.new' (w.alloc (.cells #[.int .i64 L.c.t, .int .i64 L.c.l, .int .i64 L.c.k, .int .i64 L.c.s, .int .i64 L.c.m, .int .i64 L.clock, .int .i64 L.stamps, .int .i64 L.log, .int .i64 L.fin, .int .i64 L.thread, .int .i64 L.lock, .int .i64 L.loc, .int .i64 L.size, .int .i64 me, .int .i64 other, .bool true, .int .i64 m.s, .int .i64 m.k, .int .i64 m.a, .func (.func 30) #[] #[]] 119)) _ (w.heap.size + 1) (by simp))
  have ozz : w.heap.size + 1 < w1.heap.size := OutZ.lt oz
  have h1 := runAt_keep h0 hb
  replace G := gb_trans G (gb_of_below (some g) hb)
  clear hb hwr
  replace hS0 := G.size
  have cc_4 : w1.cell? ⟨w.heap.size, 4, none⟩ = some (.int .i64 L.c.m) := cc 4 _ rfl
  have cc_13 : w1.cell? ⟨w.heap.size, 13, none⟩ = some (.int .i64 me) := cc 13 _ rfl
  have cc_14 : w1.cell? ⟨w.heap.size, 14, none⟩ = some (.int .i64 other) := cc 14 _ rfl
  have cc_15 : w1.cell? ⟨w.heap.size, 15, none⟩ = some (.bool true) := cc 15 _ rfl
  have cc_16 : w1.cell? ⟨w.heap.size, 16, none⟩ = some (.int .i64 m.s) := cc 16 _ rfl
  have cc_17 : w1.cell? ⟨w.heap.size, 17, none⟩ = some (.int .i64 m.k) := cc 17 _ rfl
  have cc_18 : w1.cell? ⟨w.heap.size, 18, none⟩ = some (.int .i64 m.a) := cc 18 _ rfl
  have cc_19 : w1.cell? ⟨w.heap.size, 19, none⟩ = some (.func (.func 30) #[] #[]) := cc 19 _ rfl
  have cc13 : CellsAt w1 (w.heap.size) [.int .i64 L.c.t, .int .i64 L.c.l, .int .i64 L.c.k, .int .i64 L.c.s, .int .i64 L.c.m, .int .i64 L.clock, .int .i64 L.stamps, .int .i64 L.log, .int .i64 L.fin, .int .i64 L.thread, .int .i64 L.lock, .int .i64 L.loc, .int .i64 L.size] := cellsAt_take 13 cc
  go_wp2_with (first | ((with_reducible refine wp_ld_lay ?hw13_43 ?x13_43 ?ho13_43 (w.heap.size) 0 ?hx13_43 [.int .i64 L.c.t, .int .i64 L.c.l, .int .i64 L.c.k, .int .i64 L.c.s, .int .i64 L.c.m, .int .i64 L.clock, .int .i64 L.stamps, .int .i64 L.log, .int .i64 L.fin, .int .i64 L.thread, .int .i64 L.lock, .int .i64 L.loc, .int .i64 L.size] rfl (rangeAt_of cc13) ?hh13_43); (case ho13_43 => exact rfl); (case hx13_43 => exact rfl); (case hw13_43 => exact rfl)) | ((with_reducible refine wp_ld_case ?hw20_44 ?x20_44 ?ho20_44 (w.heap.size) 0 ?hx20_44 [.int .i64 L.c.t, .int .i64 L.c.l, .int .i64 L.c.k, .int .i64 L.c.s, .int .i64 L.c.m, .int .i64 L.clock, .int .i64 L.stamps, .int .i64 L.log, .int .i64 L.fin, .int .i64 L.thread, .int .i64 L.lock, .int .i64 L.loc, .int .i64 L.size, .int .i64 me, .int .i64 other, .bool true, .int .i64 m.s, .int .i64 m.k, .int .i64 m.a, .func (.func 30) #[] #[]] rfl (rangeAt_of cc) ?hh20_44); (case ho20_44 => exact rfl); (case hx20_44 => exact rfl); (case hw20_44 => exact rfl)))
  ((with_reducible refine (HM.out _).mono ?_); rintro e w2 ⟨rfl, hb⟩)
  clear cc_4 cc_13 cc_14 cc_15 cc_16 cc_17 cc_18 cc_19
  clear cc13
  have hsz := hb.size
  (try simp at hsz)
  replace cc := cellsAt_keep cc hb
  replace oz := OutZ.below oz hb
  replace ccz : w.heap.size < w2.heap.size := by omega
  replace ozz : w.heap.size + 1 < w2.heap.size := by omega
  have h2 := runAt_keep h1 hb
  replace G := gb_trans G (gb_of_below (some g) hb)
  clear hb hsz
  replace hS0 := G.size
  have cc_4 : w2.cell? ⟨w.heap.size, 4, none⟩ = some (.int .i64 L.c.m) := cc 4 _ rfl
  have cc_13 : w2.cell? ⟨w.heap.size, 13, none⟩ = some (.int .i64 me) := cc 13 _ rfl
  have cc_14 : w2.cell? ⟨w.heap.size, 14, none⟩ = some (.int .i64 other) := cc 14 _ rfl
  have cc_15 : w2.cell? ⟨w.heap.size, 15, none⟩ = some (.bool true) := cc 15 _ rfl
  have cc_16 : w2.cell? ⟨w.heap.size, 16, none⟩ = some (.int .i64 m.s) := cc 16 _ rfl
  have cc_17 : w2.cell? ⟨w.heap.size, 17, none⟩ = some (.int .i64 m.k) := cc 17 _ rfl
  have cc_18 : w2.cell? ⟨w.heap.size, 18, none⟩ = some (.int .i64 m.a) := cc 18 _ rfl
  have cc_19 : w2.cell? ⟨w.heap.size, 19, none⟩ = some (.func (.func 30) #[] #[]) := cc 19 _ rfl
  have cc13 : CellsAt w2 (w.heap.size) [.int .i64 L.c.t, .int .i64 L.c.l, .int .i64 L.c.k, .int .i64 L.c.s, .int .i64 L.c.m, .int .i64 L.clock, .int .i64 L.stamps, .int .i64 L.log, .int .i64 L.fin, .int .i64 L.thread, .int .i64 L.lock, .int .i64 L.loc, .int .i64 L.size] := cellsAt_take 13 cc
  go_wp2_with (first | ((with_reducible refine wp_ld_lay ?hw13_45 ?x13_45 ?ho13_45 (w.heap.size) 0 ?hx13_45 [.int .i64 L.c.t, .int .i64 L.c.l, .int .i64 L.c.k, .int .i64 L.c.s, .int .i64 L.c.m, .int .i64 L.clock, .int .i64 L.stamps, .int .i64 L.log, .int .i64 L.fin, .int .i64 L.thread, .int .i64 L.lock, .int .i64 L.loc, .int .i64 L.size] rfl (rangeAt_of cc13) ?hh13_45); (case ho13_45 => exact rfl); (case hx13_45 => exact rfl); (case hw13_45 => exact rfl)) | ((with_reducible refine wp_ld_case ?hw20_46 ?x20_46 ?ho20_46 (w.heap.size) 0 ?hx20_46 [.int .i64 L.c.t, .int .i64 L.c.l, .int .i64 L.c.k, .int .i64 L.c.s, .int .i64 L.c.m, .int .i64 L.clock, .int .i64 L.stamps, .int .i64 L.log, .int .i64 L.fin, .int .i64 L.thread, .int .i64 L.lock, .int .i64 L.loc, .int .i64 L.size, .int .i64 me, .int .i64 other, .bool true, .int .i64 m.s, .int .i64 m.k, .int .i64 m.a, .func (.func 30) #[] #[]] rfl (rangeAt_of cc) ?hh20_46); (case ho20_46 => exact rfl); (case hx20_46 => exact rfl); (case hw20_46 => exact rfl)))
  ((with_reducible refine (load_none _ g _ h2).mono ?_); rintro e w3 ⟨rfl, hb⟩)
  exact ⟨rfl, rfl, gb_trans G (gb_of_below (some g) hb)⟩

theorem res_own3 (w : World) (g : Nat) (L : Ly) (hok : L.ok) (me other : Int) (m : Ct) (r : Int × Bool) (l : List (Int × Bool)) (h0 : RunAt w g (r :: l)) (hr : r.1 % 4 = 3) :
    Calls Try.prog 61 #[caseV L me other true m, .pointer (some ⟨g, 0, none⟩)] w fun e w' => e = .returned (OutD.v { val := 1, lost := true }) ∧ w.grownBy w' (some g) := by
  unfold caseV
  have HM : Hid (∀ w, Calls Try.prog 38 #[L.v, .int .i64 me] w fun e w' => e = .returned (.int .i64 (atStatus L me)) ∧ Below w.heap.size w w') := Lib.hid (fun w => status_any L me w hok)
  have HS : Hid (∀ w, Calls Try.prog 38 #[L.v, .int .i64 other] w fun e w' => e = .returned (.int .i64 (atStatus L other)) ∧ Below w.heap.size w w') := Lib.hid (fun w => status_any L other w hok)
  have HT : Hid (∀ w, Calls Try.prog 64 #[L.v, .int .i64 other] w fun e w' => e = .returned (.int .i64 (atStamp L other)) ∧ Below w.heap.size w w') := Lib.hid (fun w => stamp_any L other w hok)
  have HK : Hid (∀ w, Calls Try.prog 65 #[L.v, .int .i64 other] w fun e w' => e = .returned (.int .i64 (atKarma L other)) ∧ Below w.heap.size w w') := Lib.hid (fun w => karma_any L other w hok)
  unfold Ly.v at HM HS HT HK
  have hq : (r.1 % 4 == 3) = true := by simp [hr]
  have hg0 := runAt_lt h0
  have G : w.grownBy w (some g) := gb_refl _ _
  have hS0 : w.heap.size + 0 ≤ w.heap.size := Nat.le_refl _
  go_enter Try.func61, Try.ntmps61
  go_wp2_with fail
  obtain ⟨w1, hwr⟩ : ∃ W, W = ((w.alloc (.cells #[.int .i64 L.c.t, .int .i64 L.c.l, .int .i64 L.c.k, .int .i64 L.c.s, .int .i64 L.c.m, .int .i64 L.clock, .int .i64 L.stamps, .int .i64 L.log, .int .i64 L.fin, .int .i64 L.thread, .int .i64 L.lock, .int .i64 L.loc, .int .i64 L.size, .int .i64 me, .int .i64 other, .bool true, .int .i64 m.s, .int .i64 m.k, .int .i64 m.a, .func (.func 30) #[] #[]] 119)).alloc (.cells #[.int .i64 0, .int .i64 0, .int .i64 0, .int .i64 0, .bool false, .bool false, .int .i64 0] 35)) := ⟨_, rfl⟩
  rw [← hwr]
  have hb : Below w.heap.size w w1 := by rw [hwr]; exact (Below.alloc (Below.alloc (Below.refl _ _) (by first | exact Nat.le_refl _ | (simp; omega) | simp) _) (by first | exact Nat.le_refl _ | (simp; omega) | simp) _)
  have cc : CellsAt w1 (w.heap.size) [.int .i64 L.c.t, .int .i64 L.c.l, .int .i64 L.c.k, .int .i64 L.c.s, .int .i64 L.c.m, .int .i64 L.clock, .int .i64 L.stamps, .int .i64 L.log, .int .i64 L.fin, .int .i64 L.thread, .int .i64 L.lock, .int .i64 L.loc, .int .i64 L.size, .int .i64 me, .int .i64 other, .bool true, .int .i64 m.s, .int .i64 m.k, .int .i64 m.a, .func (.func 30) #[] #[]] := by rw [hwr]; exact (cellsAt_alloc (cellsAt_new' w _ _ (w.heap.size) (by simp)) _)
  have ccz : w.heap.size < w1.heap.size := World.block_lt_of_cell? _ _ (cc 0 _ rfl)
  have oz : OutZ w1 (w.heap.size + 1) := by rw [hwr]; exact (OutZ.new' (w.alloc (.cells #[.int .i64 L.c.t, .int .i64 L.c.l, .int .i64 L.c.k, .int .i64 L.c.s, .int .i64 L.c.m, .int .i64 L.clock, .int .i64 L.stamps, .int .i64 L.log, .int .i64 L.fin, .int .i64 L.thread, .int .i64 L.lock, .int .i64 L.loc, .int .i64 L.size, .int .i64 me, .int .i64 other, .bool true, .int .i64 m.s, .int .i64 m.k, .int .i64 m.a, .func (.func 30) #[] #[]] 119)) _ (w.heap.size + 1) (by simp))
  have ozz : w.heap.size + 1 < w1.heap.size := OutZ.lt oz
  have h1 := runAt_keep h0 hb
  replace G := gb_trans G (gb_of_below (some g) hb)
  clear hb hwr
  replace hS0 := G.size
  have cc_4 : w1.cell? ⟨w.heap.size, 4, none⟩ = some (.int .i64 L.c.m) := cc 4 _ rfl
  have cc_13 : w1.cell? ⟨w.heap.size, 13, none⟩ = some (.int .i64 me) := cc 13 _ rfl
  have cc_14 : w1.cell? ⟨w.heap.size, 14, none⟩ = some (.int .i64 other) := cc 14 _ rfl
  have cc_15 : w1.cell? ⟨w.heap.size, 15, none⟩ = some (.bool true) := cc 15 _ rfl
  have cc_16 : w1.cell? ⟨w.heap.size, 16, none⟩ = some (.int .i64 m.s) := cc 16 _ rfl
  have cc_17 : w1.cell? ⟨w.heap.size, 17, none⟩ = some (.int .i64 m.k) := cc 17 _ rfl
  have cc_18 : w1.cell? ⟨w.heap.size, 18, none⟩ = some (.int .i64 m.a) := cc 18 _ rfl
  have cc_19 : w1.cell? ⟨w.heap.size, 19, none⟩ = some (.func (.func 30) #[] #[]) := cc 19 _ rfl
  have cc13 : CellsAt w1 (w.heap.size) [.int .i64 L.c.t, .int .i64 L.c.l, .int .i64 L.c.k, .int .i64 L.c.s, .int .i64 L.c.m, .int .i64 L.clock, .int .i64 L.stamps, .int .i64 L.log, .int .i64 L.fin, .int .i64 L.thread, .int .i64 L.lock, .int .i64 L.loc, .int .i64 L.size] := cellsAt_take 13 cc
  go_wp2_with (first | ((with_reducible refine wp_ld_lay ?hw13_47 ?x13_47 ?ho13_47 (w.heap.size) 0 ?hx13_47 [.int .i64 L.c.t, .int .i64 L.c.l, .int .i64 L.c.k, .int .i64 L.c.s, .int .i64 L.c.m, .int .i64 L.clock, .int .i64 L.stamps, .int .i64 L.log, .int .i64 L.fin, .int .i64 L.thread, .int .i64 L.lock, .int .i64 L.loc, .int .i64 L.size] rfl (rangeAt_of cc13) ?hh13_47); (case ho13_47 => exact rfl); (case hx13_47 => exact rfl); (case hw13_47 => exact rfl)) | ((with_reducible refine wp_ld_case ?hw20_48 ?x20_48 ?ho20_48 (w.heap.size) 0 ?hx20_48 [.int .i64 L.c.t, .int .i64 L.c.l, .int .i64 L.c.k, .int .i64 L.c.s, .int .i64 L.c.m, .int .i64 L.clock, .int .i64 L.stamps, .int .i64 L.log, .int .i64 L.fin, .int .i64 L.thread, .int .i64 L.lock, .int .i64 L.loc, .int .i64 L.size, .int .i64 me, .int .i64 other, .bool true, .int .i64 m.s, .int .i64 m.k, .int .i64 m.a, .func (.func 30) #[] #[]] rfl (rangeAt_of cc) ?hh20_48); (case ho20_48 => exact rfl); (case hx20_48 => exact rfl); (case hw20_48 => exact rfl)))
  ((with_reducible refine (HM.out _).mono ?_); rintro e w2 ⟨rfl, hb⟩)
  clear cc_4 cc_13 cc_14 cc_15 cc_16 cc_17 cc_18 cc_19
  clear cc13
  have hsz := hb.size
  (try simp at hsz)
  replace cc := cellsAt_keep cc hb
  replace oz := OutZ.below oz hb
  replace ccz : w.heap.size < w2.heap.size := by omega
  replace ozz : w.heap.size + 1 < w2.heap.size := by omega
  have h2 := runAt_keep h1 hb
  replace G := gb_trans G (gb_of_below (some g) hb)
  clear hb hsz
  replace hS0 := G.size
  have cc_4 : w2.cell? ⟨w.heap.size, 4, none⟩ = some (.int .i64 L.c.m) := cc 4 _ rfl
  have cc_13 : w2.cell? ⟨w.heap.size, 13, none⟩ = some (.int .i64 me) := cc 13 _ rfl
  have cc_14 : w2.cell? ⟨w.heap.size, 14, none⟩ = some (.int .i64 other) := cc 14 _ rfl
  have cc_15 : w2.cell? ⟨w.heap.size, 15, none⟩ = some (.bool true) := cc 15 _ rfl
  have cc_16 : w2.cell? ⟨w.heap.size, 16, none⟩ = some (.int .i64 m.s) := cc 16 _ rfl
  have cc_17 : w2.cell? ⟨w.heap.size, 17, none⟩ = some (.int .i64 m.k) := cc 17 _ rfl
  have cc_18 : w2.cell? ⟨w.heap.size, 18, none⟩ = some (.int .i64 m.a) := cc 18 _ rfl
  have cc_19 : w2.cell? ⟨w.heap.size, 19, none⟩ = some (.func (.func 30) #[] #[]) := cc 19 _ rfl
  have cc13 : CellsAt w2 (w.heap.size) [.int .i64 L.c.t, .int .i64 L.c.l, .int .i64 L.c.k, .int .i64 L.c.s, .int .i64 L.c.m, .int .i64 L.clock, .int .i64 L.stamps, .int .i64 L.log, .int .i64 L.fin, .int .i64 L.thread, .int .i64 L.lock, .int .i64 L.loc, .int .i64 L.size] := cellsAt_take 13 cc
  go_wp2_with (first | ((with_reducible refine wp_ld_lay ?hw13_49 ?x13_49 ?ho13_49 (w.heap.size) 0 ?hx13_49 [.int .i64 L.c.t, .int .i64 L.c.l, .int .i64 L.c.k, .int .i64 L.c.s, .int .i64 L.c.m, .int .i64 L.clock, .int .i64 L.stamps, .int .i64 L.log, .int .i64 L.fin, .int .i64 L.thread, .int .i64 L.lock, .int .i64 L.loc, .int .i64 L.size] rfl (rangeAt_of cc13) ?hh13_49); (case ho13_49 => exact rfl); (case hx13_49 => exact rfl); (case hw13_49 => exact rfl)) | ((with_reducible refine wp_ld_case ?hw20_50 ?x20_50 ?ho20_50 (w.heap.size) 0 ?hx20_50 [.int .i64 L.c.t, .int .i64 L.c.l, .int .i64 L.c.k, .int .i64 L.c.s, .int .i64 L.c.m, .int .i64 L.clock, .int .i64 L.stamps, .int .i64 L.log, .int .i64 L.fin, .int .i64 L.thread, .int .i64 L.lock, .int .i64 L.loc, .int .i64 L.size, .int .i64 me, .int .i64 other, .bool true, .int .i64 m.s, .int .i64 m.k, .int .i64 m.a, .func (.func 30) #[] #[]] rfl (rangeAt_of cc) ?hh20_50); (case ho20_50 => exact rfl); (case hx20_50 => exact rfl); (case hw20_50 => exact rfl)))
  ((with_reducible refine (load_some _ g _ _ _ h2).mono ?_); rintro e w3 ⟨rfl, h3, hb⟩)
  clear cc_4 cc_13 cc_14 cc_15 cc_16 cc_17 cc_18 cc_19
  clear cc13
  have hsz := hb.size
  (try simp at hsz)
  replace cc := cellsAt_gb cc hb (by omega)
  replace oz := OutZ.gb oz hb (by omega)
  replace ccz : w.heap.size < w3.heap.size := by omega
  replace ozz : w.heap.size + 1 < w3.heap.size := by omega
  replace G := gb_trans G hb
  clear hb hsz
  replace hS0 := G.size
  have cc_4 : w3.cell? ⟨w.heap.size, 4, none⟩ = some (.int .i64 L.c.m) := cc 4 _ rfl
  have cc_13 : w3.cell? ⟨w.heap.size, 13, none⟩ = some (.int .i64 me) := cc 13 _ rfl
  have cc_14 : w3.cell? ⟨w.heap.size, 14, none⟩ = some (.int .i64 other) := cc 14 _ rfl
  have cc_15 : w3.cell? ⟨w.heap.size, 15, none⟩ = some (.bool true) := cc 15 _ rfl
  have cc_16 : w3.cell? ⟨w.heap.size, 16, none⟩ = some (.int .i64 m.s) := cc 16 _ rfl
  have cc_17 : w3.cell? ⟨w.heap.size, 17, none⟩ = some (.int .i64 m.k) := cc 17 _ rfl
  have cc_18 : w3.cell? ⟨w.heap.size, 18, none⟩ = some (.int .i64 m.a) := cc 18 _ rfl
  have cc_19 : w3.cell? ⟨w.heap.size, 19, none⟩ = some (.func (.func 30) #[] #[]) := cc 19 _ rfl
  have cc13 : CellsAt w3 (w.heap.size) [.int .i64 L.c.t, .int .i64 L.c.l, .int .i64 L.c.k, .int .i64 L.c.s, .int .i64 L.c.m, .int .i64 L.clock, .int .i64 L.stamps, .int .i64 L.log, .int .i64 L.fin, .int .i64 L.thread, .int .i64 L.lock, .int .i64 L.loc, .int .i64 L.size] := cellsAt_take 13 cc
  go_wp2_with (first | ((with_reducible refine wp_ld_lay ?hw13_51 ?x13_51 ?ho13_51 (w.heap.size) 0 ?hx13_51 [.int .i64 L.c.t, .int .i64 L.c.l, .int .i64 L.c.k, .int .i64 L.c.s, .int .i64 L.c.m, .int .i64 L.clock, .int .i64 L.stamps, .int .i64 L.log, .int .i64 L.fin, .int .i64 L.thread, .int .i64 L.lock, .int .i64 L.loc, .int .i64 L.size] rfl (rangeAt_of cc13) ?hh13_51); (case ho13_51 => exact rfl); (case hx13_51 => exact rfl); (case hw13_51 => exact rfl)) | ((with_reducible refine wp_ld_case ?hw20_52 ?x20_52 ?ho20_52 (w.heap.size) 0 ?hx20_52 [.int .i64 L.c.t, .int .i64 L.c.l, .int .i64 L.c.k, .int .i64 L.c.s, .int .i64 L.c.m, .int .i64 L.clock, .int .i64 L.stamps, .int .i64 L.log, .int .i64 L.fin, .int .i64 L.thread, .int .i64 L.lock, .int .i64 L.loc, .int .i64 L.size, .int .i64 me, .int .i64 other, .bool true, .int .i64 m.s, .int .i64 m.k, .int .i64 m.a, .func (.func 30) #[] #[]] rfl (rangeAt_of cc) ?hh20_52); (case ho20_52 => exact rfl); (case hx20_52 => exact rfl); (case hw20_52 => exact rfl)))
  ((with_reducible refine (kind_any _ _).mono ?_); rintro e w' ⟨rfl, rfl⟩)
  clear cc13
  have cc13 : CellsAt w3 (w.heap.size) [.int .i64 L.c.t, .int .i64 L.c.l, .int .i64 L.c.k, .int .i64 L.c.s, .int .i64 L.c.m, .int .i64 L.clock, .int .i64 L.stamps, .int .i64 L.log, .int .i64 L.fin, .int .i64 L.thread, .int .i64 L.lock, .int .i64 L.loc, .int .i64 L.size] := cellsAt_take 13 cc
  have oq0 := oz.c0
  have oq1 := oz.c1
  have oq2 := oz.c2
  have oq3 := oz.c3
  have oq4 := oz.c4
  have oq5 := oz.c5
  have oq6 := oz.c6
  have of := oz.fr
  go_wp2_with (first | ((with_reducible refine wp_ld_lay ?hw13_53 ?x13_53 ?ho13_53 (w.heap.size) 0 ?hx13_53 [.int .i64 L.c.t, .int .i64 L.c.l, .int .i64 L.c.k, .int .i64 L.c.s, .int .i64 L.c.m, .int .i64 L.clock, .int .i64 L.stamps, .int .i64 L.log, .int .i64 L.fin, .int .i64 L.thread, .int .i64 L.lock, .int .i64 L.loc, .int .i64 L.size] rfl (rangeAt_of cc13) ?hh13_53); (case ho13_53 => exact rfl); (case hx13_53 => exact rfl); (case hw13_53 => exact rfl)) | ((with_reducible refine wp_ld_case ?hw20_54 ?x20_54 ?ho20_54 (w.heap.size) 0 ?hx20_54 [.int .i64 L.c.t, .int .i64 L.c.l, .int .i64 L.c.k, .int .i64 L.c.s, .int .i64 L.c.m, .int .i64 L.clock, .int .i64 L.stamps, .int .i64 L.log, .int .i64 L.fin, .int .i64 L.thread, .int .i64 L.lock, .int .i64 L.loc, .int .i64 L.size, .int .i64 me, .int .i64 other, .bool true, .int .i64 m.s, .int .i64 m.k, .int .i64 m.a, .func (.func 30) #[] #[]] rfl (rangeAt_of cc) ?hh20_54); (case ho20_54 => exact rfl); (case hx20_54 => exact rfl); (case hw20_54 => exact rfl)))
  obtain ⟨W, hW, k0, k1, k2, k3, k4, k5, k6⟩ := outs_at oz (.int .i64 (1)) (.int .i64 (0)) (.int .i64 (0)) (.int .i64 (0)) (.bool false) (.bool true) (.int .i64 (0))
  rw [← hW]
  simp [bodyPost, results, Try.results61, go_sem, k0, k1, k2, k3, k4, k5, k6, OutD.v]
  rw [hW]
  exact gb_outs G (by first | exact Nat.le_refl _ | omega) _ _ _ _ _ _ _

theorem res_t0 (w : World) (g : Nat) (L : Ly) (hok : L.ok) (me other : Int) (m : Ct) (r : Int × Bool)  (h0 : RunAt w g (r :: [])) (hr : ¬r.1 % 4 = 3) :
    Calls Try.prog 61 #[caseV L me other true m, .pointer (some ⟨g, 0, none⟩)] w fun e w' => e = .panicked [{ v := .iface 124 (Ask.v ⟨1, atStatus L other, 0, 0⟩), recovered := false }] ∧ w.grownBy w' (some g) := by
  unfold caseV
  have HM : Hid (∀ w, Calls Try.prog 38 #[L.v, .int .i64 me] w fun e w' => e = .returned (.int .i64 (atStatus L me)) ∧ Below w.heap.size w w') := Lib.hid (fun w => status_any L me w hok)
  have HS : Hid (∀ w, Calls Try.prog 38 #[L.v, .int .i64 other] w fun e w' => e = .returned (.int .i64 (atStatus L other)) ∧ Below w.heap.size w w') := Lib.hid (fun w => status_any L other w hok)
  have HT : Hid (∀ w, Calls Try.prog 64 #[L.v, .int .i64 other] w fun e w' => e = .returned (.int .i64 (atStamp L other)) ∧ Below w.heap.size w w') := Lib.hid (fun w => stamp_any L other w hok)
  have HK : Hid (∀ w, Calls Try.prog 65 #[L.v, .int .i64 other] w fun e w' => e = .returned (.int .i64 (atKarma L other)) ∧ Below w.heap.size w w') := Lib.hid (fun w => karma_any L other w hok)
  unfold Ly.v at HM HS HT HK
  have hq : (r.1 % 4 == 3) = false := by simp [hr]
  have hg0 := runAt_lt h0
  have G : w.grownBy w (some g) := gb_refl _ _
  have hS0 : w.heap.size + 0 ≤ w.heap.size := Nat.le_refl _
  go_enter Try.func61, Try.ntmps61
  go_wp2_with fail
  obtain ⟨w1, hwr⟩ : ∃ W, W = ((w.alloc (.cells #[.int .i64 L.c.t, .int .i64 L.c.l, .int .i64 L.c.k, .int .i64 L.c.s, .int .i64 L.c.m, .int .i64 L.clock, .int .i64 L.stamps, .int .i64 L.log, .int .i64 L.fin, .int .i64 L.thread, .int .i64 L.lock, .int .i64 L.loc, .int .i64 L.size, .int .i64 me, .int .i64 other, .bool true, .int .i64 m.s, .int .i64 m.k, .int .i64 m.a, .func (.func 30) #[] #[]] 119)).alloc (.cells #[.int .i64 0, .int .i64 0, .int .i64 0, .int .i64 0, .bool false, .bool false, .int .i64 0] 35)) := ⟨_, rfl⟩
  rw [← hwr]
  have hb : Below w.heap.size w w1 := by rw [hwr]; exact (Below.alloc (Below.alloc (Below.refl _ _) (by first | exact Nat.le_refl _ | (simp; omega) | simp) _) (by first | exact Nat.le_refl _ | (simp; omega) | simp) _)
  have cc : CellsAt w1 (w.heap.size) [.int .i64 L.c.t, .int .i64 L.c.l, .int .i64 L.c.k, .int .i64 L.c.s, .int .i64 L.c.m, .int .i64 L.clock, .int .i64 L.stamps, .int .i64 L.log, .int .i64 L.fin, .int .i64 L.thread, .int .i64 L.lock, .int .i64 L.loc, .int .i64 L.size, .int .i64 me, .int .i64 other, .bool true, .int .i64 m.s, .int .i64 m.k, .int .i64 m.a, .func (.func 30) #[] #[]] := by rw [hwr]; exact (cellsAt_alloc (cellsAt_new' w _ _ (w.heap.size) (by simp)) _)
  have ccz : w.heap.size < w1.heap.size := World.block_lt_of_cell? _ _ (cc 0 _ rfl)
  have oz : OutZ w1 (w.heap.size + 1) := by rw [hwr]; exact (OutZ.new' (w.alloc (.cells #[.int .i64 L.c.t, .int .i64 L.c.l, .int .i64 L.c.k, .int .i64 L.c.s, .int .i64 L.c.m, .int .i64 L.clock, .int .i64 L.stamps, .int .i64 L.log, .int .i64 L.fin, .int .i64 L.thread, .int .i64 L.lock, .int .i64 L.loc, .int .i64 L.size, .int .i64 me, .int .i64 other, .bool true, .int .i64 m.s, .int .i64 m.k, .int .i64 m.a, .func (.func 30) #[] #[]] 119)) _ (w.heap.size + 1) (by simp))
  have ozz : w.heap.size + 1 < w1.heap.size := OutZ.lt oz
  have h1 := runAt_keep h0 hb
  replace G := gb_trans G (gb_of_below (some g) hb)
  clear hb hwr
  replace hS0 := G.size
  have cc_4 : w1.cell? ⟨w.heap.size, 4, none⟩ = some (.int .i64 L.c.m) := cc 4 _ rfl
  have cc_13 : w1.cell? ⟨w.heap.size, 13, none⟩ = some (.int .i64 me) := cc 13 _ rfl
  have cc_14 : w1.cell? ⟨w.heap.size, 14, none⟩ = some (.int .i64 other) := cc 14 _ rfl
  have cc_15 : w1.cell? ⟨w.heap.size, 15, none⟩ = some (.bool true) := cc 15 _ rfl
  have cc_16 : w1.cell? ⟨w.heap.size, 16, none⟩ = some (.int .i64 m.s) := cc 16 _ rfl
  have cc_17 : w1.cell? ⟨w.heap.size, 17, none⟩ = some (.int .i64 m.k) := cc 17 _ rfl
  have cc_18 : w1.cell? ⟨w.heap.size, 18, none⟩ = some (.int .i64 m.a) := cc 18 _ rfl
  have cc_19 : w1.cell? ⟨w.heap.size, 19, none⟩ = some (.func (.func 30) #[] #[]) := cc 19 _ rfl
  have cc13 : CellsAt w1 (w.heap.size) [.int .i64 L.c.t, .int .i64 L.c.l, .int .i64 L.c.k, .int .i64 L.c.s, .int .i64 L.c.m, .int .i64 L.clock, .int .i64 L.stamps, .int .i64 L.log, .int .i64 L.fin, .int .i64 L.thread, .int .i64 L.lock, .int .i64 L.loc, .int .i64 L.size] := cellsAt_take 13 cc
  go_wp2_with (first | ((with_reducible refine wp_ld_lay ?hw13_157 ?x13_157 ?ho13_157 (w.heap.size) 0 ?hx13_157 [.int .i64 L.c.t, .int .i64 L.c.l, .int .i64 L.c.k, .int .i64 L.c.s, .int .i64 L.c.m, .int .i64 L.clock, .int .i64 L.stamps, .int .i64 L.log, .int .i64 L.fin, .int .i64 L.thread, .int .i64 L.lock, .int .i64 L.loc, .int .i64 L.size] rfl (rangeAt_of cc13) ?hh13_157); (case ho13_157 => exact rfl); (case hx13_157 => exact rfl); (case hw13_157 => exact rfl)) | ((with_reducible refine wp_ld_case ?hw20_158 ?x20_158 ?ho20_158 (w.heap.size) 0 ?hx20_158 [.int .i64 L.c.t, .int .i64 L.c.l, .int .i64 L.c.k, .int .i64 L.c.s, .int .i64 L.c.m, .int .i64 L.clock, .int .i64 L.stamps, .int .i64 L.log, .int .i64 L.fin, .int .i64 L.thread, .int .i64 L.lock, .int .i64 L.loc, .int .i64 L.size, .int .i64 me, .int .i64 other, .bool true, .int .i64 m.s, .int .i64 m.k, .int .i64 m.a, .func (.func 30) #[] #[]] rfl (rangeAt_of cc) ?hh20_158); (case ho20_158 => exact rfl); (case hx20_158 => exact rfl); (case hw20_158 => exact rfl)))
  ((with_reducible refine (HM.out _).mono ?_); rintro e w2 ⟨rfl, hb⟩)
  clear cc_4 cc_13 cc_14 cc_15 cc_16 cc_17 cc_18 cc_19
  clear cc13
  have hsz := hb.size
  (try simp at hsz)
  replace cc := cellsAt_keep cc hb
  replace oz := OutZ.below oz hb
  replace ccz : w.heap.size < w2.heap.size := by omega
  replace ozz : w.heap.size + 1 < w2.heap.size := by omega
  have h2 := runAt_keep h1 hb
  replace G := gb_trans G (gb_of_below (some g) hb)
  clear hb hsz
  replace hS0 := G.size
  have cc_4 : w2.cell? ⟨w.heap.size, 4, none⟩ = some (.int .i64 L.c.m) := cc 4 _ rfl
  have cc_13 : w2.cell? ⟨w.heap.size, 13, none⟩ = some (.int .i64 me) := cc 13 _ rfl
  have cc_14 : w2.cell? ⟨w.heap.size, 14, none⟩ = some (.int .i64 other) := cc 14 _ rfl
  have cc_15 : w2.cell? ⟨w.heap.size, 15, none⟩ = some (.bool true) := cc 15 _ rfl
  have cc_16 : w2.cell? ⟨w.heap.size, 16, none⟩ = some (.int .i64 m.s) := cc 16 _ rfl
  have cc_17 : w2.cell? ⟨w.heap.size, 17, none⟩ = some (.int .i64 m.k) := cc 17 _ rfl
  have cc_18 : w2.cell? ⟨w.heap.size, 18, none⟩ = some (.int .i64 m.a) := cc 18 _ rfl
  have cc_19 : w2.cell? ⟨w.heap.size, 19, none⟩ = some (.func (.func 30) #[] #[]) := cc 19 _ rfl
  have cc13 : CellsAt w2 (w.heap.size) [.int .i64 L.c.t, .int .i64 L.c.l, .int .i64 L.c.k, .int .i64 L.c.s, .int .i64 L.c.m, .int .i64 L.clock, .int .i64 L.stamps, .int .i64 L.log, .int .i64 L.fin, .int .i64 L.thread, .int .i64 L.lock, .int .i64 L.loc, .int .i64 L.size] := cellsAt_take 13 cc
  go_wp2_with (first | ((with_reducible refine wp_ld_lay ?hw13_159 ?x13_159 ?ho13_159 (w.heap.size) 0 ?hx13_159 [.int .i64 L.c.t, .int .i64 L.c.l, .int .i64 L.c.k, .int .i64 L.c.s, .int .i64 L.c.m, .int .i64 L.clock, .int .i64 L.stamps, .int .i64 L.log, .int .i64 L.fin, .int .i64 L.thread, .int .i64 L.lock, .int .i64 L.loc, .int .i64 L.size] rfl (rangeAt_of cc13) ?hh13_159); (case ho13_159 => exact rfl); (case hx13_159 => exact rfl); (case hw13_159 => exact rfl)) | ((with_reducible refine wp_ld_case ?hw20_160 ?x20_160 ?ho20_160 (w.heap.size) 0 ?hx20_160 [.int .i64 L.c.t, .int .i64 L.c.l, .int .i64 L.c.k, .int .i64 L.c.s, .int .i64 L.c.m, .int .i64 L.clock, .int .i64 L.stamps, .int .i64 L.log, .int .i64 L.fin, .int .i64 L.thread, .int .i64 L.lock, .int .i64 L.loc, .int .i64 L.size, .int .i64 me, .int .i64 other, .bool true, .int .i64 m.s, .int .i64 m.k, .int .i64 m.a, .func (.func 30) #[] #[]] rfl (rangeAt_of cc) ?hh20_160); (case ho20_160 => exact rfl); (case hx20_160 => exact rfl); (case hw20_160 => exact rfl)))
  ((with_reducible refine (load_some _ g _ _ _ h2).mono ?_); rintro e w3 ⟨rfl, h3, hb⟩)
  clear cc_4 cc_13 cc_14 cc_15 cc_16 cc_17 cc_18 cc_19
  clear cc13
  have hsz := hb.size
  (try simp at hsz)
  replace cc := cellsAt_gb cc hb (by omega)
  replace oz := OutZ.gb oz hb (by omega)
  replace ccz : w.heap.size < w3.heap.size := by omega
  replace ozz : w.heap.size + 1 < w3.heap.size := by omega
  replace G := gb_trans G hb
  clear hb hsz
  replace hS0 := G.size
  have cc_4 : w3.cell? ⟨w.heap.size, 4, none⟩ = some (.int .i64 L.c.m) := cc 4 _ rfl
  have cc_13 : w3.cell? ⟨w.heap.size, 13, none⟩ = some (.int .i64 me) := cc 13 _ rfl
  have cc_14 : w3.cell? ⟨w.heap.size, 14, none⟩ = some (.int .i64 other) := cc 14 _ rfl
  have cc_15 : w3.cell? ⟨w.heap.size, 15, none⟩ = some (.bool true) := cc 15 _ rfl
  have cc_16 : w3.cell? ⟨w.heap.size, 16, none⟩ = some (.int .i64 m.s) := cc 16 _ rfl
  have cc_17 : w3.cell? ⟨w.heap.size, 17, none⟩ = some (.int .i64 m.k) := cc 17 _ rfl
  have cc_18 : w3.cell? ⟨w.heap.size, 18, none⟩ = some (.int .i64 m.a) := cc 18 _ rfl
  have cc_19 : w3.cell? ⟨w.heap.size, 19, none⟩ = some (.func (.func 30) #[] #[]) := cc 19 _ rfl
  have cc13 : CellsAt w3 (w.heap.size) [.int .i64 L.c.t, .int .i64 L.c.l, .int .i64 L.c.k, .int .i64 L.c.s, .int .i64 L.c.m, .int .i64 L.clock, .int .i64 L.stamps, .int .i64 L.log, .int .i64 L.fin, .int .i64 L.thread, .int .i64 L.lock, .int .i64 L.loc, .int .i64 L.size] := cellsAt_take 13 cc
  go_wp2_with (first | ((with_reducible refine wp_ld_lay ?hw13_161 ?x13_161 ?ho13_161 (w.heap.size) 0 ?hx13_161 [.int .i64 L.c.t, .int .i64 L.c.l, .int .i64 L.c.k, .int .i64 L.c.s, .int .i64 L.c.m, .int .i64 L.clock, .int .i64 L.stamps, .int .i64 L.log, .int .i64 L.fin, .int .i64 L.thread, .int .i64 L.lock, .int .i64 L.loc, .int .i64 L.size] rfl (rangeAt_of cc13) ?hh13_161); (case ho13_161 => exact rfl); (case hx13_161 => exact rfl); (case hw13_161 => exact rfl)) | ((with_reducible refine wp_ld_case ?hw20_162 ?x20_162 ?ho20_162 (w.heap.size) 0 ?hx20_162 [.int .i64 L.c.t, .int .i64 L.c.l, .int .i64 L.c.k, .int .i64 L.c.s, .int .i64 L.c.m, .int .i64 L.clock, .int .i64 L.stamps, .int .i64 L.log, .int .i64 L.fin, .int .i64 L.thread, .int .i64 L.lock, .int .i64 L.loc, .int .i64 L.size, .int .i64 me, .int .i64 other, .bool true, .int .i64 m.s, .int .i64 m.k, .int .i64 m.a, .func (.func 30) #[] #[]] rfl (rangeAt_of cc) ?hh20_162); (case ho20_162 => exact rfl); (case hx20_162 => exact rfl); (case hw20_162 => exact rfl)))
  ((with_reducible refine (kind_any _ _).mono ?_); rintro e w' ⟨rfl, rfl⟩)
  clear cc13
  have cc13 : CellsAt w3 (w.heap.size) [.int .i64 L.c.t, .int .i64 L.c.l, .int .i64 L.c.k, .int .i64 L.c.s, .int .i64 L.c.m, .int .i64 L.clock, .int .i64 L.stamps, .int .i64 L.log, .int .i64 L.fin, .int .i64 L.thread, .int .i64 L.lock, .int .i64 L.loc, .int .i64 L.size] := cellsAt_take 13 cc
  go_wp2_with (first | ((with_reducible refine wp_ld_lay ?hw13_163 ?x13_163 ?ho13_163 (w.heap.size) 0 ?hx13_163 [.int .i64 L.c.t, .int .i64 L.c.l, .int .i64 L.c.k, .int .i64 L.c.s, .int .i64 L.c.m, .int .i64 L.clock, .int .i64 L.stamps, .int .i64 L.log, .int .i64 L.fin, .int .i64 L.thread, .int .i64 L.lock, .int .i64 L.loc, .int .i64 L.size] rfl (rangeAt_of cc13) ?hh13_163); (case ho13_163 => exact rfl); (case hx13_163 => exact rfl); (case hw13_163 => exact rfl)) | ((with_reducible refine wp_ld_case ?hw20_164 ?x20_164 ?ho20_164 (w.heap.size) 0 ?hx20_164 [.int .i64 L.c.t, .int .i64 L.c.l, .int .i64 L.c.k, .int .i64 L.c.s, .int .i64 L.c.m, .int .i64 L.clock, .int .i64 L.stamps, .int .i64 L.log, .int .i64 L.fin, .int .i64 L.thread, .int .i64 L.lock, .int .i64 L.loc, .int .i64 L.size, .int .i64 me, .int .i64 other, .bool true, .int .i64 m.s, .int .i64 m.k, .int .i64 m.a, .func (.func 30) #[] #[]] rfl (rangeAt_of cc) ?hh20_164); (case ho20_164 => exact rfl); (case hx20_164 => exact rfl); (case hw20_164 => exact rfl)))
  ((with_reducible refine (HS.out _).mono ?_); rintro e w4 ⟨rfl, hb⟩)
  clear cc_4 cc_13 cc_14 cc_15 cc_16 cc_17 cc_18 cc_19
  clear cc13
  have hsz := hb.size
  (try simp at hsz)
  replace cc := cellsAt_keep cc hb
  replace oz := OutZ.below oz hb
  replace ccz : w.heap.size < w4.heap.size := by omega
  replace ozz : w.heap.size + 1 < w4.heap.size := by omega
  have h4 := runAt_keep h3 hb
  replace G := gb_trans G (gb_of_below (some g) hb)
  clear hb hsz
  replace hS0 := G.size
  have cc_4 : w4.cell? ⟨w.heap.size, 4, none⟩ = some (.int .i64 L.c.m) := cc 4 _ rfl
  have cc_13 : w4.cell? ⟨w.heap.size, 13, none⟩ = some (.int .i64 me) := cc 13 _ rfl
  have cc_14 : w4.cell? ⟨w.heap.size, 14, none⟩ = some (.int .i64 other) := cc 14 _ rfl
  have cc_15 : w4.cell? ⟨w.heap.size, 15, none⟩ = some (.bool true) := cc 15 _ rfl
  have cc_16 : w4.cell? ⟨w.heap.size, 16, none⟩ = some (.int .i64 m.s) := cc 16 _ rfl
  have cc_17 : w4.cell? ⟨w.heap.size, 17, none⟩ = some (.int .i64 m.k) := cc 17 _ rfl
  have cc_18 : w4.cell? ⟨w.heap.size, 18, none⟩ = some (.int .i64 m.a) := cc 18 _ rfl
  have cc_19 : w4.cell? ⟨w.heap.size, 19, none⟩ = some (.func (.func 30) #[] #[]) := cc 19 _ rfl
  have cc13 : CellsAt w4 (w.heap.size) [.int .i64 L.c.t, .int .i64 L.c.l, .int .i64 L.c.k, .int .i64 L.c.s, .int .i64 L.c.m, .int .i64 L.clock, .int .i64 L.stamps, .int .i64 L.log, .int .i64 L.fin, .int .i64 L.thread, .int .i64 L.lock, .int .i64 L.loc, .int .i64 L.size] := cellsAt_take 13 cc
  go_wp2_with (first | ((with_reducible refine wp_ld_lay ?hw13_165 ?x13_165 ?ho13_165 (w.heap.size) 0 ?hx13_165 [.int .i64 L.c.t, .int .i64 L.c.l, .int .i64 L.c.k, .int .i64 L.c.s, .int .i64 L.c.m, .int .i64 L.clock, .int .i64 L.stamps, .int .i64 L.log, .int .i64 L.fin, .int .i64 L.thread, .int .i64 L.lock, .int .i64 L.loc, .int .i64 L.size] rfl (rangeAt_of cc13) ?hh13_165); (case ho13_165 => exact rfl); (case hx13_165 => exact rfl); (case hw13_165 => exact rfl)) | ((with_reducible refine wp_ld_case ?hw20_166 ?x20_166 ?ho20_166 (w.heap.size) 0 ?hx20_166 [.int .i64 L.c.t, .int .i64 L.c.l, .int .i64 L.c.k, .int .i64 L.c.s, .int .i64 L.c.m, .int .i64 L.clock, .int .i64 L.stamps, .int .i64 L.log, .int .i64 L.fin, .int .i64 L.thread, .int .i64 L.lock, .int .i64 L.loc, .int .i64 L.size, .int .i64 me, .int .i64 other, .bool true, .int .i64 m.s, .int .i64 m.k, .int .i64 m.a, .func (.func 30) #[] #[]] rfl (rangeAt_of cc) ?hh20_166); (case ho20_166 => exact rfl); (case hx20_166 => exact rfl); (case hw20_166 => exact rfl)))
  ((with_reducible refine (load_none _ g _ h4).mono ?_); rintro e w5 ⟨rfl, hb⟩)
  exact ⟨rfl, rfl, gb_trans G (gb_of_below (some g) hb)⟩

theorem res_tidle (w : World) (g : Nat) (L : Ly) (hok : L.ok) (me other : Int) (m : Ct) (r : Int × Bool) (s : Int × Bool) (l : List (Int × Bool)) (h0 : RunAt w g (r :: s :: l)) (hr : ¬r.1 % 4 = 3) (hs : s.1 % 4 = 0) :
    Calls Try.prog 61 #[caseV L me other true m, .pointer (some ⟨g, 0, none⟩)] w fun e w' => e = .returned (OutD.v { val := 0 }) ∧ w.grownBy w' (some g) := by
  unfold caseV
  have HM : Hid (∀ w, Calls Try.prog 38 #[L.v, .int .i64 me] w fun e w' => e = .returned (.int .i64 (atStatus L me)) ∧ Below w.heap.size w w') := Lib.hid (fun w => status_any L me w hok)
  have HS : Hid (∀ w, Calls Try.prog 38 #[L.v, .int .i64 other] w fun e w' => e = .returned (.int .i64 (atStatus L other)) ∧ Below w.heap.size w w') := Lib.hid (fun w => status_any L other w hok)
  have HT : Hid (∀ w, Calls Try.prog 64 #[L.v, .int .i64 other] w fun e w' => e = .returned (.int .i64 (atStamp L other)) ∧ Below w.heap.size w w') := Lib.hid (fun w => stamp_any L other w hok)
  have HK : Hid (∀ w, Calls Try.prog 65 #[L.v, .int .i64 other] w fun e w' => e = .returned (.int .i64 (atKarma L other)) ∧ Below w.heap.size w w') := Lib.hid (fun w => karma_any L other w hok)
  unfold Ly.v at HM HS HT HK
  have hq : (r.1 % 4 == 3) = false := by simp [hr]
  have hs0 : (s.1 % 4 == 0) = true := by simp [hs]
  have hg0 := runAt_lt h0
  have G : w.grownBy w (some g) := gb_refl _ _
  have hS0 : w.heap.size + 0 ≤ w.heap.size := Nat.le_refl _
  go_enter Try.func61, Try.ntmps61
  go_wp2_with fail
  obtain ⟨w1, hwr⟩ : ∃ W, W = ((w.alloc (.cells #[.int .i64 L.c.t, .int .i64 L.c.l, .int .i64 L.c.k, .int .i64 L.c.s, .int .i64 L.c.m, .int .i64 L.clock, .int .i64 L.stamps, .int .i64 L.log, .int .i64 L.fin, .int .i64 L.thread, .int .i64 L.lock, .int .i64 L.loc, .int .i64 L.size, .int .i64 me, .int .i64 other, .bool true, .int .i64 m.s, .int .i64 m.k, .int .i64 m.a, .func (.func 30) #[] #[]] 119)).alloc (.cells #[.int .i64 0, .int .i64 0, .int .i64 0, .int .i64 0, .bool false, .bool false, .int .i64 0] 35)) := ⟨_, rfl⟩
  rw [← hwr]
  have hb : Below w.heap.size w w1 := by rw [hwr]; exact (Below.alloc (Below.alloc (Below.refl _ _) (by first | exact Nat.le_refl _ | (simp; omega) | simp) _) (by first | exact Nat.le_refl _ | (simp; omega) | simp) _)
  have cc : CellsAt w1 (w.heap.size) [.int .i64 L.c.t, .int .i64 L.c.l, .int .i64 L.c.k, .int .i64 L.c.s, .int .i64 L.c.m, .int .i64 L.clock, .int .i64 L.stamps, .int .i64 L.log, .int .i64 L.fin, .int .i64 L.thread, .int .i64 L.lock, .int .i64 L.loc, .int .i64 L.size, .int .i64 me, .int .i64 other, .bool true, .int .i64 m.s, .int .i64 m.k, .int .i64 m.a, .func (.func 30) #[] #[]] := by rw [hwr]; exact (cellsAt_alloc (cellsAt_new' w _ _ (w.heap.size) (by simp)) _)
  have ccz : w.heap.size < w1.heap.size := World.block_lt_of_cell? _ _ (cc 0 _ rfl)
  have oz : OutZ w1 (w.heap.size + 1) := by rw [hwr]; exact (OutZ.new' (w.alloc (.cells #[.int .i64 L.c.t, .int .i64 L.c.l, .int .i64 L.c.k, .int .i64 L.c.s, .int .i64 L.c.m, .int .i64 L.clock, .int .i64 L.stamps, .int .i64 L.log, .int .i64 L.fin, .int .i64 L.thread, .int .i64 L.lock, .int .i64 L.loc, .int .i64 L.size, .int .i64 me, .int .i64 other, .bool true, .int .i64 m.s, .int .i64 m.k, .int .i64 m.a, .func (.func 30) #[] #[]] 119)) _ (w.heap.size + 1) (by simp))
  have ozz : w.heap.size + 1 < w1.heap.size := OutZ.lt oz
  have h1 := runAt_keep h0 hb
  replace G := gb_trans G (gb_of_below (some g) hb)
  clear hb hwr
  replace hS0 := G.size
  have cc_4 : w1.cell? ⟨w.heap.size, 4, none⟩ = some (.int .i64 L.c.m) := cc 4 _ rfl
  have cc_13 : w1.cell? ⟨w.heap.size, 13, none⟩ = some (.int .i64 me) := cc 13 _ rfl
  have cc_14 : w1.cell? ⟨w.heap.size, 14, none⟩ = some (.int .i64 other) := cc 14 _ rfl
  have cc_15 : w1.cell? ⟨w.heap.size, 15, none⟩ = some (.bool true) := cc 15 _ rfl
  have cc_16 : w1.cell? ⟨w.heap.size, 16, none⟩ = some (.int .i64 m.s) := cc 16 _ rfl
  have cc_17 : w1.cell? ⟨w.heap.size, 17, none⟩ = some (.int .i64 m.k) := cc 17 _ rfl
  have cc_18 : w1.cell? ⟨w.heap.size, 18, none⟩ = some (.int .i64 m.a) := cc 18 _ rfl
  have cc_19 : w1.cell? ⟨w.heap.size, 19, none⟩ = some (.func (.func 30) #[] #[]) := cc 19 _ rfl
  have cc13 : CellsAt w1 (w.heap.size) [.int .i64 L.c.t, .int .i64 L.c.l, .int .i64 L.c.k, .int .i64 L.c.s, .int .i64 L.c.m, .int .i64 L.clock, .int .i64 L.stamps, .int .i64 L.log, .int .i64 L.fin, .int .i64 L.thread, .int .i64 L.lock, .int .i64 L.loc, .int .i64 L.size] := cellsAt_take 13 cc
  go_wp2_with (first | ((with_reducible refine wp_ld_lay ?hw13_167 ?x13_167 ?ho13_167 (w.heap.size) 0 ?hx13_167 [.int .i64 L.c.t, .int .i64 L.c.l, .int .i64 L.c.k, .int .i64 L.c.s, .int .i64 L.c.m, .int .i64 L.clock, .int .i64 L.stamps, .int .i64 L.log, .int .i64 L.fin, .int .i64 L.thread, .int .i64 L.lock, .int .i64 L.loc, .int .i64 L.size] rfl (rangeAt_of cc13) ?hh13_167); (case ho13_167 => exact rfl); (case hx13_167 => exact rfl); (case hw13_167 => exact rfl)) | ((with_reducible refine wp_ld_case ?hw20_168 ?x20_168 ?ho20_168 (w.heap.size) 0 ?hx20_168 [.int .i64 L.c.t, .int .i64 L.c.l, .int .i64 L.c.k, .int .i64 L.c.s, .int .i64 L.c.m, .int .i64 L.clock, .int .i64 L.stamps, .int .i64 L.log, .int .i64 L.fin, .int .i64 L.thread, .int .i64 L.lock, .int .i64 L.loc, .int .i64 L.size, .int .i64 me, .int .i64 other, .bool true, .int .i64 m.s, .int .i64 m.k, .int .i64 m.a, .func (.func 30) #[] #[]] rfl (rangeAt_of cc) ?hh20_168); (case ho20_168 => exact rfl); (case hx20_168 => exact rfl); (case hw20_168 => exact rfl)))
  ((with_reducible refine (HM.out _).mono ?_); rintro e w2 ⟨rfl, hb⟩)
  clear cc_4 cc_13 cc_14 cc_15 cc_16 cc_17 cc_18 cc_19
  clear cc13
  have hsz := hb.size
  (try simp at hsz)
  replace cc := cellsAt_keep cc hb
  replace oz := OutZ.below oz hb
  replace ccz : w.heap.size < w2.heap.size := by omega
  replace ozz : w.heap.size + 1 < w2.heap.size := by omega
  have h2 := runAt_keep h1 hb
  replace G := gb_trans G (gb_of_below (some g) hb)
  clear hb hsz
  replace hS0 := G.size
  have cc_4 : w2.cell? ⟨w.heap.size, 4, none⟩ = some (.int .i64 L.c.m) := cc 4 _ rfl
  have cc_13 : w2.cell? ⟨w.heap.size, 13, none⟩ = some (.int .i64 me) := cc 13 _ rfl
  have cc_14 : w2.cell? ⟨w.heap.size, 14, none⟩ = some (.int .i64 other) := cc 14 _ rfl
  have cc_15 : w2.cell? ⟨w.heap.size, 15, none⟩ = some (.bool true) := cc 15 _ rfl
  have cc_16 : w2.cell? ⟨w.heap.size, 16, none⟩ = some (.int .i64 m.s) := cc 16 _ rfl
  have cc_17 : w2.cell? ⟨w.heap.size, 17, none⟩ = some (.int .i64 m.k) := cc 17 _ rfl
  have cc_18 : w2.cell? ⟨w.heap.size, 18, none⟩ = some (.int .i64 m.a) := cc 18 _ rfl
  have cc_19 : w2.cell? ⟨w.heap.size, 19, none⟩ = some (.func (.func 30) #[] #[]) := cc 19 _ rfl
  have cc13 : CellsAt w2 (w.heap.size) [.int .i64 L.c.t, .int .i64 L.c.l, .int .i64 L.c.k, .int .i64 L.c.s, .int .i64 L.c.m, .int .i64 L.clock, .int .i64 L.stamps, .int .i64 L.log, .int .i64 L.fin, .int .i64 L.thread, .int .i64 L.lock, .int .i64 L.loc, .int .i64 L.size] := cellsAt_take 13 cc
  go_wp2_with (first | ((with_reducible refine wp_ld_lay ?hw13_169 ?x13_169 ?ho13_169 (w.heap.size) 0 ?hx13_169 [.int .i64 L.c.t, .int .i64 L.c.l, .int .i64 L.c.k, .int .i64 L.c.s, .int .i64 L.c.m, .int .i64 L.clock, .int .i64 L.stamps, .int .i64 L.log, .int .i64 L.fin, .int .i64 L.thread, .int .i64 L.lock, .int .i64 L.loc, .int .i64 L.size] rfl (rangeAt_of cc13) ?hh13_169); (case ho13_169 => exact rfl); (case hx13_169 => exact rfl); (case hw13_169 => exact rfl)) | ((with_reducible refine wp_ld_case ?hw20_170 ?x20_170 ?ho20_170 (w.heap.size) 0 ?hx20_170 [.int .i64 L.c.t, .int .i64 L.c.l, .int .i64 L.c.k, .int .i64 L.c.s, .int .i64 L.c.m, .int .i64 L.clock, .int .i64 L.stamps, .int .i64 L.log, .int .i64 L.fin, .int .i64 L.thread, .int .i64 L.lock, .int .i64 L.loc, .int .i64 L.size, .int .i64 me, .int .i64 other, .bool true, .int .i64 m.s, .int .i64 m.k, .int .i64 m.a, .func (.func 30) #[] #[]] rfl (rangeAt_of cc) ?hh20_170); (case ho20_170 => exact rfl); (case hx20_170 => exact rfl); (case hw20_170 => exact rfl)))
  ((with_reducible refine (load_some _ g _ _ _ h2).mono ?_); rintro e w3 ⟨rfl, h3, hb⟩)
  clear cc_4 cc_13 cc_14 cc_15 cc_16 cc_17 cc_18 cc_19
  clear cc13
  have hsz := hb.size
  (try simp at hsz)
  replace cc := cellsAt_gb cc hb (by omega)
  replace oz := OutZ.gb oz hb (by omega)
  replace ccz : w.heap.size < w3.heap.size := by omega
  replace ozz : w.heap.size + 1 < w3.heap.size := by omega
  replace G := gb_trans G hb
  clear hb hsz
  replace hS0 := G.size
  have cc_4 : w3.cell? ⟨w.heap.size, 4, none⟩ = some (.int .i64 L.c.m) := cc 4 _ rfl
  have cc_13 : w3.cell? ⟨w.heap.size, 13, none⟩ = some (.int .i64 me) := cc 13 _ rfl
  have cc_14 : w3.cell? ⟨w.heap.size, 14, none⟩ = some (.int .i64 other) := cc 14 _ rfl
  have cc_15 : w3.cell? ⟨w.heap.size, 15, none⟩ = some (.bool true) := cc 15 _ rfl
  have cc_16 : w3.cell? ⟨w.heap.size, 16, none⟩ = some (.int .i64 m.s) := cc 16 _ rfl
  have cc_17 : w3.cell? ⟨w.heap.size, 17, none⟩ = some (.int .i64 m.k) := cc 17 _ rfl
  have cc_18 : w3.cell? ⟨w.heap.size, 18, none⟩ = some (.int .i64 m.a) := cc 18 _ rfl
  have cc_19 : w3.cell? ⟨w.heap.size, 19, none⟩ = some (.func (.func 30) #[] #[]) := cc 19 _ rfl
  have cc13 : CellsAt w3 (w.heap.size) [.int .i64 L.c.t, .int .i64 L.c.l, .int .i64 L.c.k, .int .i64 L.c.s, .int .i64 L.c.m, .int .i64 L.clock, .int .i64 L.stamps, .int .i64 L.log, .int .i64 L.fin, .int .i64 L.thread, .int .i64 L.lock, .int .i64 L.loc, .int .i64 L.size] := cellsAt_take 13 cc
  go_wp2_with (first | ((with_reducible refine wp_ld_lay ?hw13_171 ?x13_171 ?ho13_171 (w.heap.size) 0 ?hx13_171 [.int .i64 L.c.t, .int .i64 L.c.l, .int .i64 L.c.k, .int .i64 L.c.s, .int .i64 L.c.m, .int .i64 L.clock, .int .i64 L.stamps, .int .i64 L.log, .int .i64 L.fin, .int .i64 L.thread, .int .i64 L.lock, .int .i64 L.loc, .int .i64 L.size] rfl (rangeAt_of cc13) ?hh13_171); (case ho13_171 => exact rfl); (case hx13_171 => exact rfl); (case hw13_171 => exact rfl)) | ((with_reducible refine wp_ld_case ?hw20_172 ?x20_172 ?ho20_172 (w.heap.size) 0 ?hx20_172 [.int .i64 L.c.t, .int .i64 L.c.l, .int .i64 L.c.k, .int .i64 L.c.s, .int .i64 L.c.m, .int .i64 L.clock, .int .i64 L.stamps, .int .i64 L.log, .int .i64 L.fin, .int .i64 L.thread, .int .i64 L.lock, .int .i64 L.loc, .int .i64 L.size, .int .i64 me, .int .i64 other, .bool true, .int .i64 m.s, .int .i64 m.k, .int .i64 m.a, .func (.func 30) #[] #[]] rfl (rangeAt_of cc) ?hh20_172); (case ho20_172 => exact rfl); (case hx20_172 => exact rfl); (case hw20_172 => exact rfl)))
  ((with_reducible refine (kind_any _ _).mono ?_); rintro e w' ⟨rfl, rfl⟩)
  clear cc13
  have cc13 : CellsAt w3 (w.heap.size) [.int .i64 L.c.t, .int .i64 L.c.l, .int .i64 L.c.k, .int .i64 L.c.s, .int .i64 L.c.m, .int .i64 L.clock, .int .i64 L.stamps, .int .i64 L.log, .int .i64 L.fin, .int .i64 L.thread, .int .i64 L.lock, .int .i64 L.loc, .int .i64 L.size] := cellsAt_take 13 cc
  go_wp2_with (first | ((with_reducible refine wp_ld_lay ?hw13_173 ?x13_173 ?ho13_173 (w.heap.size) 0 ?hx13_173 [.int .i64 L.c.t, .int .i64 L.c.l, .int .i64 L.c.k, .int .i64 L.c.s, .int .i64 L.c.m, .int .i64 L.clock, .int .i64 L.stamps, .int .i64 L.log, .int .i64 L.fin, .int .i64 L.thread, .int .i64 L.lock, .int .i64 L.loc, .int .i64 L.size] rfl (rangeAt_of cc13) ?hh13_173); (case ho13_173 => exact rfl); (case hx13_173 => exact rfl); (case hw13_173 => exact rfl)) | ((with_reducible refine wp_ld_case ?hw20_174 ?x20_174 ?ho20_174 (w.heap.size) 0 ?hx20_174 [.int .i64 L.c.t, .int .i64 L.c.l, .int .i64 L.c.k, .int .i64 L.c.s, .int .i64 L.c.m, .int .i64 L.clock, .int .i64 L.stamps, .int .i64 L.log, .int .i64 L.fin, .int .i64 L.thread, .int .i64 L.lock, .int .i64 L.loc, .int .i64 L.size, .int .i64 me, .int .i64 other, .bool true, .int .i64 m.s, .int .i64 m.k, .int .i64 m.a, .func (.func 30) #[] #[]] rfl (rangeAt_of cc) ?hh20_174); (case ho20_174 => exact rfl); (case hx20_174 => exact rfl); (case hw20_174 => exact rfl)))
  ((with_reducible refine (HS.out _).mono ?_); rintro e w4 ⟨rfl, hb⟩)
  clear cc_4 cc_13 cc_14 cc_15 cc_16 cc_17 cc_18 cc_19
  clear cc13
  have hsz := hb.size
  (try simp at hsz)
  replace cc := cellsAt_keep cc hb
  replace oz := OutZ.below oz hb
  replace ccz : w.heap.size < w4.heap.size := by omega
  replace ozz : w.heap.size + 1 < w4.heap.size := by omega
  have h4 := runAt_keep h3 hb
  replace G := gb_trans G (gb_of_below (some g) hb)
  clear hb hsz
  replace hS0 := G.size
  have cc_4 : w4.cell? ⟨w.heap.size, 4, none⟩ = some (.int .i64 L.c.m) := cc 4 _ rfl
  have cc_13 : w4.cell? ⟨w.heap.size, 13, none⟩ = some (.int .i64 me) := cc 13 _ rfl
  have cc_14 : w4.cell? ⟨w.heap.size, 14, none⟩ = some (.int .i64 other) := cc 14 _ rfl
  have cc_15 : w4.cell? ⟨w.heap.size, 15, none⟩ = some (.bool true) := cc 15 _ rfl
  have cc_16 : w4.cell? ⟨w.heap.size, 16, none⟩ = some (.int .i64 m.s) := cc 16 _ rfl
  have cc_17 : w4.cell? ⟨w.heap.size, 17, none⟩ = some (.int .i64 m.k) := cc 17 _ rfl
  have cc_18 : w4.cell? ⟨w.heap.size, 18, none⟩ = some (.int .i64 m.a) := cc 18 _ rfl
  have cc_19 : w4.cell? ⟨w.heap.size, 19, none⟩ = some (.func (.func 30) #[] #[]) := cc 19 _ rfl
  have cc13 : CellsAt w4 (w.heap.size) [.int .i64 L.c.t, .int .i64 L.c.l, .int .i64 L.c.k, .int .i64 L.c.s, .int .i64 L.c.m, .int .i64 L.clock, .int .i64 L.stamps, .int .i64 L.log, .int .i64 L.fin, .int .i64 L.thread, .int .i64 L.lock, .int .i64 L.loc, .int .i64 L.size] := cellsAt_take 13 cc
  go_wp2_with (first | ((with_reducible refine wp_ld_lay ?hw13_175 ?x13_175 ?ho13_175 (w.heap.size) 0 ?hx13_175 [.int .i64 L.c.t, .int .i64 L.c.l, .int .i64 L.c.k, .int .i64 L.c.s, .int .i64 L.c.m, .int .i64 L.clock, .int .i64 L.stamps, .int .i64 L.log, .int .i64 L.fin, .int .i64 L.thread, .int .i64 L.lock, .int .i64 L.loc, .int .i64 L.size] rfl (rangeAt_of cc13) ?hh13_175); (case ho13_175 => exact rfl); (case hx13_175 => exact rfl); (case hw13_175 => exact rfl)) | ((with_reducible refine wp_ld_case ?hw20_176 ?x20_176 ?ho20_176 (w.heap.size) 0 ?hx20_176 [.int .i64 L.c.t, .int .i64 L.c.l, .int .i64 L.c.k, .int .i64 L.c.s, .int .i64 L.c.m, .int .i64 L.clock, .int .i64 L.stamps, .int .i64 L.log, .int .i64 L.fin, .int .i64 L.thread, .int .i64 L.lock, .int .i64 L.loc, .int .i64 L.size, .int .i64 me, .int .i64 other, .bool true, .int .i64 m.s, .int .i64 m.k, .int .i64 m.a, .func (.func 30) #[] #[]] rfl (rangeAt_of cc) ?hh20_176); (case ho20_176 => exact rfl); (case hx20_176 => exact rfl); (case hw20_176 => exact rfl)))
  ((with_reducible refine (load_some _ g _ _ _ h4).mono ?_); rintro e w5 ⟨rfl, h5, hb⟩)
  clear cc_4 cc_13 cc_14 cc_15 cc_16 cc_17 cc_18 cc_19
  clear cc13
  have hsz := hb.size
  (try simp at hsz)
  replace cc := cellsAt_gb cc hb (by omega)
  replace oz := OutZ.gb oz hb (by omega)
  replace ccz : w.heap.size < w5.heap.size := by omega
  replace ozz : w.heap.size + 1 < w5.heap.size := by omega
  replace G := gb_trans G hb
  clear hb hsz
  replace hS0 := G.size
  have cc_4 : w5.cell? ⟨w.heap.size, 4, none⟩ = some (.int .i64 L.c.m) := cc 4 _ rfl
  have cc_13 : w5.cell? ⟨w.heap.size, 13, none⟩ = some (.int .i64 me) := cc 13 _ rfl
  have cc_14 : w5.cell? ⟨w.heap.size, 14, none⟩ = some (.int .i64 other) := cc 14 _ rfl
  have cc_15 : w5.cell? ⟨w.heap.size, 15, none⟩ = some (.bool true) := cc 15 _ rfl
  have cc_16 : w5.cell? ⟨w.heap.size, 16, none⟩ = some (.int .i64 m.s) := cc 16 _ rfl
  have cc_17 : w5.cell? ⟨w.heap.size, 17, none⟩ = some (.int .i64 m.k) := cc 17 _ rfl
  have cc_18 : w5.cell? ⟨w.heap.size, 18, none⟩ = some (.int .i64 m.a) := cc 18 _ rfl
  have cc_19 : w5.cell? ⟨w.heap.size, 19, none⟩ = some (.func (.func 30) #[] #[]) := cc 19 _ rfl
  have cc13 : CellsAt w5 (w.heap.size) [.int .i64 L.c.t, .int .i64 L.c.l, .int .i64 L.c.k, .int .i64 L.c.s, .int .i64 L.c.m, .int .i64 L.clock, .int .i64 L.stamps, .int .i64 L.log, .int .i64 L.fin, .int .i64 L.thread, .int .i64 L.lock, .int .i64 L.loc, .int .i64 L.size] := cellsAt_take 13 cc
  go_wp2_with (first | ((with_reducible refine wp_ld_lay ?hw13_177 ?x13_177 ?ho13_177 (w.heap.size) 0 ?hx13_177 [.int .i64 L.c.t, .int .i64 L.c.l, .int .i64 L.c.k, .int .i64 L.c.s, .int .i64 L.c.m, .int .i64 L.clock, .int .i64 L.stamps, .int .i64 L.log, .int .i64 L.fin, .int .i64 L.thread, .int .i64 L.lock, .int .i64 L.loc, .int .i64 L.size] rfl (rangeAt_of cc13) ?hh13_177); (case ho13_177 => exact rfl); (case hx13_177 => exact rfl); (case hw13_177 => exact rfl)) | ((with_reducible refine wp_ld_case ?hw20_178 ?x20_178 ?ho20_178 (w.heap.size) 0 ?hx20_178 [.int .i64 L.c.t, .int .i64 L.c.l, .int .i64 L.c.k, .int .i64 L.c.s, .int .i64 L.c.m, .int .i64 L.clock, .int .i64 L.stamps, .int .i64 L.log, .int .i64 L.fin, .int .i64 L.thread, .int .i64 L.lock, .int .i64 L.loc, .int .i64 L.size, .int .i64 me, .int .i64 other, .bool true, .int .i64 m.s, .int .i64 m.k, .int .i64 m.a, .func (.func 30) #[] #[]] rfl (rangeAt_of cc) ?hh20_178); (case ho20_178 => exact rfl); (case hx20_178 => exact rfl); (case hw20_178 => exact rfl)))
  ((with_reducible refine (kind_any _ _).mono ?_); rintro e w' ⟨rfl, rfl⟩)
  clear cc13
  have cc13 : CellsAt w5 (w.heap.size) [.int .i64 L.c.t, .int .i64 L.c.l, .int .i64 L.c.k, .int .i64 L.c.s, .int .i64 L.c.m, .int .i64 L.clock, .int .i64 L.stamps, .int .i64 L.log, .int .i64 L.fin, .int .i64 L.thread, .int .i64 L.lock, .int .i64 L.loc, .int .i64 L.size] := cellsAt_take 13 cc
  have oq0 := oz.c0
  have oq1 := oz.c1
  have oq2 := oz.c2
  have oq3 := oz.c3
  have oq4 := oz.c4
  have oq5 := oz.c5
  have oq6 := oz.c6
  have of := oz.fr
  go_wp2_with (first | ((with_reducible refine wp_ld_lay ?hw13_179 ?x13_179 ?ho13_179 (w.heap.size) 0 ?hx13_179 [.int .i64 L.c.t, .int .i64 L.c.l, .int .i64 L.c.k, .int .i64 L.c.s, .int .i64 L.c.m, .int .i64 L.clock, .int .i64 L.stamps, .int .i64 L.log, .int .i64 L.fin, .int .i64 L.thread, .int .i64 L.lock, .int .i64 L.loc, .int .i64 L.size] rfl (rangeAt_of cc13) ?hh13_179); (case ho13_179 => exact rfl); (case hx13_179 => exact rfl); (case hw13_179 => exact rfl)) | ((with_reducible refine wp_ld_case ?hw20_180 ?x20_180 ?ho20_180 (w.heap.size) 0 ?hx20_180 [.int .i64 L.c.t, .int .i64 L.c.l, .int .i64 L.c.k, .int .i64 L.c.s, .int .i64 L.c.m, .int .i64 L.clock, .int .i64 L.stamps, .int .i64 L.log, .int .i64 L.fin, .int .i64 L.thread, .int .i64 L.lock, .int .i64 L.loc, .int .i64 L.size, .int .i64 me, .int .i64 other, .bool true, .int .i64 m.s, .int .i64 m.k, .int .i64 m.a, .func (.func 30) #[] #[]] rfl (rangeAt_of cc) ?hh20_180); (case ho20_180 => exact rfl); (case hx20_180 => exact rfl); (case hw20_180 => exact rfl)))
  obtain ⟨W, hW, k0, k1, k2, k3, k4, k5, k6⟩ := outs_at oz (.int .i64 (0)) (.int .i64 (0)) (.int .i64 (0)) (.int .i64 (0)) (.bool false) (.bool false) (.int .i64 (0))
  rw [← hW]
  simp [bodyPost, results, Try.results61, go_sem, k0, k1, k2, k3, k4, k5, k6, OutD.v]
  rw [hW]
  exact gb_outs G (by first | exact Nat.le_refl _ | omega) _ _ _ _ _ _ _

theorem res_t1 (w : World) (g : Nat) (L : Ly) (hok : L.ok) (me other : Int) (m : Ct) (r : Int × Bool) (s : Int × Bool) (h0 : RunAt w g (r :: [s])) (hr : ¬r.1 % 4 = 3) (hi : I64 s.1) (hs : ¬s.1 % 4 = 0) :
    Calls Try.prog 61 #[caseV L me other true m, .pointer (some ⟨g, 0, none⟩)] w fun e w' => e = .panicked [{ v := .iface 124 (Ask.v ⟨1, atStamp L other, 0, 0⟩), recovered := false }] ∧ w.grownBy w' (some g) := by
  unfold caseV
  have HM : Hid (∀ w, Calls Try.prog 38 #[L.v, .int .i64 me] w fun e w' => e = .returned (.int .i64 (atStatus L me)) ∧ Below w.heap.size w w') := Lib.hid (fun w => status_any L me w hok)
  have HS : Hid (∀ w, Calls Try.prog 38 #[L.v, .int .i64 other] w fun e w' => e = .returned (.int .i64 (atStatus L other)) ∧ Below w.heap.size w w') := Lib.hid (fun w => status_any L other w hok)
  have HT : Hid (∀ w, Calls Try.prog 64 #[L.v, .int .i64 other] w fun e w' => e = .returned (.int .i64 (atStamp L other)) ∧ Below w.heap.size w w') := Lib.hid (fun w => stamp_any L other w hok)
  have HK : Hid (∀ w, Calls Try.prog 65 #[L.v, .int .i64 other] w fun e w' => e = .returned (.int .i64 (atKarma L other)) ∧ Below w.heap.size w w') := Lib.hid (fun w => karma_any L other w hok)
  unfold Ly.v at HM HS HT HK
  have hq : (r.1 % 4 == 3) = false := by simp [hr]
  have hs0 : (s.1 % 4 == 0) = false := by simp [hs]
  have hg0 := runAt_lt h0
  have G : w.grownBy w (some g) := gb_refl _ _
  have hS0 : w.heap.size + 0 ≤ w.heap.size := Nat.le_refl _
  go_enter Try.func61, Try.ntmps61
  go_wp2_with fail
  obtain ⟨w1, hwr⟩ : ∃ W, W = ((w.alloc (.cells #[.int .i64 L.c.t, .int .i64 L.c.l, .int .i64 L.c.k, .int .i64 L.c.s, .int .i64 L.c.m, .int .i64 L.clock, .int .i64 L.stamps, .int .i64 L.log, .int .i64 L.fin, .int .i64 L.thread, .int .i64 L.lock, .int .i64 L.loc, .int .i64 L.size, .int .i64 me, .int .i64 other, .bool true, .int .i64 m.s, .int .i64 m.k, .int .i64 m.a, .func (.func 30) #[] #[]] 119)).alloc (.cells #[.int .i64 0, .int .i64 0, .int .i64 0, .int .i64 0, .bool false, .bool false, .int .i64 0] 35)) := ⟨_, rfl⟩
  rw [← hwr]
  have hb : Below w.heap.size w w1 := by rw [hwr]; exact (Below.alloc (Below.alloc (Below.refl _ _) (by first | exact Nat.le_refl _ | (simp; omega) | simp) _) (by first | exact Nat.le_refl _ | (simp; omega) | simp) _)
  have cc : CellsAt w1 (w.heap.size) [.int .i64 L.c.t, .int .i64 L.c.l, .int .i64 L.c.k, .int .i64 L.c.s, .int .i64 L.c.m, .int .i64 L.clock, .int .i64 L.stamps, .int .i64 L.log, .int .i64 L.fin, .int .i64 L.thread, .int .i64 L.lock, .int .i64 L.loc, .int .i64 L.size, .int .i64 me, .int .i64 other, .bool true, .int .i64 m.s, .int .i64 m.k, .int .i64 m.a, .func (.func 30) #[] #[]] := by rw [hwr]; exact (cellsAt_alloc (cellsAt_new' w _ _ (w.heap.size) (by simp)) _)
  have ccz : w.heap.size < w1.heap.size := World.block_lt_of_cell? _ _ (cc 0 _ rfl)
  have oz : OutZ w1 (w.heap.size + 1) := by rw [hwr]; exact (OutZ.new' (w.alloc (.cells #[.int .i64 L.c.t, .int .i64 L.c.l, .int .i64 L.c.k, .int .i64 L.c.s, .int .i64 L.c.m, .int .i64 L.clock, .int .i64 L.stamps, .int .i64 L.log, .int .i64 L.fin, .int .i64 L.thread, .int .i64 L.lock, .int .i64 L.loc, .int .i64 L.size, .int .i64 me, .int .i64 other, .bool true, .int .i64 m.s, .int .i64 m.k, .int .i64 m.a, .func (.func 30) #[] #[]] 119)) _ (w.heap.size + 1) (by simp))
  have ozz : w.heap.size + 1 < w1.heap.size := OutZ.lt oz
  have h1 := runAt_keep h0 hb
  replace G := gb_trans G (gb_of_below (some g) hb)
  clear hb hwr
  replace hS0 := G.size
  have cc_4 : w1.cell? ⟨w.heap.size, 4, none⟩ = some (.int .i64 L.c.m) := cc 4 _ rfl
  have cc_13 : w1.cell? ⟨w.heap.size, 13, none⟩ = some (.int .i64 me) := cc 13 _ rfl
  have cc_14 : w1.cell? ⟨w.heap.size, 14, none⟩ = some (.int .i64 other) := cc 14 _ rfl
  have cc_15 : w1.cell? ⟨w.heap.size, 15, none⟩ = some (.bool true) := cc 15 _ rfl
  have cc_16 : w1.cell? ⟨w.heap.size, 16, none⟩ = some (.int .i64 m.s) := cc 16 _ rfl
  have cc_17 : w1.cell? ⟨w.heap.size, 17, none⟩ = some (.int .i64 m.k) := cc 17 _ rfl
  have cc_18 : w1.cell? ⟨w.heap.size, 18, none⟩ = some (.int .i64 m.a) := cc 18 _ rfl
  have cc_19 : w1.cell? ⟨w.heap.size, 19, none⟩ = some (.func (.func 30) #[] #[]) := cc 19 _ rfl
  have cc13 : CellsAt w1 (w.heap.size) [.int .i64 L.c.t, .int .i64 L.c.l, .int .i64 L.c.k, .int .i64 L.c.s, .int .i64 L.c.m, .int .i64 L.clock, .int .i64 L.stamps, .int .i64 L.log, .int .i64 L.fin, .int .i64 L.thread, .int .i64 L.lock, .int .i64 L.loc, .int .i64 L.size] := cellsAt_take 13 cc
  go_wp2_with (first | ((with_reducible refine wp_ld_lay ?hw13_181 ?x13_181 ?ho13_181 (w.heap.size) 0 ?hx13_181 [.int .i64 L.c.t, .int .i64 L.c.l, .int .i64 L.c.k, .int .i64 L.c.s, .int .i64 L.c.m, .int .i64 L.clock, .int .i64 L.stamps, .int .i64 L.log, .int .i64 L.fin, .int .i64 L.thread, .int .i64 L.lock, .int .i64 L.loc, .int .i64 L.size] rfl (rangeAt_of cc13) ?hh13_181); (case ho13_181 => exact rfl); (case hx13_181 => exact rfl); (case hw13_181 => exact rfl)) | ((with_reducible refine wp_ld_case ?hw20_182 ?x20_182 ?ho20_182 (w.heap.size) 0 ?hx20_182 [.int .i64 L.c.t, .int .i64 L.c.l, .int .i64 L.c.k, .int .i64 L.c.s, .int .i64 L.c.m, .int .i64 L.clock, .int .i64 L.stamps, .int .i64 L.log, .int .i64 L.fin, .int .i64 L.thread, .int .i64 L.lock, .int .i64 L.loc, .int .i64 L.size, .int .i64 me, .int .i64 other, .bool true, .int .i64 m.s, .int .i64 m.k, .int .i64 m.a, .func (.func 30) #[] #[]] rfl (rangeAt_of cc) ?hh20_182); (case ho20_182 => exact rfl); (case hx20_182 => exact rfl); (case hw20_182 => exact rfl)))
  ((with_reducible refine (HM.out _).mono ?_); rintro e w2 ⟨rfl, hb⟩)
  clear cc_4 cc_13 cc_14 cc_15 cc_16 cc_17 cc_18 cc_19
  clear cc13
  have hsz := hb.size
  (try simp at hsz)
  replace cc := cellsAt_keep cc hb
  replace oz := OutZ.below oz hb
  replace ccz : w.heap.size < w2.heap.size := by omega
  replace ozz : w.heap.size + 1 < w2.heap.size := by omega
  have h2 := runAt_keep h1 hb
  replace G := gb_trans G (gb_of_below (some g) hb)
  clear hb hsz
  replace hS0 := G.size
  have cc_4 : w2.cell? ⟨w.heap.size, 4, none⟩ = some (.int .i64 L.c.m) := cc 4 _ rfl
  have cc_13 : w2.cell? ⟨w.heap.size, 13, none⟩ = some (.int .i64 me) := cc 13 _ rfl
  have cc_14 : w2.cell? ⟨w.heap.size, 14, none⟩ = some (.int .i64 other) := cc 14 _ rfl
  have cc_15 : w2.cell? ⟨w.heap.size, 15, none⟩ = some (.bool true) := cc 15 _ rfl
  have cc_16 : w2.cell? ⟨w.heap.size, 16, none⟩ = some (.int .i64 m.s) := cc 16 _ rfl
  have cc_17 : w2.cell? ⟨w.heap.size, 17, none⟩ = some (.int .i64 m.k) := cc 17 _ rfl
  have cc_18 : w2.cell? ⟨w.heap.size, 18, none⟩ = some (.int .i64 m.a) := cc 18 _ rfl
  have cc_19 : w2.cell? ⟨w.heap.size, 19, none⟩ = some (.func (.func 30) #[] #[]) := cc 19 _ rfl
  have cc13 : CellsAt w2 (w.heap.size) [.int .i64 L.c.t, .int .i64 L.c.l, .int .i64 L.c.k, .int .i64 L.c.s, .int .i64 L.c.m, .int .i64 L.clock, .int .i64 L.stamps, .int .i64 L.log, .int .i64 L.fin, .int .i64 L.thread, .int .i64 L.lock, .int .i64 L.loc, .int .i64 L.size] := cellsAt_take 13 cc
  go_wp2_with (first | ((with_reducible refine wp_ld_lay ?hw13_183 ?x13_183 ?ho13_183 (w.heap.size) 0 ?hx13_183 [.int .i64 L.c.t, .int .i64 L.c.l, .int .i64 L.c.k, .int .i64 L.c.s, .int .i64 L.c.m, .int .i64 L.clock, .int .i64 L.stamps, .int .i64 L.log, .int .i64 L.fin, .int .i64 L.thread, .int .i64 L.lock, .int .i64 L.loc, .int .i64 L.size] rfl (rangeAt_of cc13) ?hh13_183); (case ho13_183 => exact rfl); (case hx13_183 => exact rfl); (case hw13_183 => exact rfl)) | ((with_reducible refine wp_ld_case ?hw20_184 ?x20_184 ?ho20_184 (w.heap.size) 0 ?hx20_184 [.int .i64 L.c.t, .int .i64 L.c.l, .int .i64 L.c.k, .int .i64 L.c.s, .int .i64 L.c.m, .int .i64 L.clock, .int .i64 L.stamps, .int .i64 L.log, .int .i64 L.fin, .int .i64 L.thread, .int .i64 L.lock, .int .i64 L.loc, .int .i64 L.size, .int .i64 me, .int .i64 other, .bool true, .int .i64 m.s, .int .i64 m.k, .int .i64 m.a, .func (.func 30) #[] #[]] rfl (rangeAt_of cc) ?hh20_184); (case ho20_184 => exact rfl); (case hx20_184 => exact rfl); (case hw20_184 => exact rfl)))
  ((with_reducible refine (load_some _ g _ _ _ h2).mono ?_); rintro e w3 ⟨rfl, h3, hb⟩)
  clear cc_4 cc_13 cc_14 cc_15 cc_16 cc_17 cc_18 cc_19
  clear cc13
  have hsz := hb.size
  (try simp at hsz)
  replace cc := cellsAt_gb cc hb (by omega)
  replace oz := OutZ.gb oz hb (by omega)
  replace ccz : w.heap.size < w3.heap.size := by omega
  replace ozz : w.heap.size + 1 < w3.heap.size := by omega
  replace G := gb_trans G hb
  clear hb hsz
  replace hS0 := G.size
  have cc_4 : w3.cell? ⟨w.heap.size, 4, none⟩ = some (.int .i64 L.c.m) := cc 4 _ rfl
  have cc_13 : w3.cell? ⟨w.heap.size, 13, none⟩ = some (.int .i64 me) := cc 13 _ rfl
  have cc_14 : w3.cell? ⟨w.heap.size, 14, none⟩ = some (.int .i64 other) := cc 14 _ rfl
  have cc_15 : w3.cell? ⟨w.heap.size, 15, none⟩ = some (.bool true) := cc 15 _ rfl
  have cc_16 : w3.cell? ⟨w.heap.size, 16, none⟩ = some (.int .i64 m.s) := cc 16 _ rfl
  have cc_17 : w3.cell? ⟨w.heap.size, 17, none⟩ = some (.int .i64 m.k) := cc 17 _ rfl
  have cc_18 : w3.cell? ⟨w.heap.size, 18, none⟩ = some (.int .i64 m.a) := cc 18 _ rfl
  have cc_19 : w3.cell? ⟨w.heap.size, 19, none⟩ = some (.func (.func 30) #[] #[]) := cc 19 _ rfl
  have cc13 : CellsAt w3 (w.heap.size) [.int .i64 L.c.t, .int .i64 L.c.l, .int .i64 L.c.k, .int .i64 L.c.s, .int .i64 L.c.m, .int .i64 L.clock, .int .i64 L.stamps, .int .i64 L.log, .int .i64 L.fin, .int .i64 L.thread, .int .i64 L.lock, .int .i64 L.loc, .int .i64 L.size] := cellsAt_take 13 cc
  go_wp2_with (first | ((with_reducible refine wp_ld_lay ?hw13_185 ?x13_185 ?ho13_185 (w.heap.size) 0 ?hx13_185 [.int .i64 L.c.t, .int .i64 L.c.l, .int .i64 L.c.k, .int .i64 L.c.s, .int .i64 L.c.m, .int .i64 L.clock, .int .i64 L.stamps, .int .i64 L.log, .int .i64 L.fin, .int .i64 L.thread, .int .i64 L.lock, .int .i64 L.loc, .int .i64 L.size] rfl (rangeAt_of cc13) ?hh13_185); (case ho13_185 => exact rfl); (case hx13_185 => exact rfl); (case hw13_185 => exact rfl)) | ((with_reducible refine wp_ld_case ?hw20_186 ?x20_186 ?ho20_186 (w.heap.size) 0 ?hx20_186 [.int .i64 L.c.t, .int .i64 L.c.l, .int .i64 L.c.k, .int .i64 L.c.s, .int .i64 L.c.m, .int .i64 L.clock, .int .i64 L.stamps, .int .i64 L.log, .int .i64 L.fin, .int .i64 L.thread, .int .i64 L.lock, .int .i64 L.loc, .int .i64 L.size, .int .i64 me, .int .i64 other, .bool true, .int .i64 m.s, .int .i64 m.k, .int .i64 m.a, .func (.func 30) #[] #[]] rfl (rangeAt_of cc) ?hh20_186); (case ho20_186 => exact rfl); (case hx20_186 => exact rfl); (case hw20_186 => exact rfl)))
  ((with_reducible refine (kind_any _ _).mono ?_); rintro e w' ⟨rfl, rfl⟩)
  clear cc13
  have cc13 : CellsAt w3 (w.heap.size) [.int .i64 L.c.t, .int .i64 L.c.l, .int .i64 L.c.k, .int .i64 L.c.s, .int .i64 L.c.m, .int .i64 L.clock, .int .i64 L.stamps, .int .i64 L.log, .int .i64 L.fin, .int .i64 L.thread, .int .i64 L.lock, .int .i64 L.loc, .int .i64 L.size] := cellsAt_take 13 cc
  go_wp2_with (first | ((with_reducible refine wp_ld_lay ?hw13_187 ?x13_187 ?ho13_187 (w.heap.size) 0 ?hx13_187 [.int .i64 L.c.t, .int .i64 L.c.l, .int .i64 L.c.k, .int .i64 L.c.s, .int .i64 L.c.m, .int .i64 L.clock, .int .i64 L.stamps, .int .i64 L.log, .int .i64 L.fin, .int .i64 L.thread, .int .i64 L.lock, .int .i64 L.loc, .int .i64 L.size] rfl (rangeAt_of cc13) ?hh13_187); (case ho13_187 => exact rfl); (case hx13_187 => exact rfl); (case hw13_187 => exact rfl)) | ((with_reducible refine wp_ld_case ?hw20_188 ?x20_188 ?ho20_188 (w.heap.size) 0 ?hx20_188 [.int .i64 L.c.t, .int .i64 L.c.l, .int .i64 L.c.k, .int .i64 L.c.s, .int .i64 L.c.m, .int .i64 L.clock, .int .i64 L.stamps, .int .i64 L.log, .int .i64 L.fin, .int .i64 L.thread, .int .i64 L.lock, .int .i64 L.loc, .int .i64 L.size, .int .i64 me, .int .i64 other, .bool true, .int .i64 m.s, .int .i64 m.k, .int .i64 m.a, .func (.func 30) #[] #[]] rfl (rangeAt_of cc) ?hh20_188); (case ho20_188 => exact rfl); (case hx20_188 => exact rfl); (case hw20_188 => exact rfl)))
  ((with_reducible refine (HS.out _).mono ?_); rintro e w4 ⟨rfl, hb⟩)
  clear cc_4 cc_13 cc_14 cc_15 cc_16 cc_17 cc_18 cc_19
  clear cc13
  have hsz := hb.size
  (try simp at hsz)
  replace cc := cellsAt_keep cc hb
  replace oz := OutZ.below oz hb
  replace ccz : w.heap.size < w4.heap.size := by omega
  replace ozz : w.heap.size + 1 < w4.heap.size := by omega
  have h4 := runAt_keep h3 hb
  replace G := gb_trans G (gb_of_below (some g) hb)
  clear hb hsz
  replace hS0 := G.size
  have cc_4 : w4.cell? ⟨w.heap.size, 4, none⟩ = some (.int .i64 L.c.m) := cc 4 _ rfl
  have cc_13 : w4.cell? ⟨w.heap.size, 13, none⟩ = some (.int .i64 me) := cc 13 _ rfl
  have cc_14 : w4.cell? ⟨w.heap.size, 14, none⟩ = some (.int .i64 other) := cc 14 _ rfl
  have cc_15 : w4.cell? ⟨w.heap.size, 15, none⟩ = some (.bool true) := cc 15 _ rfl
  have cc_16 : w4.cell? ⟨w.heap.size, 16, none⟩ = some (.int .i64 m.s) := cc 16 _ rfl
  have cc_17 : w4.cell? ⟨w.heap.size, 17, none⟩ = some (.int .i64 m.k) := cc 17 _ rfl
  have cc_18 : w4.cell? ⟨w.heap.size, 18, none⟩ = some (.int .i64 m.a) := cc 18 _ rfl
  have cc_19 : w4.cell? ⟨w.heap.size, 19, none⟩ = some (.func (.func 30) #[] #[]) := cc 19 _ rfl
  have cc13 : CellsAt w4 (w.heap.size) [.int .i64 L.c.t, .int .i64 L.c.l, .int .i64 L.c.k, .int .i64 L.c.s, .int .i64 L.c.m, .int .i64 L.clock, .int .i64 L.stamps, .int .i64 L.log, .int .i64 L.fin, .int .i64 L.thread, .int .i64 L.lock, .int .i64 L.loc, .int .i64 L.size] := cellsAt_take 13 cc
  go_wp2_with (first | ((with_reducible refine wp_ld_lay ?hw13_189 ?x13_189 ?ho13_189 (w.heap.size) 0 ?hx13_189 [.int .i64 L.c.t, .int .i64 L.c.l, .int .i64 L.c.k, .int .i64 L.c.s, .int .i64 L.c.m, .int .i64 L.clock, .int .i64 L.stamps, .int .i64 L.log, .int .i64 L.fin, .int .i64 L.thread, .int .i64 L.lock, .int .i64 L.loc, .int .i64 L.size] rfl (rangeAt_of cc13) ?hh13_189); (case ho13_189 => exact rfl); (case hx13_189 => exact rfl); (case hw13_189 => exact rfl)) | ((with_reducible refine wp_ld_case ?hw20_190 ?x20_190 ?ho20_190 (w.heap.size) 0 ?hx20_190 [.int .i64 L.c.t, .int .i64 L.c.l, .int .i64 L.c.k, .int .i64 L.c.s, .int .i64 L.c.m, .int .i64 L.clock, .int .i64 L.stamps, .int .i64 L.log, .int .i64 L.fin, .int .i64 L.thread, .int .i64 L.lock, .int .i64 L.loc, .int .i64 L.size, .int .i64 me, .int .i64 other, .bool true, .int .i64 m.s, .int .i64 m.k, .int .i64 m.a, .func (.func 30) #[] #[]] rfl (rangeAt_of cc) ?hh20_190); (case ho20_190 => exact rfl); (case hx20_190 => exact rfl); (case hw20_190 => exact rfl)))
  ((with_reducible refine (load_some _ g _ _ _ h4).mono ?_); rintro e w5 ⟨rfl, h5, hb⟩)
  clear cc_4 cc_13 cc_14 cc_15 cc_16 cc_17 cc_18 cc_19
  clear cc13
  have hsz := hb.size
  (try simp at hsz)
  replace cc := cellsAt_gb cc hb (by omega)
  replace oz := OutZ.gb oz hb (by omega)
  replace ccz : w.heap.size < w5.heap.size := by omega
  replace ozz : w.heap.size + 1 < w5.heap.size := by omega
  replace G := gb_trans G hb
  clear hb hsz
  replace hS0 := G.size
  have cc_4 : w5.cell? ⟨w.heap.size, 4, none⟩ = some (.int .i64 L.c.m) := cc 4 _ rfl
  have cc_13 : w5.cell? ⟨w.heap.size, 13, none⟩ = some (.int .i64 me) := cc 13 _ rfl
  have cc_14 : w5.cell? ⟨w.heap.size, 14, none⟩ = some (.int .i64 other) := cc 14 _ rfl
  have cc_15 : w5.cell? ⟨w.heap.size, 15, none⟩ = some (.bool true) := cc 15 _ rfl
  have cc_16 : w5.cell? ⟨w.heap.size, 16, none⟩ = some (.int .i64 m.s) := cc 16 _ rfl
  have cc_17 : w5.cell? ⟨w.heap.size, 17, none⟩ = some (.int .i64 m.k) := cc 17 _ rfl
  have cc_18 : w5.cell? ⟨w.heap.size, 18, none⟩ = some (.int .i64 m.a) := cc 18 _ rfl
  have cc_19 : w5.cell? ⟨w.heap.size, 19, none⟩ = some (.func (.func 30) #[] #[]) := cc 19 _ rfl
  have cc13 : CellsAt w5 (w.heap.size) [.int .i64 L.c.t, .int .i64 L.c.l, .int .i64 L.c.k, .int .i64 L.c.s, .int .i64 L.c.m, .int .i64 L.clock, .int .i64 L.stamps, .int .i64 L.log, .int .i64 L.fin, .int .i64 L.thread, .int .i64 L.lock, .int .i64 L.loc, .int .i64 L.size] := cellsAt_take 13 cc
  go_wp2_with (first | ((with_reducible refine wp_ld_lay ?hw13_191 ?x13_191 ?ho13_191 (w.heap.size) 0 ?hx13_191 [.int .i64 L.c.t, .int .i64 L.c.l, .int .i64 L.c.k, .int .i64 L.c.s, .int .i64 L.c.m, .int .i64 L.clock, .int .i64 L.stamps, .int .i64 L.log, .int .i64 L.fin, .int .i64 L.thread, .int .i64 L.lock, .int .i64 L.loc, .int .i64 L.size] rfl (rangeAt_of cc13) ?hh13_191); (case ho13_191 => exact rfl); (case hx13_191 => exact rfl); (case hw13_191 => exact rfl)) | ((with_reducible refine wp_ld_case ?hw20_192 ?x20_192 ?ho20_192 (w.heap.size) 0 ?hx20_192 [.int .i64 L.c.t, .int .i64 L.c.l, .int .i64 L.c.k, .int .i64 L.c.s, .int .i64 L.c.m, .int .i64 L.clock, .int .i64 L.stamps, .int .i64 L.log, .int .i64 L.fin, .int .i64 L.thread, .int .i64 L.lock, .int .i64 L.loc, .int .i64 L.size, .int .i64 me, .int .i64 other, .bool true, .int .i64 m.s, .int .i64 m.k, .int .i64 m.a, .func (.func 30) #[] #[]] rfl (rangeAt_of cc) ?hh20_192); (case ho20_192 => exact rfl); (case hx20_192 => exact rfl); (case hw20_192 => exact rfl)))
  ((with_reducible refine (kind_any _ _).mono ?_); rintro e w' ⟨rfl, rfl⟩)
  clear cc13
  have cc13 : CellsAt w5 (w.heap.size) [.int .i64 L.c.t, .int .i64 L.c.l, .int .i64 L.c.k, .int .i64 L.c.s, .int .i64 L.c.m, .int .i64 L.clock, .int .i64 L.stamps, .int .i64 L.log, .int .i64 L.fin, .int .i64 L.thread, .int .i64 L.lock, .int .i64 L.loc, .int .i64 L.size] := cellsAt_take 13 cc
  go_wp2_with (first | ((with_reducible refine wp_ld_lay ?hw13_193 ?x13_193 ?ho13_193 (w.heap.size) 0 ?hx13_193 [.int .i64 L.c.t, .int .i64 L.c.l, .int .i64 L.c.k, .int .i64 L.c.s, .int .i64 L.c.m, .int .i64 L.clock, .int .i64 L.stamps, .int .i64 L.log, .int .i64 L.fin, .int .i64 L.thread, .int .i64 L.lock, .int .i64 L.loc, .int .i64 L.size] rfl (rangeAt_of cc13) ?hh13_193); (case ho13_193 => exact rfl); (case hx13_193 => exact rfl); (case hw13_193 => exact rfl)) | ((with_reducible refine wp_ld_case ?hw20_194 ?x20_194 ?ho20_194 (w.heap.size) 0 ?hx20_194 [.int .i64 L.c.t, .int .i64 L.c.l, .int .i64 L.c.k, .int .i64 L.c.s, .int .i64 L.c.m, .int .i64 L.clock, .int .i64 L.stamps, .int .i64 L.log, .int .i64 L.fin, .int .i64 L.thread, .int .i64 L.lock, .int .i64 L.loc, .int .i64 L.size, .int .i64 me, .int .i64 other, .bool true, .int .i64 m.s, .int .i64 m.k, .int .i64 m.a, .func (.func 30) #[] #[]] rfl (rangeAt_of cc) ?hh20_194); (case ho20_194 => exact rfl); (case hx20_194 => exact rfl); (case hw20_194 => exact rfl)))
  ((with_reducible refine (try_any _ hi _).mono ?_); rintro e w' ⟨rfl, rfl⟩)
  clear cc13
  have cc13 : CellsAt w5 (w.heap.size) [.int .i64 L.c.t, .int .i64 L.c.l, .int .i64 L.c.k, .int .i64 L.c.s, .int .i64 L.c.m, .int .i64 L.clock, .int .i64 L.stamps, .int .i64 L.log, .int .i64 L.fin, .int .i64 L.thread, .int .i64 L.lock, .int .i64 L.loc, .int .i64 L.size] := cellsAt_take 13 cc
  go_wp2_with (first | ((with_reducible refine wp_ld_lay ?hw13_195 ?x13_195 ?ho13_195 (w.heap.size) 0 ?hx13_195 [.int .i64 L.c.t, .int .i64 L.c.l, .int .i64 L.c.k, .int .i64 L.c.s, .int .i64 L.c.m, .int .i64 L.clock, .int .i64 L.stamps, .int .i64 L.log, .int .i64 L.fin, .int .i64 L.thread, .int .i64 L.lock, .int .i64 L.loc, .int .i64 L.size] rfl (rangeAt_of (cellsAt_alloc cc13 _)) ?hh13_195); (case ho13_195 => exact rfl); (case hx13_195 => exact rfl); (case hw13_195 => exact rfl)) | ((with_reducible refine wp_ld_case ?hw20_196 ?x20_196 ?ho20_196 (w.heap.size) 0 ?hx20_196 [.int .i64 L.c.t, .int .i64 L.c.l, .int .i64 L.c.k, .int .i64 L.c.s, .int .i64 L.c.m, .int .i64 L.clock, .int .i64 L.stamps, .int .i64 L.log, .int .i64 L.fin, .int .i64 L.thread, .int .i64 L.lock, .int .i64 L.loc, .int .i64 L.size, .int .i64 me, .int .i64 other, .bool true, .int .i64 m.s, .int .i64 m.k, .int .i64 m.a, .func (.func 30) #[] #[]] rfl (rangeAt_of (cellsAt_alloc cc _)) ?hh20_196); (case ho20_196 => exact rfl); (case hx20_196 => exact rfl); (case hw20_196 => exact rfl)))
  ((with_reducible refine (HT.out _).mono ?_); rintro e w6 ⟨rfl, hb⟩)
  clear cc_4 cc_13 cc_14 cc_15 cc_16 cc_17 cc_18 cc_19
  clear cc13
  have hsz := hb.size
  (try simp at hsz)
  have xcczn : w.heap.size ≠ w5.heap.size := by omega
  have xozzn : w.heap.size + 1 ≠ w5.heap.size := by omega
  have xgn : w5.heap.size ≠ g := by omega
  have xlo : w.heap.size ≤ w5.heap.size := by omega
  replace cc := cellsAt_keep (cellsAt_alloc cc _) hb
  replace oz := OutZ.below (OutZ.alloc oz _) hb
  have xq0 : w6.cell? ⟨w5.heap.size, 0, none⟩ = some (.int .i64 0) := cel_below hb (by rw [World.cell?_alloc_at _ _ _ _ (by simp)]; rfl)
  have xq1 : w6.cell? ⟨w5.heap.size, 1, none⟩ = some (.int .i64 0) := cel_below hb (by rw [World.cell?_alloc_at _ _ _ _ (by simp)]; rfl)
  have xq2 : w6.cell? ⟨w5.heap.size, 2, none⟩ = some (.int .i64 (s.1 / 4)) := cel_below hb (by rw [World.cell?_alloc_at _ _ _ _ (by simp)]; rfl)
  have xf : ∀ o, w6.frozen? ⟨w5.heap.size, o, none⟩ = false := fun o => fro_below hb (by first | omega | (simp; done) | (simp; omega)) (World.frozen?_alloc_at _ _ _ _ (by simp))
  replace ccz : w.heap.size < w6.heap.size := by omega
  replace ozz : w.heap.size + 1 < w6.heap.size := by omega
  have xz : w5.heap.size < w6.heap.size := World.block_lt_of_cell? _ _ xq0
  have h6 := runAt_keep (runAt_alloc h5 _) hb
  replace G := gb_trans (gb_alloc G _) (gb_of_below (some g) hb)
  clear hb hsz
  replace hS0 := G.size
  have cc_4 : w6.cell? ⟨w.heap.size, 4, none⟩ = some (.int .i64 L.c.m) := cc 4 _ rfl
  have cc_13 : w6.cell? ⟨w.heap.size, 13, none⟩ = some (.int .i64 me) := cc 13 _ rfl
  have cc_14 : w6.cell? ⟨w.heap.size, 14, none⟩ = some (.int .i64 other) := cc 14 _ rfl
  have cc_15 : w6.cell? ⟨w.heap.size, 15, none⟩ = some (.bool true) := cc 15 _ rfl
  have cc_16 : w6.cell? ⟨w.heap.size, 16, none⟩ = some (.int .i64 m.s) := cc 16 _ rfl
  have cc_17 : w6.cell? ⟨w.heap.size, 17, none⟩ = some (.int .i64 m.k) := cc 17 _ rfl
  have cc_18 : w6.cell? ⟨w.heap.size, 18, none⟩ = some (.int .i64 m.a) := cc 18 _ rfl
  have cc_19 : w6.cell? ⟨w.heap.size, 19, none⟩ = some (.func (.func 30) #[] #[]) := cc 19 _ rfl
  have cc13 : CellsAt w6 (w.heap.size) [.int .i64 L.c.t, .int .i64 L.c.l, .int .i64 L.c.k, .int .i64 L.c.s, .int .i64 L.c.m, .int .i64 L.clock, .int .i64 L.stamps, .int .i64 L.log, .int .i64 L.fin, .int .i64 L.thread, .int .i64 L.lock, .int .i64 L.loc, .int .i64 L.size] := cellsAt_take 13 cc
  go_wp2_with (first | ((with_reducible refine wp_ld_lay ?hw13_197 ?x13_197 ?ho13_197 (w.heap.size) 0 ?hx13_197 [.int .i64 L.c.t, .int .i64 L.c.l, .int .i64 L.c.k, .int .i64 L.c.s, .int .i64 L.c.m, .int .i64 L.clock, .int .i64 L.stamps, .int .i64 L.log, .int .i64 L.fin, .int .i64 L.thread, .int .i64 L.lock, .int .i64 L.loc, .int .i64 L.size] rfl (rangeAt_of cc13) ?hh13_197); (case ho13_197 => exact rfl); (case hx13_197 => exact rfl); (case hw13_197 => exact rfl)) | ((with_reducible refine wp_ld_case ?hw20_198 ?x20_198 ?ho20_198 (w.heap.size) 0 ?hx20_198 [.int .i64 L.c.t, .int .i64 L.c.l, .int .i64 L.c.k, .int .i64 L.c.s, .int .i64 L.c.m, .int .i64 L.clock, .int .i64 L.stamps, .int .i64 L.log, .int .i64 L.fin, .int .i64 L.thread, .int .i64 L.lock, .int .i64 L.loc, .int .i64 L.size, .int .i64 me, .int .i64 other, .bool true, .int .i64 m.s, .int .i64 m.k, .int .i64 m.a, .func (.func 30) #[] #[]] rfl (rangeAt_of cc) ?hh20_198); (case ho20_198 => exact rfl); (case hx20_198 => exact rfl); (case hw20_198 => exact rfl)))
  ((with_reducible refine (load_none _ g _ h6).mono ?_); rintro e w7 ⟨rfl, hb⟩)
  exact ⟨rfl, rfl, gb_trans G (gb_of_below (some g) hb)⟩

theorem res_t2 (w : World) (g : Nat) (L : Ly) (hok : L.ok) (me other : Int) (m : Ct) (r : Int × Bool) (s t : Int × Bool) (h0 : RunAt w g (r :: [s, t])) (hr : ¬r.1 % 4 = 3) (hi : I64 s.1) (hs : ¬s.1 % 4 = 0) :
    Calls Try.prog 61 #[caseV L me other true m, .pointer (some ⟨g, 0, none⟩)] w fun e w' => e = .panicked [{ v := .iface 124 (Ask.v ⟨1, atKarma L other, 0, 0⟩), recovered := false }] ∧ w.grownBy w' (some g) := by
  unfold caseV
  have HM : Hid (∀ w, Calls Try.prog 38 #[L.v, .int .i64 me] w fun e w' => e = .returned (.int .i64 (atStatus L me)) ∧ Below w.heap.size w w') := Lib.hid (fun w => status_any L me w hok)
  have HS : Hid (∀ w, Calls Try.prog 38 #[L.v, .int .i64 other] w fun e w' => e = .returned (.int .i64 (atStatus L other)) ∧ Below w.heap.size w w') := Lib.hid (fun w => status_any L other w hok)
  have HT : Hid (∀ w, Calls Try.prog 64 #[L.v, .int .i64 other] w fun e w' => e = .returned (.int .i64 (atStamp L other)) ∧ Below w.heap.size w w') := Lib.hid (fun w => stamp_any L other w hok)
  have HK : Hid (∀ w, Calls Try.prog 65 #[L.v, .int .i64 other] w fun e w' => e = .returned (.int .i64 (atKarma L other)) ∧ Below w.heap.size w w') := Lib.hid (fun w => karma_any L other w hok)
  unfold Ly.v at HM HS HT HK
  have hq : (r.1 % 4 == 3) = false := by simp [hr]
  have hs0 : (s.1 % 4 == 0) = false := by simp [hs]
  have hg0 := runAt_lt h0
  have G : w.grownBy w (some g) := gb_refl _ _
  have hS0 : w.heap.size + 0 ≤ w.heap.size := Nat.le_refl _
  go_enter Try.func61, Try.ntmps61
  go_wp2_with fail
  obtain ⟨w1, hwr⟩ : ∃ W, W = ((w.alloc (.cells #[.int .i64 L.c.t, .int .i64 L.c.l, .int .i64 L.c.k, .int .i64 L.c.s, .int .i64 L.c.m, .int .i64 L.clock, .int .i64 L.stamps, .int .i64 L.log, .int .i64 L.fin, .int .i64 L.thread, .int .i64 L.lock, .int .i64 L.loc, .int .i64 L.size, .int .i64 me, .int .i64 other, .bool true, .int .i64 m.s, .int .i64 m.k, .int .i64 m.a, .func (.func 30) #[] #[]] 119)).alloc (.cells #[.int .i64 0, .int .i64 0, .int .i64 0, .int .i64 0, .bool false, .bool false, .int .i64 0] 35)) := ⟨_, rfl⟩
  rw [← hwr]
  have hb : Below w.heap.size w w1 := by rw [hwr]; exact (Below.alloc (Below.alloc (Below.refl _ _) (by first | exact Nat.le_refl _ | (simp; omega) | simp) _) (by first | exact Nat.le_refl _ | (simp; omega) | simp) _)
  have cc : CellsAt w1 (w.heap.size) [.int .i64 L.c.t, .int .i64 L.c.l, .int .i64 L.c.k, .int .i64 L.c.s, .int .i64 L.c.m, .int .i64 L.clock, .int .i64 L.stamps, .int .i64 L.log, .int .i64 L.fin, .int .i64 L.thread, .int .i64 L.lock, .int .i64 L.loc, .int .i64 L.size, .int .i64 me, .int .i64 other, .bool true, .int .i64 m.s, .int .i64 m.k, .int .i64 m.a, .func (.func 30) #[] #[]] := by rw [hwr]; exact (cellsAt_alloc (cellsAt_new' w _ _ (w.heap.size) (by simp)) _)
  have ccz : w.heap.size < w1.heap.size := World.block_lt_of_cell? _ _ (cc 0 _ rfl)
  have oz : OutZ w1 (w.heap.size + 1) := by rw [hwr]; exact (OutZ.new' (w.alloc (.cells #[.int .i64 L.c.t, .int .i64 L.c.l, .int .i64 L.c.k, .int .i64 L.c.s, .int .i64 L.c.m, .int .i64 L.clock, .int .i64 L.stamps, .int .i64 L.log, .int .i64 L.fin, .int .i64 L.thread, .int .i64 L.lock, .int .i64 L.loc, .int .i64 L.size, .int .i64 me, .int .i64 other, .bool true, .int .i64 m.s, .int .i64 m.k, .int .i64 m.a, .func (.func 30) #[] #[]] 119)) _ (w.heap.size + 1) (by simp))
  have ozz : w.heap.size + 1 < w1.heap.size := OutZ.lt oz
  have h1 := runAt_keep h0 hb
  replace G := gb_trans G (gb_of_below (some g) hb)
  clear hb hwr
  replace hS0 := G.size
  have cc_4 : w1.cell? ⟨w.heap.size, 4, none⟩ = some (.int .i64 L.c.m) := cc 4 _ rfl
  have cc_13 : w1.cell? ⟨w.heap.size, 13, none⟩ = some (.int .i64 me) := cc 13 _ rfl
  have cc_14 : w1.cell? ⟨w.heap.size, 14, none⟩ = some (.int .i64 other) := cc 14 _ rfl
  have cc_15 : w1.cell? ⟨w.heap.size, 15, none⟩ = some (.bool true) := cc 15 _ rfl
  have cc_16 : w1.cell? ⟨w.heap.size, 16, none⟩ = some (.int .i64 m.s) := cc 16 _ rfl
  have cc_17 : w1.cell? ⟨w.heap.size, 17, none⟩ = some (.int .i64 m.k) := cc 17 _ rfl
  have cc_18 : w1.cell? ⟨w.heap.size, 18, none⟩ = some (.int .i64 m.a) := cc 18 _ rfl
  have cc_19 : w1.cell? ⟨w.heap.size, 19, none⟩ = some (.func (.func 30) #[] #[]) := cc 19 _ rfl
  have cc13 : CellsAt w1 (w.heap.size) [.int .i64 L.c.t, .int .i64 L.c.l, .int .i64 L.c.k, .int .i64 L.c.s, .int .i64 L.c.m, .int .i64 L.clock, .int .i64 L.stamps, .int .i64 L.log, .int .i64 L.fin, .int .i64 L.thread, .int .i64 L.lock, .int .i64 L.loc, .int .i64 L.size] := cellsAt_take 13 cc
  go_wp2_with (first | ((with_reducible refine wp_ld_lay ?hw13_199 ?x13_199 ?ho13_199 (w.heap.size) 0 ?hx13_199 [.int .i64 L.c.t, .int .i64 L.c.l, .int .i64 L.c.k, .int .i64 L.c.s, .int .i64 L.c.m, .int .i64 L.clock, .int .i64 L.stamps, .int .i64 L.log, .int .i64 L.fin, .int .i64 L.thread, .int .i64 L.lock, .int .i64 L.loc, .int .i64 L.size] rfl (rangeAt_of cc13) ?hh13_199); (case ho13_199 => exact rfl); (case hx13_199 => exact rfl); (case hw13_199 => exact rfl)) | ((with_reducible refine wp_ld_case ?hw20_200 ?x20_200 ?ho20_200 (w.heap.size) 0 ?hx20_200 [.int .i64 L.c.t, .int .i64 L.c.l, .int .i64 L.c.k, .int .i64 L.c.s, .int .i64 L.c.m, .int .i64 L.clock, .int .i64 L.stamps, .int .i64 L.log, .int .i64 L.fin, .int .i64 L.thread, .int .i64 L.lock, .int .i64 L.loc, .int .i64 L.size, .int .i64 me, .int .i64 other, .bool true, .int .i64 m.s, .int .i64 m.k, .int .i64 m.a, .func (.func 30) #[] #[]] rfl (rangeAt_of cc) ?hh20_200); (case ho20_200 => exact rfl); (case hx20_200 => exact rfl); (case hw20_200 => exact rfl)))
  ((with_reducible refine (HM.out _).mono ?_); rintro e w2 ⟨rfl, hb⟩)
  clear cc_4 cc_13 cc_14 cc_15 cc_16 cc_17 cc_18 cc_19
  clear cc13
  have hsz := hb.size
  (try simp at hsz)
  replace cc := cellsAt_keep cc hb
  replace oz := OutZ.below oz hb
  replace ccz : w.heap.size < w2.heap.size := by omega
  replace ozz : w.heap.size + 1 < w2.heap.size := by omega
  have h2 := runAt_keep h1 hb
  replace G := gb_trans G (gb_of_below (some g) hb)
  clear hb hsz
  replace hS0 := G.size
  have cc_4 : w2.cell? ⟨w.heap.size, 4, none⟩ = some (.int .i64 L.c.m) := cc 4 _ rfl
  have cc_13 : w2.cell? ⟨w.heap.size, 13, none⟩ = some (.int .i64 me) := cc 13 _ rfl
  have cc_14 : w2.cell? ⟨w.heap.size, 14, none⟩ = some (.int .i64 other) := cc 14 _ rfl
  have cc_15 : w2.cell? ⟨w.heap.size, 15, none⟩ = some (.bool true) := cc 15 _ rfl
  have cc_16 : w2.cell? ⟨w.heap.size, 16, none⟩ = some (.int .i64 m.s) := cc 16 _ rfl
  have cc_17 : w2.cell? ⟨w.heap.size, 17, none⟩ = some (.int .i64 m.k) := cc 17 _ rfl
  have cc_18 : w2.cell? ⟨w.heap.size, 18, none⟩ = some (.int .i64 m.a) := cc 18 _ rfl
  have cc_19 : w2.cell? ⟨w.heap.size, 19, none⟩ = some (.func (.func 30) #[] #[]) := cc 19 _ rfl
  have cc13 : CellsAt w2 (w.heap.size) [.int .i64 L.c.t, .int .i64 L.c.l, .int .i64 L.c.k, .int .i64 L.c.s, .int .i64 L.c.m, .int .i64 L.clock, .int .i64 L.stamps, .int .i64 L.log, .int .i64 L.fin, .int .i64 L.thread, .int .i64 L.lock, .int .i64 L.loc, .int .i64 L.size] := cellsAt_take 13 cc
  go_wp2_with (first | ((with_reducible refine wp_ld_lay ?hw13_201 ?x13_201 ?ho13_201 (w.heap.size) 0 ?hx13_201 [.int .i64 L.c.t, .int .i64 L.c.l, .int .i64 L.c.k, .int .i64 L.c.s, .int .i64 L.c.m, .int .i64 L.clock, .int .i64 L.stamps, .int .i64 L.log, .int .i64 L.fin, .int .i64 L.thread, .int .i64 L.lock, .int .i64 L.loc, .int .i64 L.size] rfl (rangeAt_of cc13) ?hh13_201); (case ho13_201 => exact rfl); (case hx13_201 => exact rfl); (case hw13_201 => exact rfl)) | ((with_reducible refine wp_ld_case ?hw20_202 ?x20_202 ?ho20_202 (w.heap.size) 0 ?hx20_202 [.int .i64 L.c.t, .int .i64 L.c.l, .int .i64 L.c.k, .int .i64 L.c.s, .int .i64 L.c.m, .int .i64 L.clock, .int .i64 L.stamps, .int .i64 L.log, .int .i64 L.fin, .int .i64 L.thread, .int .i64 L.lock, .int .i64 L.loc, .int .i64 L.size, .int .i64 me, .int .i64 other, .bool true, .int .i64 m.s, .int .i64 m.k, .int .i64 m.a, .func (.func 30) #[] #[]] rfl (rangeAt_of cc) ?hh20_202); (case ho20_202 => exact rfl); (case hx20_202 => exact rfl); (case hw20_202 => exact rfl)))
  ((with_reducible refine (load_some _ g _ _ _ h2).mono ?_); rintro e w3 ⟨rfl, h3, hb⟩)
  clear cc_4 cc_13 cc_14 cc_15 cc_16 cc_17 cc_18 cc_19
  clear cc13
  have hsz := hb.size
  (try simp at hsz)
  replace cc := cellsAt_gb cc hb (by omega)
  replace oz := OutZ.gb oz hb (by omega)
  replace ccz : w.heap.size < w3.heap.size := by omega
  replace ozz : w.heap.size + 1 < w3.heap.size := by omega
  replace G := gb_trans G hb
  clear hb hsz
  replace hS0 := G.size
  have cc_4 : w3.cell? ⟨w.heap.size, 4, none⟩ = some (.int .i64 L.c.m) := cc 4 _ rfl
  have cc_13 : w3.cell? ⟨w.heap.size, 13, none⟩ = some (.int .i64 me) := cc 13 _ rfl
  have cc_14 : w3.cell? ⟨w.heap.size, 14, none⟩ = some (.int .i64 other) := cc 14 _ rfl
  have cc_15 : w3.cell? ⟨w.heap.size, 15, none⟩ = some (.bool true) := cc 15 _ rfl
  have cc_16 : w3.cell? ⟨w.heap.size, 16, none⟩ = some (.int .i64 m.s) := cc 16 _ rfl
  have cc_17 : w3.cell? ⟨w.heap.size, 17, none⟩ = some (.int .i64 m.k) := cc 17 _ rfl
  have cc_18 : w3.cell? ⟨w.heap.size, 18, none⟩ = some (.int .i64 m.a) := cc 18 _ rfl
  have cc_19 : w3.cell? ⟨w.heap.size, 19, none⟩ = some (.func (.func 30) #[] #[]) := cc 19 _ rfl
  have cc13 : CellsAt w3 (w.heap.size) [.int .i64 L.c.t, .int .i64 L.c.l, .int .i64 L.c.k, .int .i64 L.c.s, .int .i64 L.c.m, .int .i64 L.clock, .int .i64 L.stamps, .int .i64 L.log, .int .i64 L.fin, .int .i64 L.thread, .int .i64 L.lock, .int .i64 L.loc, .int .i64 L.size] := cellsAt_take 13 cc
  go_wp2_with (first | ((with_reducible refine wp_ld_lay ?hw13_203 ?x13_203 ?ho13_203 (w.heap.size) 0 ?hx13_203 [.int .i64 L.c.t, .int .i64 L.c.l, .int .i64 L.c.k, .int .i64 L.c.s, .int .i64 L.c.m, .int .i64 L.clock, .int .i64 L.stamps, .int .i64 L.log, .int .i64 L.fin, .int .i64 L.thread, .int .i64 L.lock, .int .i64 L.loc, .int .i64 L.size] rfl (rangeAt_of cc13) ?hh13_203); (case ho13_203 => exact rfl); (case hx13_203 => exact rfl); (case hw13_203 => exact rfl)) | ((with_reducible refine wp_ld_case ?hw20_204 ?x20_204 ?ho20_204 (w.heap.size) 0 ?hx20_204 [.int .i64 L.c.t, .int .i64 L.c.l, .int .i64 L.c.k, .int .i64 L.c.s, .int .i64 L.c.m, .int .i64 L.clock, .int .i64 L.stamps, .int .i64 L.log, .int .i64 L.fin, .int .i64 L.thread, .int .i64 L.lock, .int .i64 L.loc, .int .i64 L.size, .int .i64 me, .int .i64 other, .bool true, .int .i64 m.s, .int .i64 m.k, .int .i64 m.a, .func (.func 30) #[] #[]] rfl (rangeAt_of cc) ?hh20_204); (case ho20_204 => exact rfl); (case hx20_204 => exact rfl); (case hw20_204 => exact rfl)))
  ((with_reducible refine (kind_any _ _).mono ?_); rintro e w' ⟨rfl, rfl⟩)
  clear cc13
  have cc13 : CellsAt w3 (w.heap.size) [.int .i64 L.c.t, .int .i64 L.c.l, .int .i64 L.c.k, .int .i64 L.c.s, .int .i64 L.c.m, .int .i64 L.clock, .int .i64 L.stamps, .int .i64 L.log, .int .i64 L.fin, .int .i64 L.thread, .int .i64 L.lock, .int .i64 L.loc, .int .i64 L.size] := cellsAt_take 13 cc
  go_wp2_with (first | ((with_reducible refine wp_ld_lay ?hw13_205 ?x13_205 ?ho13_205 (w.heap.size) 0 ?hx13_205 [.int .i64 L.c.t, .int .i64 L.c.l, .int .i64 L.c.k, .int .i64 L.c.s, .int .i64 L.c.m, .int .i64 L.clock, .int .i64 L.stamps, .int .i64 L.log, .int .i64 L.fin, .int .i64 L.thread, .int .i64 L.lock, .int .i64 L.loc, .int .i64 L.size] rfl (rangeAt_of cc13) ?hh13_205); (case ho13_205 => exact rfl); (case hx13_205 => exact rfl); (case hw13_205 => exact rfl)) | ((with_reducible refine wp_ld_case ?hw20_206 ?x20_206 ?ho20_206 (w.heap.size) 0 ?hx20_206 [.int .i64 L.c.t, .int .i64 L.c.l, .int .i64 L.c.k, .int .i64 L.c.s, .int .i64 L.c.m, .int .i64 L.clock, .int .i64 L.stamps, .int .i64 L.log, .int .i64 L.fin, .int .i64 L.thread, .int .i64 L.lock, .int .i64 L.loc, .int .i64 L.size, .int .i64 me, .int .i64 other, .bool true, .int .i64 m.s, .int .i64 m.k, .int .i64 m.a, .func (.func 30) #[] #[]] rfl (rangeAt_of cc) ?hh20_206); (case ho20_206 => exact rfl); (case hx20_206 => exact rfl); (case hw20_206 => exact rfl)))
  ((with_reducible refine (HS.out _).mono ?_); rintro e w4 ⟨rfl, hb⟩)
  clear cc_4 cc_13 cc_14 cc_15 cc_16 cc_17 cc_18 cc_19
  clear cc13
  have hsz := hb.size
  (try simp at hsz)
  replace cc := cellsAt_keep cc hb
  replace oz := OutZ.below oz hb
  replace ccz : w.heap.size < w4.heap.size := by omega
  replace ozz : w.heap.size + 1 < w4.heap.size := by omega
  have h4 := runAt_keep h3 hb
  replace G := gb_trans G (gb_of_below (some g) hb)
  clear hb hsz
  replace hS0 := G.size
  have cc_4 : w4.cell? ⟨w.heap.size, 4, none⟩ = some (.int .i64 L.c.m) := cc 4 _ rfl
  have cc_13 : w4.cell? ⟨w.heap.size, 13, none⟩ = some (.int .i64 me) := cc 13 _ rfl
  have cc_14 : w4.cell? ⟨w.heap.size, 14, none⟩ = some (.int .i64 other) := cc 14 _ rfl
  have cc_15 : w4.cell? ⟨w.heap.size, 15, none⟩ = some (.bool true) := cc 15 _ rfl
  have cc_16 : w4.cell? ⟨w.heap.size, 16, none⟩ = some (.int .i64 m.s) := cc 16 _ rfl
  have cc_17 : w4.cell? ⟨w.heap.size, 17, none⟩ = some (.int .i64 m.k) := cc 17 _ rfl
  have cc_18 : w4.cell? ⟨w.heap.size, 18, none⟩ = some (.int .i64 m.a) := cc 18 _ rfl
  have cc_19 : w4.cell? ⟨w.heap.size, 19, none⟩ = some (.func (.func 30) #[] #[]) := cc 19 _ rfl
  have cc13 : CellsAt w4 (w.heap.size) [.int .i64 L.c.t, .int .i64 L.c.l, .int .i64 L.c.k, .int .i64 L.c.s, .int .i64 L.c.m, .int .i64 L.clock, .int .i64 L.stamps, .int .i64 L.log, .int .i64 L.fin, .int .i64 L.thread, .int .i64 L.lock, .int .i64 L.loc, .int .i64 L.size] := cellsAt_take 13 cc
  go_wp2_with (first | ((with_reducible refine wp_ld_lay ?hw13_207 ?x13_207 ?ho13_207 (w.heap.size) 0 ?hx13_207 [.int .i64 L.c.t, .int .i64 L.c.l, .int .i64 L.c.k, .int .i64 L.c.s, .int .i64 L.c.m, .int .i64 L.clock, .int .i64 L.stamps, .int .i64 L.log, .int .i64 L.fin, .int .i64 L.thread, .int .i64 L.lock, .int .i64 L.loc, .int .i64 L.size] rfl (rangeAt_of cc13) ?hh13_207); (case ho13_207 => exact rfl); (case hx13_207 => exact rfl); (case hw13_207 => exact rfl)) | ((with_reducible refine wp_ld_case ?hw20_208 ?x20_208 ?ho20_208 (w.heap.size) 0 ?hx20_208 [.int .i64 L.c.t, .int .i64 L.c.l, .int .i64 L.c.k, .int .i64 L.c.s, .int .i64 L.c.m, .int .i64 L.clock, .int .i64 L.stamps, .int .i64 L.log, .int .i64 L.fin, .int .i64 L.thread, .int .i64 L.lock, .int .i64 L.loc, .int .i64 L.size, .int .i64 me, .int .i64 other, .bool true, .int .i64 m.s, .int .i64 m.k, .int .i64 m.a, .func (.func 30) #[] #[]] rfl (rangeAt_of cc) ?hh20_208); (case ho20_208 => exact rfl); (case hx20_208 => exact rfl); (case hw20_208 => exact rfl)))
  ((with_reducible refine (load_some _ g _ _ _ h4).mono ?_); rintro e w5 ⟨rfl, h5, hb⟩)
  clear cc_4 cc_13 cc_14 cc_15 cc_16 cc_17 cc_18 cc_19
  clear cc13
  have hsz := hb.size
  (try simp at hsz)
  replace cc := cellsAt_gb cc hb (by omega)
  replace oz := OutZ.gb oz hb (by omega)
  replace ccz : w.heap.size < w5.heap.size := by omega
  replace ozz : w.heap.size + 1 < w5.heap.size := by omega
  replace G := gb_trans G hb
  clear hb hsz
  replace hS0 := G.size
  have cc_4 : w5.cell? ⟨w.heap.size, 4, none⟩ = some (.int .i64 L.c.m) := cc 4 _ rfl
  have cc_13 : w5.cell? ⟨w.heap.size, 13, none⟩ = some (.int .i64 me) := cc 13 _ rfl
  have cc_14 : w5.cell? ⟨w.heap.size, 14, none⟩ = some (.int .i64 other) := cc 14 _ rfl
  have cc_15 : w5.cell? ⟨w.heap.size, 15, none⟩ = some (.bool true) := cc 15 _ rfl
  have cc_16 : w5.cell? ⟨w.heap.size, 16, none⟩ = some (.int .i64 m.s) := cc 16 _ rfl
  have cc_17 : w5.cell? ⟨w.heap.size, 17, none⟩ = some (.int .i64 m.k) := cc 17 _ rfl
  have cc_18 : w5.cell? ⟨w.heap.size, 18, none⟩ = some (.int .i64 m.a) := cc 18 _ rfl
  have cc_19 : w5.cell? ⟨w.heap.size, 19, none⟩ = some (.func (.func 30) #[] #[]) := cc 19 _ rfl
  have cc13 : CellsAt w5 (w.heap.size) [.int .i64 L.c.t, .int .i64 L.c.l, .int .i64 L.c.k, .int .i64 L.c.s, .int .i64 L.c.m, .int .i64 L.clock, .int .i64 L.stamps, .int .i64 L.log, .int .i64 L.fin, .int .i64 L.thread, .int .i64 L.lock, .int .i64 L.loc, .int .i64 L.size] := cellsAt_take 13 cc
  go_wp2_with (first | ((with_reducible refine wp_ld_lay ?hw13_209 ?x13_209 ?ho13_209 (w.heap.size) 0 ?hx13_209 [.int .i64 L.c.t, .int .i64 L.c.l, .int .i64 L.c.k, .int .i64 L.c.s, .int .i64 L.c.m, .int .i64 L.clock, .int .i64 L.stamps, .int .i64 L.log, .int .i64 L.fin, .int .i64 L.thread, .int .i64 L.lock, .int .i64 L.loc, .int .i64 L.size] rfl (rangeAt_of cc13) ?hh13_209); (case ho13_209 => exact rfl); (case hx13_209 => exact rfl); (case hw13_209 => exact rfl)) | ((with_reducible refine wp_ld_case ?hw20_210 ?x20_210 ?ho20_210 (w.heap.size) 0 ?hx20_210 [.int .i64 L.c.t, .int .i64 L.c.l, .int .i64 L.c.k, .int .i64 L.c.s, .int .i64 L.c.m, .int .i64 L.clock, .int .i64 L.stamps, .int .i64 L.log, .int .i64 L.fin, .int .i64 L.thread, .int .i64 L.lock, .int .i64 L.loc, .int .i64 L.size, .int .i64 me, .int .i64 other, .bool true, .int .i64 m.s, .int .i64 m.k, .int .i64 m.a, .func (.func 30) #[] #[]] rfl (rangeAt_of cc) ?hh20_210); (case ho20_210 => exact rfl); (case hx20_210 => exact rfl); (case hw20_210 => exact rfl)))
  ((with_reducible refine (kind_any _ _).mono ?_); rintro e w' ⟨rfl, rfl⟩)
  clear cc13
  have cc13 : CellsAt w5 (w.heap.size) [.int .i64 L.c.t, .int .i64 L.c.l, .int .i64 L.c.k, .int .i64 L.c.s, .int .i64 L.c.m, .int .i64 L.clock, .int .i64 L.stamps, .int .i64 L.log, .int .i64 L.fin, .int .i64 L.thread, .int .i64 L.lock, .int .i64 L.loc, .int .i64 L.size] := cellsAt_take 13 cc
  go_wp2_with (first | ((with_reducible refine wp_ld_lay ?hw13_211 ?x13_211 ?ho13_211 (w.heap.size) 0 ?hx13_211 [.int .i64 L.c.t, .int .i64 L.c.l, .int .i64 L.c.k, .int .i64 L.c.s, .int .i64 L.c.m, .int .i64 L.clock, .int .i64 L.stamps, .int .i64 L.log, .int .i64 L.fin, .int .i64 L.thread, .int .i64 L.lock, .int .i64 L.loc, .int .i64 L.size] rfl (rangeAt_of cc13) ?hh13_211); (case ho13_211 => exact rfl); (case hx13_211 => exact rfl); (case hw13_211 => exact rfl)) | ((with_reducible refine wp_ld_case ?hw20_212 ?x20_212 ?ho20_212 (w.heap.size) 0 ?hx20_212 [.int .i64 L.c.t, .int .i64 L.c.l, .int .i64 L.c.k, .int .i64 L.c.s, .int .i64 L.c.m, .int .i64 L.clock, .int .i64 L.stamps, .int .i64 L.log, .int .i64 L.fin, .int .i64 L.thread, .int .i64 L.lock, .int .i64 L.loc, .int .i64 L.size, .int .i64 me, .int .i64 other, .bool true, .int .i64 m.s, .int .i64 m.k, .int .i64 m.a, .func (.func 30) #[] #[]] rfl (rangeAt_of cc) ?hh20_212); (case ho20_212 => exact rfl); (case hx20_212 => exact rfl); (case hw20_212 => exact rfl)))
  ((with_reducible refine (try_any _ hi _).mono ?_); rintro e w' ⟨rfl, rfl⟩)
  clear cc13
  have cc13 : CellsAt w5 (w.heap.size) [.int .i64 L.c.t, .int .i64 L.c.l, .int .i64 L.c.k, .int .i64 L.c.s, .int .i64 L.c.m, .int .i64 L.clock, .int .i64 L.stamps, .int .i64 L.log, .int .i64 L.fin, .int .i64 L.thread, .int .i64 L.lock, .int .i64 L.loc, .int .i64 L.size] := cellsAt_take 13 cc
  go_wp2_with (first | ((with_reducible refine wp_ld_lay ?hw13_213 ?x13_213 ?ho13_213 (w.heap.size) 0 ?hx13_213 [.int .i64 L.c.t, .int .i64 L.c.l, .int .i64 L.c.k, .int .i64 L.c.s, .int .i64 L.c.m, .int .i64 L.clock, .int .i64 L.stamps, .int .i64 L.log, .int .i64 L.fin, .int .i64 L.thread, .int .i64 L.lock, .int .i64 L.loc, .int .i64 L.size] rfl (rangeAt_of (cellsAt_alloc cc13 _)) ?hh13_213); (case ho13_213 => exact rfl); (case hx13_213 => exact rfl); (case hw13_213 => exact rfl)) | ((with_reducible refine wp_ld_case ?hw20_214 ?x20_214 ?ho20_214 (w.heap.size) 0 ?hx20_214 [.int .i64 L.c.t, .int .i64 L.c.l, .int .i64 L.c.k, .int .i64 L.c.s, .int .i64 L.c.m, .int .i64 L.clock, .int .i64 L.stamps, .int .i64 L.log, .int .i64 L.fin, .int .i64 L.thread, .int .i64 L.lock, .int .i64 L.loc, .int .i64 L.size, .int .i64 me, .int .i64 other, .bool true, .int .i64 m.s, .int .i64 m.k, .int .i64 m.a, .func (.func 30) #[] #[]] rfl (rangeAt_of (cellsAt_alloc cc _)) ?hh20_214); (case ho20_214 => exact rfl); (case hx20_214 => exact rfl); (case hw20_214 => exact rfl)))
  ((with_reducible refine (HT.out _).mono ?_); rintro e w6 ⟨rfl, hb⟩)
  clear cc_4 cc_13 cc_14 cc_15 cc_16 cc_17 cc_18 cc_19
  clear cc13
  have hsz := hb.size
  (try simp at hsz)
  have xcczn : w.heap.size ≠ w5.heap.size := by omega
  have xozzn : w.heap.size + 1 ≠ w5.heap.size := by omega
  have xgn : w5.heap.size ≠ g := by omega
  have xlo : w.heap.size ≤ w5.heap.size := by omega
  replace cc := cellsAt_keep (cellsAt_alloc cc _) hb
  replace oz := OutZ.below (OutZ.alloc oz _) hb
  have xq0 : w6.cell? ⟨w5.heap.size, 0, none⟩ = some (.int .i64 0) := cel_below hb (by rw [World.cell?_alloc_at _ _ _ _ (by simp)]; rfl)
  have xq1 : w6.cell? ⟨w5.heap.size, 1, none⟩ = some (.int .i64 0) := cel_below hb (by rw [World.cell?_alloc_at _ _ _ _ (by simp)]; rfl)
  have xq2 : w6.cell? ⟨w5.heap.size, 2, none⟩ = some (.int .i64 (s.1 / 4)) := cel_below hb (by rw [World.cell?_alloc_at _ _ _ _ (by simp)]; rfl)
  have xf : ∀ o, w6.frozen? ⟨w5.heap.size, o, none⟩ = false := fun o => fro_below hb (by first | omega | (simp; done) | (simp; omega)) (World.frozen?_alloc_at _ _ _ _ (by simp))
  replace ccz : w.heap.size < w6.heap.size := by omega
  replace ozz : w.heap.size + 1 < w6.heap.size := by omega
  have xz : w5.heap.size < w6.heap.size := World.block_lt_of_cell? _ _ xq0
  have h6 := runAt_keep (runAt_alloc h5 _) hb
  replace G := gb_trans (gb_alloc G _) (gb_of_below (some g) hb)
  clear hb hsz
  replace hS0 := G.size
  have cc_4 : w6.cell? ⟨w.heap.size, 4, none⟩ = some (.int .i64 L.c.m) := cc 4 _ rfl
  have cc_13 : w6.cell? ⟨w.heap.size, 13, none⟩ = some (.int .i64 me) := cc 13 _ rfl
  have cc_14 : w6.cell? ⟨w.heap.size, 14, none⟩ = some (.int .i64 other) := cc 14 _ rfl
  have cc_15 : w6.cell? ⟨w.heap.size, 15, none⟩ = some (.bool true) := cc 15 _ rfl
  have cc_16 : w6.cell? ⟨w.heap.size, 16, none⟩ = some (.int .i64 m.s) := cc 16 _ rfl
  have cc_17 : w6.cell? ⟨w.heap.size, 17, none⟩ = some (.int .i64 m.k) := cc 17 _ rfl
  have cc_18 : w6.cell? ⟨w.heap.size, 18, none⟩ = some (.int .i64 m.a) := cc 18 _ rfl
  have cc_19 : w6.cell? ⟨w.heap.size, 19, none⟩ = some (.func (.func 30) #[] #[]) := cc 19 _ rfl
  have cc13 : CellsAt w6 (w.heap.size) [.int .i64 L.c.t, .int .i64 L.c.l, .int .i64 L.c.k, .int .i64 L.c.s, .int .i64 L.c.m, .int .i64 L.clock, .int .i64 L.stamps, .int .i64 L.log, .int .i64 L.fin, .int .i64 L.thread, .int .i64 L.lock, .int .i64 L.loc, .int .i64 L.size] := cellsAt_take 13 cc
  go_wp2_with (first | ((with_reducible refine wp_ld_lay ?hw13_215 ?x13_215 ?ho13_215 (w.heap.size) 0 ?hx13_215 [.int .i64 L.c.t, .int .i64 L.c.l, .int .i64 L.c.k, .int .i64 L.c.s, .int .i64 L.c.m, .int .i64 L.clock, .int .i64 L.stamps, .int .i64 L.log, .int .i64 L.fin, .int .i64 L.thread, .int .i64 L.lock, .int .i64 L.loc, .int .i64 L.size] rfl (rangeAt_of cc13) ?hh13_215); (case ho13_215 => exact rfl); (case hx13_215 => exact rfl); (case hw13_215 => exact rfl)) | ((with_reducible refine wp_ld_case ?hw20_216 ?x20_216 ?ho20_216 (w.heap.size) 0 ?hx20_216 [.int .i64 L.c.t, .int .i64 L.c.l, .int .i64 L.c.k, .int .i64 L.c.s, .int .i64 L.c.m, .int .i64 L.clock, .int .i64 L.stamps, .int .i64 L.log, .int .i64 L.fin, .int .i64 L.thread, .int .i64 L.lock, .int .i64 L.loc, .int .i64 L.size, .int .i64 me, .int .i64 other, .bool true, .int .i64 m.s, .int .i64 m.k, .int .i64 m.a, .func (.func 30) #[] #[]] rfl (rangeAt_of cc) ?hh20_216); (case ho20_216 => exact rfl); (case hx20_216 => exact rfl); (case hw20_216 => exact rfl)))
  ((with_reducible refine (load_some _ g _ _ _ h6).mono ?_); rintro e w7 ⟨rfl, h7, hb⟩)
  clear cc_4 cc_13 cc_14 cc_15 cc_16 cc_17 cc_18 cc_19
  clear cc13
  have hsz := hb.size
  (try simp at hsz)
  replace cc := cellsAt_gb cc hb (by omega)
  replace oz := OutZ.gb oz hb (by omega)
  replace xq0 : w7.cell? ⟨w5.heap.size, 0, none⟩ = some (.int .i64 0) := gbc hb xq0 (by omega)
  replace xq1 : w7.cell? ⟨w5.heap.size, 1, none⟩ = some (.int .i64 0) := gbc hb xq1 (by omega)
  replace xq2 : w7.cell? ⟨w5.heap.size, 2, none⟩ = some (.int .i64 (s.1 / 4)) := gbc hb xq2 (by omega)
  replace xf : ∀ o, w7.frozen? ⟨w5.heap.size, o, none⟩ = false := fun o => gbf hb (by first | omega | (simp; done) | (simp; omega)) (by omega) (xf o)
  replace ccz : w.heap.size < w7.heap.size := by omega
  replace ozz : w.heap.size + 1 < w7.heap.size := by omega
  replace xz : w5.heap.size < w7.heap.size := by omega
  replace G := gb_trans G hb
  clear hb hsz
  replace hS0 := G.size
  have cc_4 : w7.cell? ⟨w.heap.size, 4, none⟩ = some (.int .i64 L.c.m) := cc 4 _ rfl
  have cc_13 : w7.cell? ⟨w.heap.size, 13, none⟩ = some (.int .i64 me) := cc 13 _ rfl
  have cc_14 : w7.cell? ⟨w.heap.size, 14, none⟩ = some (.int .i64 other) := cc 14 _ rfl
  have cc_15 : w7.cell? ⟨w.heap.size, 15, none⟩ = some (.bool true) := cc 15 _ rfl
  have cc_16 : w7.cell? ⟨w.heap.size, 16, none⟩ = some (.int .i64 m.s) := cc 16 _ rfl
  have cc_17 : w7.cell? ⟨w.heap.size, 17, none⟩ = some (.int .i64 m.k) := cc 17 _ rfl
  have cc_18 : w7.cell? ⟨w.heap.size, 18, none⟩ = some (.int .i64 m.a) := cc 18 _ rfl
  have cc_19 : w7.cell? ⟨w.heap.size, 19, none⟩ = some (.func (.func 30) #[] #[]) := cc 19 _ rfl
  have cc13 : CellsAt w7 (w.heap.size) [.int .i64 L.c.t, .int .i64 L.c.l, .int .i64 L.c.k, .int .i64 L.c.s, .int .i64 L.c.m, .int .i64 L.clock, .int .i64 L.stamps, .int .i64 L.log, .int .i64 L.fin, .int .i64 L.thread, .int .i64 L.lock, .int .i64 L.loc, .int .i64 L.size] := cellsAt_take 13 cc
  go_wp2_with (first | ((with_reducible refine wp_ld_lay ?hw13_217 ?x13_217 ?ho13_217 (w.heap.size) 0 ?hx13_217 [.int .i64 L.c.t, .int .i64 L.c.l, .int .i64 L.c.k, .int .i64 L.c.s, .int .i64 L.c.m, .int .i64 L.clock, .int .i64 L.stamps, .int .i64 L.log, .int .i64 L.fin, .int .i64 L.thread, .int .i64 L.lock, .int .i64 L.loc, .int .i64 L.size] rfl (rangeAt_of (cellsAt_set cc13 (by omega) _)) ?hh13_217); (case ho13_217 => exact rfl); (case hx13_217 => exact rfl); (case hw13_217 => exact rfl)) | ((with_reducible refine wp_ld_case ?hw20_218 ?x20_218 ?ho20_218 (w.heap.size) 0 ?hx20_218 [.int .i64 L.c.t, .int .i64 L.c.l, .int .i64 L.c.k, .int .i64 L.c.s, .int .i64 L.c.m, .int .i64 L.clock, .int .i64 L.stamps, .int .i64 L.log, .int .i64 L.fin, .int .i64 L.thread, .int .i64 L.lock, .int .i64 L.loc, .int .i64 L.size, .int .i64 me, .int .i64 other, .bool true, .int .i64 m.s, .int .i64 m.k, .int .i64 m.a, .func (.func 30) #[] #[]] rfl (rangeAt_of (cellsAt_set cc (by omega) _)) ?hh20_218); (case ho20_218 => exact rfl); (case hx20_218 => exact rfl); (case hw20_218 => exact rfl)))
  ((with_reducible refine (HK.out _).mono ?_); rintro e w8 ⟨rfl, hb⟩)
  clear cc_4 cc_13 cc_14 cc_15 cc_16 cc_17 cc_18 cc_19
  clear cc13
  have hsz := hb.size
  (try simp at hsz)
  replace cc := cellsAt_keep (cellsAt_set cc (by omega) _) hb
  replace oz := OutZ.below (OutZ.set oz (by omega) _) hb
  replace xq0 : w8.cell? ⟨w5.heap.size, 0, none⟩ = some (.int .i64 t.1) := cel_below hb (World.cell?_setCell_same _ _ _ xq0)
  replace xq1 : w8.cell? ⟨w5.heap.size, 1, none⟩ = some (.int .i64 0) := cel_below hb (keepA_ xq1 (by omega))
  replace xq2 : w8.cell? ⟨w5.heap.size, 2, none⟩ = some (.int .i64 (s.1 / 4)) := cel_below hb (keepA_ xq2 (by omega))
  replace xf : ∀ o, w8.frozen? ⟨w5.heap.size, o, none⟩ = false := fun o => fro_below hb (by first | omega | (simp; done) | (simp; omega)) ((World.frozen?_setCell _ _ _ _).trans (xf o))
  replace ccz : w.heap.size < w8.heap.size := by omega
  replace ozz : w.heap.size + 1 < w8.heap.size := by omega
  replace xz : w5.heap.size < w8.heap.size := by omega
  have h8 := runAt_keep (runAt_set h7 (by omega) _) hb
  replace G := gb_trans (gb_set G (Or.inr (by first | exact Nat.le_refl _ | (dsimp only; omega))) _) (gb_of_below (some g) hb)
  clear hb hsz
  replace hS0 := G.size
  have cc_4 : w8.cell? ⟨w.heap.size, 4, none⟩ = some (.int .i64 L.c.m) := cc 4 _ rfl
  have cc_13 : w8.cell? ⟨w.heap.size, 13, none⟩ = some (.int .i64 me) := cc 13 _ rfl
  have cc_14 : w8.cell? ⟨w.heap.size, 14, none⟩ = some (.int .i64 other) := cc 14 _ rfl
  have cc_15 : w8.cell? ⟨w.heap.size, 15, none⟩ = some (.bool true) := cc 15 _ rfl
  have cc_16 : w8.cell? ⟨w.heap.size, 16, none⟩ = some (.int .i64 m.s) := cc 16 _ rfl
  have cc_17 : w8.cell? ⟨w.heap.size, 17, none⟩ = some (.int .i64 m.k) := cc 17 _ rfl
  have cc_18 : w8.cell? ⟨w.heap.size, 18, none⟩ = some (.int .i64 m.a) := cc 18 _ rfl
  have cc_19 : w8.cell? ⟨w.heap.size, 19, none⟩ = some (.func (.func 30) #[] #[]) := cc 19 _ rfl
  have cc13 : CellsAt w8 (w.heap.size) [.int .i64 L.c.t, .int .i64 L.c.l, .int .i64 L.c.k, .int .i64 L.c.s, .int .i64 L.c.m, .int .i64 L.clock, .int .i64 L.stamps, .int .i64 L.log, .int .i64 L.fin, .int .i64 L.thread, .int .i64 L.lock, .int .i64 L.loc, .int .i64 L.size] := cellsAt_take 13 cc
  go_wp2_with (first | ((with_reducible refine wp_ld_lay ?hw13_219 ?x13_219 ?ho13_219 (w.heap.size) 0 ?hx13_219 [.int .i64 L.c.t, .int .i64 L.c.l, .int .i64 L.c.k, .int .i64 L.c.s, .int .i64 L.c.m, .int .i64 L.clock, .int .i64 L.stamps, .int .i64 L.log, .int .i64 L.fin, .int .i64 L.thread, .int .i64 L.lock, .int .i64 L.loc, .int .i64 L.size] rfl (rangeAt_of cc13) ?hh13_219); (case ho13_219 => exact rfl); (case hx13_219 => exact rfl); (case hw13_219 => exact rfl)) | ((with_reducible refine wp_ld_case ?hw20_220 ?x20_220 ?ho20_220 (w.heap.size) 0 ?hx20_220 [.int .i64 L.c.t, .int .i64 L.c.l, .int .i64 L.c.k, .int .i64 L.c.s, .int .i64 L.c.m, .int .i64 L.clock, .int .i64 L.stamps, .int .i64 L.log, .int .i64 L.fin, .int .i64 L.thread, .int .i64 L.lock, .int .i64 L.loc, .int .i64 L.size, .int .i64 me, .int .i64 other, .bool true, .int .i64 m.s, .int .i64 m.k, .int .i64 m.a, .func (.func 30) #[] #[]] rfl (rangeAt_of cc) ?hh20_220); (case ho20_220 => exact rfl); (case hx20_220 => exact rfl); (case hw20_220 => exact rfl)))
  ((with_reducible refine (load_none _ g _ h8).mono ?_); rintro e w9 ⟨rfl, hb⟩)
  exact ⟨rfl, rfl, gb_trans G (gb_of_below (some g) hb)⟩

theorem res_tabort (w : World) (g : Nat) (L : Ly) (hok : L.ok) (me other : Int) (m : Ct) (r : Int × Bool) (s t k : Int × Bool) (l : List (Int × Bool)) (h0 : RunAt w g (r :: s :: t :: k :: l)) (hr : ¬r.1 % 4 = 3) (hi : I64 s.1) (hs : ¬s.1 % 4 = 0) (hc : chooseD L.c.m m ⟨t.1, k.1, s.1 / 4⟩ = 1) :
    Calls Try.prog 61 #[caseV L me other true m, .pointer (some ⟨g, 0, none⟩)] w fun e w' => e = .returned (OutD.v { val := 1 }) ∧ w.grownBy w' (some g) := by
  unfold caseV
  have HM : Hid (∀ w, Calls Try.prog 38 #[L.v, .int .i64 me] w fun e w' => e = .returned (.int .i64 (atStatus L me)) ∧ Below w.heap.size w w') := Lib.hid (fun w => status_any L me w hok)
  have HS : Hid (∀ w, Calls Try.prog 38 #[L.v, .int .i64 other] w fun e w' => e = .returned (.int .i64 (atStatus L other)) ∧ Below w.heap.size w w') := Lib.hid (fun w => status_any L other w hok)
  have HT : Hid (∀ w, Calls Try.prog 64 #[L.v, .int .i64 other] w fun e w' => e = .returned (.int .i64 (atStamp L other)) ∧ Below w.heap.size w w') := Lib.hid (fun w => stamp_any L other w hok)
  have HK : Hid (∀ w, Calls Try.prog 65 #[L.v, .int .i64 other] w fun e w' => e = .returned (.int .i64 (atKarma L other)) ∧ Below w.heap.size w w') := Lib.hid (fun w => karma_any L other w hok)
  unfold Ly.v at HM HS HT HK
  have hq : (r.1 % 4 == 3) = false := by simp [hr]
  have hs0 : (s.1 % 4 == 0) = false := by simp [hs]
  have HC : Hid (∀ w, Calls Try.prog 30 #[.int .i64 L.c.m, m.v, Ct.v ⟨t.1, k.1, s.1 / 4⟩] w fun e w' => e = .returned (.int .i64 1) ∧ Below w.heap.size w w') := Lib.hid (fun w => by rw [← hc]; exact choose_any _ _ _ w)
  unfold Ct.v at HC
  have hg0 := runAt_lt h0
  have G : w.grownBy w (some g) := gb_refl _ _
  have hS0 : w.heap.size + 0 ≤ w.heap.size := Nat.le_refl _
  go_enter Try.func61, Try.ntmps61
  go_wp2_with fail
  obtain ⟨w1, hwr⟩ : ∃ W, W = ((w.alloc (.cells #[.int .i64 L.c.t, .int .i64 L.c.l, .int .i64 L.c.k, .int .i64 L.c.s, .int .i64 L.c.m, .int .i64 L.clock, .int .i64 L.stamps, .int .i64 L.log, .int .i64 L.fin, .int .i64 L.thread, .int .i64 L.lock, .int .i64 L.loc, .int .i64 L.size, .int .i64 me, .int .i64 other, .bool true, .int .i64 m.s, .int .i64 m.k, .int .i64 m.a, .func (.func 30) #[] #[]] 119)).alloc (.cells #[.int .i64 0, .int .i64 0, .int .i64 0, .int .i64 0, .bool false, .bool false, .int .i64 0] 35)) := ⟨_, rfl⟩
  rw [← hwr]
  have hb : Below w.heap.size w w1 := by rw [hwr]; exact (Below.alloc (Below.alloc (Below.refl _ _) (by first | exact Nat.le_refl _ | (simp; omega) | simp) _) (by first | exact Nat.le_refl _ | (simp; omega) | simp) _)
  have cc : CellsAt w1 (w.heap.size) [.int .i64 L.c.t, .int .i64 L.c.l, .int .i64 L.c.k, .int .i64 L.c.s, .int .i64 L.c.m, .int .i64 L.clock, .int .i64 L.stamps, .int .i64 L.log, .int .i64 L.fin, .int .i64 L.thread, .int .i64 L.lock, .int .i64 L.loc, .int .i64 L.size, .int .i64 me, .int .i64 other, .bool true, .int .i64 m.s, .int .i64 m.k, .int .i64 m.a, .func (.func 30) #[] #[]] := by rw [hwr]; exact (cellsAt_alloc (cellsAt_new' w _ _ (w.heap.size) (by simp)) _)
  have ccz : w.heap.size < w1.heap.size := World.block_lt_of_cell? _ _ (cc 0 _ rfl)
  have oz : OutZ w1 (w.heap.size + 1) := by rw [hwr]; exact (OutZ.new' (w.alloc (.cells #[.int .i64 L.c.t, .int .i64 L.c.l, .int .i64 L.c.k, .int .i64 L.c.s, .int .i64 L.c.m, .int .i64 L.clock, .int .i64 L.stamps, .int .i64 L.log, .int .i64 L.fin, .int .i64 L.thread, .int .i64 L.lock, .int .i64 L.loc, .int .i64 L.size, .int .i64 me, .int .i64 other, .bool true, .int .i64 m.s, .int .i64 m.k, .int .i64 m.a, .func (.func 30) #[] #[]] 119)) _ (w.heap.size + 1) (by simp))
  have ozz : w.heap.size + 1 < w1.heap.size := OutZ.lt oz
  have h1 := runAt_keep h0 hb
  replace G := gb_trans G (gb_of_below (some g) hb)
  clear hb hwr
  replace hS0 := G.size
  have cc_4 : w1.cell? ⟨w.heap.size, 4, none⟩ = some (.int .i64 L.c.m) := cc 4 _ rfl
  have cc_13 : w1.cell? ⟨w.heap.size, 13, none⟩ = some (.int .i64 me) := cc 13 _ rfl
  have cc_14 : w1.cell? ⟨w.heap.size, 14, none⟩ = some (.int .i64 other) := cc 14 _ rfl
  have cc_15 : w1.cell? ⟨w.heap.size, 15, none⟩ = some (.bool true) := cc 15 _ rfl
  have cc_16 : w1.cell? ⟨w.heap.size, 16, none⟩ = some (.int .i64 m.s) := cc 16 _ rfl
  have cc_17 : w1.cell? ⟨w.heap.size, 17, none⟩ = some (.int .i64 m.k) := cc 17 _ rfl
  have cc_18 : w1.cell? ⟨w.heap.size, 18, none⟩ = some (.int .i64 m.a) := cc 18 _ rfl
  have cc_19 : w1.cell? ⟨w.heap.size, 19, none⟩ = some (.func (.func 30) #[] #[]) := cc 19 _ rfl
  have cc13 : CellsAt w1 (w.heap.size) [.int .i64 L.c.t, .int .i64 L.c.l, .int .i64 L.c.k, .int .i64 L.c.s, .int .i64 L.c.m, .int .i64 L.clock, .int .i64 L.stamps, .int .i64 L.log, .int .i64 L.fin, .int .i64 L.thread, .int .i64 L.lock, .int .i64 L.loc, .int .i64 L.size] := cellsAt_take 13 cc
  go_wp2_with (first | ((with_reducible refine wp_ld_lay ?hw13_221 ?x13_221 ?ho13_221 (w.heap.size) 0 ?hx13_221 [.int .i64 L.c.t, .int .i64 L.c.l, .int .i64 L.c.k, .int .i64 L.c.s, .int .i64 L.c.m, .int .i64 L.clock, .int .i64 L.stamps, .int .i64 L.log, .int .i64 L.fin, .int .i64 L.thread, .int .i64 L.lock, .int .i64 L.loc, .int .i64 L.size] rfl (rangeAt_of cc13) ?hh13_221); (case ho13_221 => exact rfl); (case hx13_221 => exact rfl); (case hw13_221 => exact rfl)) | ((with_reducible refine wp_ld_case ?hw20_222 ?x20_222 ?ho20_222 (w.heap.size) 0 ?hx20_222 [.int .i64 L.c.t, .int .i64 L.c.l, .int .i64 L.c.k, .int .i64 L.c.s, .int .i64 L.c.m, .int .i64 L.clock, .int .i64 L.stamps, .int .i64 L.log, .int .i64 L.fin, .int .i64 L.thread, .int .i64 L.lock, .int .i64 L.loc, .int .i64 L.size, .int .i64 me, .int .i64 other, .bool true, .int .i64 m.s, .int .i64 m.k, .int .i64 m.a, .func (.func 30) #[] #[]] rfl (rangeAt_of cc) ?hh20_222); (case ho20_222 => exact rfl); (case hx20_222 => exact rfl); (case hw20_222 => exact rfl)))
  ((with_reducible refine (HM.out _).mono ?_); rintro e w2 ⟨rfl, hb⟩)
  clear cc_4 cc_13 cc_14 cc_15 cc_16 cc_17 cc_18 cc_19
  clear cc13
  have hsz := hb.size
  (try simp at hsz)
  replace cc := cellsAt_keep cc hb
  replace oz := OutZ.below oz hb
  replace ccz : w.heap.size < w2.heap.size := by omega
  replace ozz : w.heap.size + 1 < w2.heap.size := by omega
  have h2 := runAt_keep h1 hb
  replace G := gb_trans G (gb_of_below (some g) hb)
  clear hb hsz
  replace hS0 := G.size
  have cc_4 : w2.cell? ⟨w.heap.size, 4, none⟩ = some (.int .i64 L.c.m) := cc 4 _ rfl
  have cc_13 : w2.cell? ⟨w.heap.size, 13, none⟩ = some (.int .i64 me) := cc 13 _ rfl
  have cc_14 : w2.cell? ⟨w.heap.size, 14, none⟩ = some (.int .i64 other) := cc 14 _ rfl
  have cc_15 : w2.cell? ⟨w.heap.size, 15, none⟩ = some (.bool true) := cc 15 _ rfl
  have cc_16 : w2.cell? ⟨w.heap.size, 16, none⟩ = some (.int .i64 m.s) := cc 16 _ rfl
  have cc_17 : w2.cell? ⟨w.heap.size, 17, none⟩ = some (.int .i64 m.k) := cc 17 _ rfl
  have cc_18 : w2.cell? ⟨w.heap.size, 18, none⟩ = some (.int .i64 m.a) := cc 18 _ rfl
  have cc_19 : w2.cell? ⟨w.heap.size, 19, none⟩ = some (.func (.func 30) #[] #[]) := cc 19 _ rfl
  have cc13 : CellsAt w2 (w.heap.size) [.int .i64 L.c.t, .int .i64 L.c.l, .int .i64 L.c.k, .int .i64 L.c.s, .int .i64 L.c.m, .int .i64 L.clock, .int .i64 L.stamps, .int .i64 L.log, .int .i64 L.fin, .int .i64 L.thread, .int .i64 L.lock, .int .i64 L.loc, .int .i64 L.size] := cellsAt_take 13 cc
  go_wp2_with (first | ((with_reducible refine wp_ld_lay ?hw13_223 ?x13_223 ?ho13_223 (w.heap.size) 0 ?hx13_223 [.int .i64 L.c.t, .int .i64 L.c.l, .int .i64 L.c.k, .int .i64 L.c.s, .int .i64 L.c.m, .int .i64 L.clock, .int .i64 L.stamps, .int .i64 L.log, .int .i64 L.fin, .int .i64 L.thread, .int .i64 L.lock, .int .i64 L.loc, .int .i64 L.size] rfl (rangeAt_of cc13) ?hh13_223); (case ho13_223 => exact rfl); (case hx13_223 => exact rfl); (case hw13_223 => exact rfl)) | ((with_reducible refine wp_ld_case ?hw20_224 ?x20_224 ?ho20_224 (w.heap.size) 0 ?hx20_224 [.int .i64 L.c.t, .int .i64 L.c.l, .int .i64 L.c.k, .int .i64 L.c.s, .int .i64 L.c.m, .int .i64 L.clock, .int .i64 L.stamps, .int .i64 L.log, .int .i64 L.fin, .int .i64 L.thread, .int .i64 L.lock, .int .i64 L.loc, .int .i64 L.size, .int .i64 me, .int .i64 other, .bool true, .int .i64 m.s, .int .i64 m.k, .int .i64 m.a, .func (.func 30) #[] #[]] rfl (rangeAt_of cc) ?hh20_224); (case ho20_224 => exact rfl); (case hx20_224 => exact rfl); (case hw20_224 => exact rfl)))
  ((with_reducible refine (load_some _ g _ _ _ h2).mono ?_); rintro e w3 ⟨rfl, h3, hb⟩)
  clear cc_4 cc_13 cc_14 cc_15 cc_16 cc_17 cc_18 cc_19
  clear cc13
  have hsz := hb.size
  (try simp at hsz)
  replace cc := cellsAt_gb cc hb (by omega)
  replace oz := OutZ.gb oz hb (by omega)
  replace ccz : w.heap.size < w3.heap.size := by omega
  replace ozz : w.heap.size + 1 < w3.heap.size := by omega
  replace G := gb_trans G hb
  clear hb hsz
  replace hS0 := G.size
  have cc_4 : w3.cell? ⟨w.heap.size, 4, none⟩ = some (.int .i64 L.c.m) := cc 4 _ rfl
  have cc_13 : w3.cell? ⟨w.heap.size, 13, none⟩ = some (.int .i64 me) := cc 13 _ rfl
  have cc_14 : w3.cell? ⟨w.heap.size, 14, none⟩ = some (.int .i64 other) := cc 14 _ rfl
  have cc_15 : w3.cell? ⟨w.heap.size, 15, none⟩ = some (.bool true) := cc 15 _ rfl
  have cc_16 : w3.cell? ⟨w.heap.size, 16, none⟩ = some (.int .i64 m.s) := cc 16 _ rfl
  have cc_17 : w3.cell? ⟨w.heap.size, 17, none⟩ = some (.int .i64 m.k) := cc 17 _ rfl
  have cc_18 : w3.cell? ⟨w.heap.size, 18, none⟩ = some (.int .i64 m.a) := cc 18 _ rfl
  have cc_19 : w3.cell? ⟨w.heap.size, 19, none⟩ = some (.func (.func 30) #[] #[]) := cc 19 _ rfl
  have cc13 : CellsAt w3 (w.heap.size) [.int .i64 L.c.t, .int .i64 L.c.l, .int .i64 L.c.k, .int .i64 L.c.s, .int .i64 L.c.m, .int .i64 L.clock, .int .i64 L.stamps, .int .i64 L.log, .int .i64 L.fin, .int .i64 L.thread, .int .i64 L.lock, .int .i64 L.loc, .int .i64 L.size] := cellsAt_take 13 cc
  go_wp2_with (first | ((with_reducible refine wp_ld_lay ?hw13_225 ?x13_225 ?ho13_225 (w.heap.size) 0 ?hx13_225 [.int .i64 L.c.t, .int .i64 L.c.l, .int .i64 L.c.k, .int .i64 L.c.s, .int .i64 L.c.m, .int .i64 L.clock, .int .i64 L.stamps, .int .i64 L.log, .int .i64 L.fin, .int .i64 L.thread, .int .i64 L.lock, .int .i64 L.loc, .int .i64 L.size] rfl (rangeAt_of cc13) ?hh13_225); (case ho13_225 => exact rfl); (case hx13_225 => exact rfl); (case hw13_225 => exact rfl)) | ((with_reducible refine wp_ld_case ?hw20_226 ?x20_226 ?ho20_226 (w.heap.size) 0 ?hx20_226 [.int .i64 L.c.t, .int .i64 L.c.l, .int .i64 L.c.k, .int .i64 L.c.s, .int .i64 L.c.m, .int .i64 L.clock, .int .i64 L.stamps, .int .i64 L.log, .int .i64 L.fin, .int .i64 L.thread, .int .i64 L.lock, .int .i64 L.loc, .int .i64 L.size, .int .i64 me, .int .i64 other, .bool true, .int .i64 m.s, .int .i64 m.k, .int .i64 m.a, .func (.func 30) #[] #[]] rfl (rangeAt_of cc) ?hh20_226); (case ho20_226 => exact rfl); (case hx20_226 => exact rfl); (case hw20_226 => exact rfl)))
  ((with_reducible refine (kind_any _ _).mono ?_); rintro e w' ⟨rfl, rfl⟩)
  clear cc13
  have cc13 : CellsAt w3 (w.heap.size) [.int .i64 L.c.t, .int .i64 L.c.l, .int .i64 L.c.k, .int .i64 L.c.s, .int .i64 L.c.m, .int .i64 L.clock, .int .i64 L.stamps, .int .i64 L.log, .int .i64 L.fin, .int .i64 L.thread, .int .i64 L.lock, .int .i64 L.loc, .int .i64 L.size] := cellsAt_take 13 cc
  go_wp2_with (first | ((with_reducible refine wp_ld_lay ?hw13_227 ?x13_227 ?ho13_227 (w.heap.size) 0 ?hx13_227 [.int .i64 L.c.t, .int .i64 L.c.l, .int .i64 L.c.k, .int .i64 L.c.s, .int .i64 L.c.m, .int .i64 L.clock, .int .i64 L.stamps, .int .i64 L.log, .int .i64 L.fin, .int .i64 L.thread, .int .i64 L.lock, .int .i64 L.loc, .int .i64 L.size] rfl (rangeAt_of cc13) ?hh13_227); (case ho13_227 => exact rfl); (case hx13_227 => exact rfl); (case hw13_227 => exact rfl)) | ((with_reducible refine wp_ld_case ?hw20_228 ?x20_228 ?ho20_228 (w.heap.size) 0 ?hx20_228 [.int .i64 L.c.t, .int .i64 L.c.l, .int .i64 L.c.k, .int .i64 L.c.s, .int .i64 L.c.m, .int .i64 L.clock, .int .i64 L.stamps, .int .i64 L.log, .int .i64 L.fin, .int .i64 L.thread, .int .i64 L.lock, .int .i64 L.loc, .int .i64 L.size, .int .i64 me, .int .i64 other, .bool true, .int .i64 m.s, .int .i64 m.k, .int .i64 m.a, .func (.func 30) #[] #[]] rfl (rangeAt_of cc) ?hh20_228); (case ho20_228 => exact rfl); (case hx20_228 => exact rfl); (case hw20_228 => exact rfl)))
  ((with_reducible refine (HS.out _).mono ?_); rintro e w4 ⟨rfl, hb⟩)
  clear cc_4 cc_13 cc_14 cc_15 cc_16 cc_17 cc_18 cc_19
  clear cc13
  have hsz := hb.size
  (try simp at hsz)
  replace cc := cellsAt_keep cc hb
  replace oz := OutZ.below oz hb
  replace ccz : w.heap.size < w4.heap.size := by omega
  replace ozz : w.heap.size + 1 < w4.heap.size := by omega
  have h4 := runAt_keep h3 hb
  replace G := gb_trans G (gb_of_below (some g) hb)
  clear hb hsz
  replace hS0 := G.size
  have cc_4 : w4.cell? ⟨w.heap.size, 4, none⟩ = some (.int .i64 L.c.m) := cc 4 _ rfl
  have cc_13 : w4.cell? ⟨w.heap.size, 13, none⟩ = some (.int .i64 me) := cc 13 _ rfl
  have cc_14 : w4.cell? ⟨w.heap.size, 14, none⟩ = some (.int .i64 other) := cc 14 _ rfl
  have cc_15 : w4.cell? ⟨w.heap.size, 15, none⟩ = some (.bool true) := cc 15 _ rfl
  have cc_16 : w4.cell? ⟨w.heap.size, 16, none⟩ = some (.int .i64 m.s) := cc 16 _ rfl
  have cc_17 : w4.cell? ⟨w.heap.size, 17, none⟩ = some (.int .i64 m.k) := cc 17 _ rfl
  have cc_18 : w4.cell? ⟨w.heap.size, 18, none⟩ = some (.int .i64 m.a) := cc 18 _ rfl
  have cc_19 : w4.cell? ⟨w.heap.size, 19, none⟩ = some (.func (.func 30) #[] #[]) := cc 19 _ rfl
  have cc13 : CellsAt w4 (w.heap.size) [.int .i64 L.c.t, .int .i64 L.c.l, .int .i64 L.c.k, .int .i64 L.c.s, .int .i64 L.c.m, .int .i64 L.clock, .int .i64 L.stamps, .int .i64 L.log, .int .i64 L.fin, .int .i64 L.thread, .int .i64 L.lock, .int .i64 L.loc, .int .i64 L.size] := cellsAt_take 13 cc
  go_wp2_with (first | ((with_reducible refine wp_ld_lay ?hw13_229 ?x13_229 ?ho13_229 (w.heap.size) 0 ?hx13_229 [.int .i64 L.c.t, .int .i64 L.c.l, .int .i64 L.c.k, .int .i64 L.c.s, .int .i64 L.c.m, .int .i64 L.clock, .int .i64 L.stamps, .int .i64 L.log, .int .i64 L.fin, .int .i64 L.thread, .int .i64 L.lock, .int .i64 L.loc, .int .i64 L.size] rfl (rangeAt_of cc13) ?hh13_229); (case ho13_229 => exact rfl); (case hx13_229 => exact rfl); (case hw13_229 => exact rfl)) | ((with_reducible refine wp_ld_case ?hw20_230 ?x20_230 ?ho20_230 (w.heap.size) 0 ?hx20_230 [.int .i64 L.c.t, .int .i64 L.c.l, .int .i64 L.c.k, .int .i64 L.c.s, .int .i64 L.c.m, .int .i64 L.clock, .int .i64 L.stamps, .int .i64 L.log, .int .i64 L.fin, .int .i64 L.thread, .int .i64 L.lock, .int .i64 L.loc, .int .i64 L.size, .int .i64 me, .int .i64 other, .bool true, .int .i64 m.s, .int .i64 m.k, .int .i64 m.a, .func (.func 30) #[] #[]] rfl (rangeAt_of cc) ?hh20_230); (case ho20_230 => exact rfl); (case hx20_230 => exact rfl); (case hw20_230 => exact rfl)))
  ((with_reducible refine (load_some _ g _ _ _ h4).mono ?_); rintro e w5 ⟨rfl, h5, hb⟩)
  clear cc_4 cc_13 cc_14 cc_15 cc_16 cc_17 cc_18 cc_19
  clear cc13
  have hsz := hb.size
  (try simp at hsz)
  replace cc := cellsAt_gb cc hb (by omega)
  replace oz := OutZ.gb oz hb (by omega)
  replace ccz : w.heap.size < w5.heap.size := by omega
  replace ozz : w.heap.size + 1 < w5.heap.size := by omega
  replace G := gb_trans G hb
  clear hb hsz
  replace hS0 := G.size
  have cc_4 : w5.cell? ⟨w.heap.size, 4, none⟩ = some (.int .i64 L.c.m) := cc 4 _ rfl
  have cc_13 : w5.cell? ⟨w.heap.size, 13, none⟩ = some (.int .i64 me) := cc 13 _ rfl
  have cc_14 : w5.cell? ⟨w.heap.size, 14, none⟩ = some (.int .i64 other) := cc 14 _ rfl
  have cc_15 : w5.cell? ⟨w.heap.size, 15, none⟩ = some (.bool true) := cc 15 _ rfl
  have cc_16 : w5.cell? ⟨w.heap.size, 16, none⟩ = some (.int .i64 m.s) := cc 16 _ rfl
  have cc_17 : w5.cell? ⟨w.heap.size, 17, none⟩ = some (.int .i64 m.k) := cc 17 _ rfl
  have cc_18 : w5.cell? ⟨w.heap.size, 18, none⟩ = some (.int .i64 m.a) := cc 18 _ rfl
  have cc_19 : w5.cell? ⟨w.heap.size, 19, none⟩ = some (.func (.func 30) #[] #[]) := cc 19 _ rfl
  have cc13 : CellsAt w5 (w.heap.size) [.int .i64 L.c.t, .int .i64 L.c.l, .int .i64 L.c.k, .int .i64 L.c.s, .int .i64 L.c.m, .int .i64 L.clock, .int .i64 L.stamps, .int .i64 L.log, .int .i64 L.fin, .int .i64 L.thread, .int .i64 L.lock, .int .i64 L.loc, .int .i64 L.size] := cellsAt_take 13 cc
  go_wp2_with (first | ((with_reducible refine wp_ld_lay ?hw13_231 ?x13_231 ?ho13_231 (w.heap.size) 0 ?hx13_231 [.int .i64 L.c.t, .int .i64 L.c.l, .int .i64 L.c.k, .int .i64 L.c.s, .int .i64 L.c.m, .int .i64 L.clock, .int .i64 L.stamps, .int .i64 L.log, .int .i64 L.fin, .int .i64 L.thread, .int .i64 L.lock, .int .i64 L.loc, .int .i64 L.size] rfl (rangeAt_of cc13) ?hh13_231); (case ho13_231 => exact rfl); (case hx13_231 => exact rfl); (case hw13_231 => exact rfl)) | ((with_reducible refine wp_ld_case ?hw20_232 ?x20_232 ?ho20_232 (w.heap.size) 0 ?hx20_232 [.int .i64 L.c.t, .int .i64 L.c.l, .int .i64 L.c.k, .int .i64 L.c.s, .int .i64 L.c.m, .int .i64 L.clock, .int .i64 L.stamps, .int .i64 L.log, .int .i64 L.fin, .int .i64 L.thread, .int .i64 L.lock, .int .i64 L.loc, .int .i64 L.size, .int .i64 me, .int .i64 other, .bool true, .int .i64 m.s, .int .i64 m.k, .int .i64 m.a, .func (.func 30) #[] #[]] rfl (rangeAt_of cc) ?hh20_232); (case ho20_232 => exact rfl); (case hx20_232 => exact rfl); (case hw20_232 => exact rfl)))
  ((with_reducible refine (kind_any _ _).mono ?_); rintro e w' ⟨rfl, rfl⟩)
  clear cc13
  have cc13 : CellsAt w5 (w.heap.size) [.int .i64 L.c.t, .int .i64 L.c.l, .int .i64 L.c.k, .int .i64 L.c.s, .int .i64 L.c.m, .int .i64 L.clock, .int .i64 L.stamps, .int .i64 L.log, .int .i64 L.fin, .int .i64 L.thread, .int .i64 L.lock, .int .i64 L.loc, .int .i64 L.size] := cellsAt_take 13 cc
  go_wp2_with (first | ((with_reducible refine wp_ld_lay ?hw13_233 ?x13_233 ?ho13_233 (w.heap.size) 0 ?hx13_233 [.int .i64 L.c.t, .int .i64 L.c.l, .int .i64 L.c.k, .int .i64 L.c.s, .int .i64 L.c.m, .int .i64 L.clock, .int .i64 L.stamps, .int .i64 L.log, .int .i64 L.fin, .int .i64 L.thread, .int .i64 L.lock, .int .i64 L.loc, .int .i64 L.size] rfl (rangeAt_of cc13) ?hh13_233); (case ho13_233 => exact rfl); (case hx13_233 => exact rfl); (case hw13_233 => exact rfl)) | ((with_reducible refine wp_ld_case ?hw20_234 ?x20_234 ?ho20_234 (w.heap.size) 0 ?hx20_234 [.int .i64 L.c.t, .int .i64 L.c.l, .int .i64 L.c.k, .int .i64 L.c.s, .int .i64 L.c.m, .int .i64 L.clock, .int .i64 L.stamps, .int .i64 L.log, .int .i64 L.fin, .int .i64 L.thread, .int .i64 L.lock, .int .i64 L.loc, .int .i64 L.size, .int .i64 me, .int .i64 other, .bool true, .int .i64 m.s, .int .i64 m.k, .int .i64 m.a, .func (.func 30) #[] #[]] rfl (rangeAt_of cc) ?hh20_234); (case ho20_234 => exact rfl); (case hx20_234 => exact rfl); (case hw20_234 => exact rfl)))
  ((with_reducible refine (try_any _ hi _).mono ?_); rintro e w' ⟨rfl, rfl⟩)
  clear cc13
  have cc13 : CellsAt w5 (w.heap.size) [.int .i64 L.c.t, .int .i64 L.c.l, .int .i64 L.c.k, .int .i64 L.c.s, .int .i64 L.c.m, .int .i64 L.clock, .int .i64 L.stamps, .int .i64 L.log, .int .i64 L.fin, .int .i64 L.thread, .int .i64 L.lock, .int .i64 L.loc, .int .i64 L.size] := cellsAt_take 13 cc
  go_wp2_with (first | ((with_reducible refine wp_ld_lay ?hw13_235 ?x13_235 ?ho13_235 (w.heap.size) 0 ?hx13_235 [.int .i64 L.c.t, .int .i64 L.c.l, .int .i64 L.c.k, .int .i64 L.c.s, .int .i64 L.c.m, .int .i64 L.clock, .int .i64 L.stamps, .int .i64 L.log, .int .i64 L.fin, .int .i64 L.thread, .int .i64 L.lock, .int .i64 L.loc, .int .i64 L.size] rfl (rangeAt_of (cellsAt_alloc cc13 _)) ?hh13_235); (case ho13_235 => exact rfl); (case hx13_235 => exact rfl); (case hw13_235 => exact rfl)) | ((with_reducible refine wp_ld_case ?hw20_236 ?x20_236 ?ho20_236 (w.heap.size) 0 ?hx20_236 [.int .i64 L.c.t, .int .i64 L.c.l, .int .i64 L.c.k, .int .i64 L.c.s, .int .i64 L.c.m, .int .i64 L.clock, .int .i64 L.stamps, .int .i64 L.log, .int .i64 L.fin, .int .i64 L.thread, .int .i64 L.lock, .int .i64 L.loc, .int .i64 L.size, .int .i64 me, .int .i64 other, .bool true, .int .i64 m.s, .int .i64 m.k, .int .i64 m.a, .func (.func 30) #[] #[]] rfl (rangeAt_of (cellsAt_alloc cc _)) ?hh20_236); (case ho20_236 => exact rfl); (case hx20_236 => exact rfl); (case hw20_236 => exact rfl)))
  ((with_reducible refine (HT.out _).mono ?_); rintro e w6 ⟨rfl, hb⟩)
  clear cc_4 cc_13 cc_14 cc_15 cc_16 cc_17 cc_18 cc_19
  clear cc13
  have hsz := hb.size
  (try simp at hsz)
  have xcczn : w.heap.size ≠ w5.heap.size := by omega
  have xozzn : w.heap.size + 1 ≠ w5.heap.size := by omega
  have xgn : w5.heap.size ≠ g := by omega
  have xlo : w.heap.size ≤ w5.heap.size := by omega
  replace cc := cellsAt_keep (cellsAt_alloc cc _) hb
  replace oz := OutZ.below (OutZ.alloc oz _) hb
  have xq0 : w6.cell? ⟨w5.heap.size, 0, none⟩ = some (.int .i64 0) := cel_below hb (by rw [World.cell?_alloc_at _ _ _ _ (by simp)]; rfl)
  have xq1 : w6.cell? ⟨w5.heap.size, 1, none⟩ = some (.int .i64 0) := cel_below hb (by rw [World.cell?_alloc_at _ _ _ _ (by simp)]; rfl)
  have xq2 : w6.cell? ⟨w5.heap.size, 2, none⟩ = some (.int .i64 (s.1 / 4)) := cel_below hb (by rw [World.cell?_alloc_at _ _ _ _ (by simp)]; rfl)
  have xf : ∀ o, w6.frozen? ⟨w5.heap.size, o, none⟩ = false := fun o => fro_below hb (by first | omega | (simp; done) | (simp; omega)) (World.frozen?_alloc_at _ _ _ _ (by simp))
  replace ccz : w.heap.size < w6.heap.size := by omega
  replace ozz : w.heap.size + 1 < w6.heap.size := by omega
  have xz : w5.heap.size < w6.heap.size := World.block_lt_of_cell? _ _ xq0
  have h6 := runAt_keep (runAt_alloc h5 _) hb
  replace G := gb_trans (gb_alloc G _) (gb_of_below (some g) hb)
  clear hb hsz
  replace hS0 := G.size
  have cc_4 : w6.cell? ⟨w.heap.size, 4, none⟩ = some (.int .i64 L.c.m) := cc 4 _ rfl
  have cc_13 : w6.cell? ⟨w.heap.size, 13, none⟩ = some (.int .i64 me) := cc 13 _ rfl
  have cc_14 : w6.cell? ⟨w.heap.size, 14, none⟩ = some (.int .i64 other) := cc 14 _ rfl
  have cc_15 : w6.cell? ⟨w.heap.size, 15, none⟩ = some (.bool true) := cc 15 _ rfl
  have cc_16 : w6.cell? ⟨w.heap.size, 16, none⟩ = some (.int .i64 m.s) := cc 16 _ rfl
  have cc_17 : w6.cell? ⟨w.heap.size, 17, none⟩ = some (.int .i64 m.k) := cc 17 _ rfl
  have cc_18 : w6.cell? ⟨w.heap.size, 18, none⟩ = some (.int .i64 m.a) := cc 18 _ rfl
  have cc_19 : w6.cell? ⟨w.heap.size, 19, none⟩ = some (.func (.func 30) #[] #[]) := cc 19 _ rfl
  have cc13 : CellsAt w6 (w.heap.size) [.int .i64 L.c.t, .int .i64 L.c.l, .int .i64 L.c.k, .int .i64 L.c.s, .int .i64 L.c.m, .int .i64 L.clock, .int .i64 L.stamps, .int .i64 L.log, .int .i64 L.fin, .int .i64 L.thread, .int .i64 L.lock, .int .i64 L.loc, .int .i64 L.size] := cellsAt_take 13 cc
  go_wp2_with (first | ((with_reducible refine wp_ld_lay ?hw13_237 ?x13_237 ?ho13_237 (w.heap.size) 0 ?hx13_237 [.int .i64 L.c.t, .int .i64 L.c.l, .int .i64 L.c.k, .int .i64 L.c.s, .int .i64 L.c.m, .int .i64 L.clock, .int .i64 L.stamps, .int .i64 L.log, .int .i64 L.fin, .int .i64 L.thread, .int .i64 L.lock, .int .i64 L.loc, .int .i64 L.size] rfl (rangeAt_of cc13) ?hh13_237); (case ho13_237 => exact rfl); (case hx13_237 => exact rfl); (case hw13_237 => exact rfl)) | ((with_reducible refine wp_ld_case ?hw20_238 ?x20_238 ?ho20_238 (w.heap.size) 0 ?hx20_238 [.int .i64 L.c.t, .int .i64 L.c.l, .int .i64 L.c.k, .int .i64 L.c.s, .int .i64 L.c.m, .int .i64 L.clock, .int .i64 L.stamps, .int .i64 L.log, .int .i64 L.fin, .int .i64 L.thread, .int .i64 L.lock, .int .i64 L.loc, .int .i64 L.size, .int .i64 me, .int .i64 other, .bool true, .int .i64 m.s, .int .i64 m.k, .int .i64 m.a, .func (.func 30) #[] #[]] rfl (rangeAt_of cc) ?hh20_238); (case ho20_238 => exact rfl); (case hx20_238 => exact rfl); (case hw20_238 => exact rfl)))
  ((with_reducible refine (load_some _ g _ _ _ h6).mono ?_); rintro e w7 ⟨rfl, h7, hb⟩)
  clear cc_4 cc_13 cc_14 cc_15 cc_16 cc_17 cc_18 cc_19
  clear cc13
  have hsz := hb.size
  (try simp at hsz)
  replace cc := cellsAt_gb cc hb (by omega)
  replace oz := OutZ.gb oz hb (by omega)
  replace xq0 : w7.cell? ⟨w5.heap.size, 0, none⟩ = some (.int .i64 0) := gbc hb xq0 (by omega)
  replace xq1 : w7.cell? ⟨w5.heap.size, 1, none⟩ = some (.int .i64 0) := gbc hb xq1 (by omega)
  replace xq2 : w7.cell? ⟨w5.heap.size, 2, none⟩ = some (.int .i64 (s.1 / 4)) := gbc hb xq2 (by omega)
  replace xf : ∀ o, w7.frozen? ⟨w5.heap.size, o, none⟩ = false := fun o => gbf hb (by first | omega | (simp; done) | (simp; omega)) (by omega) (xf o)
  replace ccz : w.heap.size < w7.heap.size := by omega
  replace ozz : w.heap.size + 1 < w7.heap.size := by omega
  replace xz : w5.heap.size < w7.heap.size := by omega
  replace G := gb_trans G hb
  clear hb hsz
  replace hS0 := G.size
  have cc_4 : w7.cell? ⟨w.heap.size, 4, none⟩ = some (.int .i64 L.c.m) := cc 4 _ rfl
  have cc_13 : w7.cell? ⟨w.heap.size, 13, none⟩ = some (.int .i64 me) := cc 13 _ rfl
  have cc_14 : w7.cell? ⟨w.heap.size, 14, none⟩ = some (.int .i64 other) := cc 14 _ rfl
  have cc_15 : w7.cell? ⟨w.heap.size, 15, none⟩ = some (.bool true) := cc 15 _ rfl
  have cc_16 : w7.cell? ⟨w.heap.size, 16, none⟩ = some (.int .i64 m.s) := cc 16 _ rfl
  have cc_17 : w7.cell? ⟨w.heap.size, 17, none⟩ = some (.int .i64 m.k) := cc 17 _ rfl
  have cc_18 : w7.cell? ⟨w.heap.size, 18, none⟩ = some (.int .i64 m.a) := cc 18 _ rfl
  have cc_19 : w7.cell? ⟨w.heap.size, 19, none⟩ = some (.func (.func 30) #[] #[]) := cc 19 _ rfl
  have cc13 : CellsAt w7 (w.heap.size) [.int .i64 L.c.t, .int .i64 L.c.l, .int .i64 L.c.k, .int .i64 L.c.s, .int .i64 L.c.m, .int .i64 L.clock, .int .i64 L.stamps, .int .i64 L.log, .int .i64 L.fin, .int .i64 L.thread, .int .i64 L.lock, .int .i64 L.loc, .int .i64 L.size] := cellsAt_take 13 cc
  go_wp2_with (first | ((with_reducible refine wp_ld_lay ?hw13_239 ?x13_239 ?ho13_239 (w.heap.size) 0 ?hx13_239 [.int .i64 L.c.t, .int .i64 L.c.l, .int .i64 L.c.k, .int .i64 L.c.s, .int .i64 L.c.m, .int .i64 L.clock, .int .i64 L.stamps, .int .i64 L.log, .int .i64 L.fin, .int .i64 L.thread, .int .i64 L.lock, .int .i64 L.loc, .int .i64 L.size] rfl (rangeAt_of (cellsAt_set cc13 (by omega) _)) ?hh13_239); (case ho13_239 => exact rfl); (case hx13_239 => exact rfl); (case hw13_239 => exact rfl)) | ((with_reducible refine wp_ld_case ?hw20_240 ?x20_240 ?ho20_240 (w.heap.size) 0 ?hx20_240 [.int .i64 L.c.t, .int .i64 L.c.l, .int .i64 L.c.k, .int .i64 L.c.s, .int .i64 L.c.m, .int .i64 L.clock, .int .i64 L.stamps, .int .i64 L.log, .int .i64 L.fin, .int .i64 L.thread, .int .i64 L.lock, .int .i64 L.loc, .int .i64 L.size, .int .i64 me, .int .i64 other, .bool true, .int .i64 m.s, .int .i64 m.k, .int .i64 m.a, .func (.func 30) #[] #[]] rfl (rangeAt_of (cellsAt_set cc (by omega) _)) ?hh20_240); (case ho20_240 => exact rfl); (case hx20_240 => exact rfl); (case hw20_240 => exact rfl)))
  ((with_reducible refine (HK.out _).mono ?_); rintro e w8 ⟨rfl, hb⟩)
  clear cc_4 cc_13 cc_14 cc_15 cc_16 cc_17 cc_18 cc_19
  clear cc13
  have hsz := hb.size
  (try simp at hsz)
  replace cc := cellsAt_keep (cellsAt_set cc (by omega) _) hb
  replace oz := OutZ.below (OutZ.set oz (by omega) _) hb
  replace xq0 : w8.cell? ⟨w5.heap.size, 0, none⟩ = some (.int .i64 t.1) := cel_below hb (World.cell?_setCell_same _ _ _ xq0)
  replace xq1 : w8.cell? ⟨w5.heap.size, 1, none⟩ = some (.int .i64 0) := cel_below hb (keepA_ xq1 (by omega))
  replace xq2 : w8.cell? ⟨w5.heap.size, 2, none⟩ = some (.int .i64 (s.1 / 4)) := cel_below hb (keepA_ xq2 (by omega))
  replace xf : ∀ o, w8.frozen? ⟨w5.heap.size, o, none⟩ = false := fun o => fro_below hb (by first | omega | (simp; done) | (simp; omega)) ((World.frozen?_setCell _ _ _ _).trans (xf o))
  replace ccz : w.heap.size < w8.heap.size := by omega
  replace ozz : w.heap.size + 1 < w8.heap.size := by omega
  replace xz : w5.heap.size < w8.heap.size := by omega
  have h8 := runAt_keep (runAt_set h7 (by omega) _) hb
  replace G := gb_trans (gb_set G (Or.inr (by first | exact Nat.le_refl _ | (dsimp only; omega))) _) (gb_of_below (some g) hb)
  clear hb hsz
  replace hS0 := G.size
  have cc_4 : w8.cell? ⟨w.heap.size, 4, none⟩ = some (.int .i64 L.c.m) := cc 4 _ rfl
  have cc_13 : w8.cell? ⟨w.heap.size, 13, none⟩ = some (.int .i64 me) := cc 13 _ rfl
  have cc_14 : w8.cell? ⟨w.heap.size, 14, none⟩ = some (.int .i64 other) := cc 14 _ rfl
  have cc_15 : w8.cell? ⟨w.heap.size, 15, none⟩ = some (.bool true) := cc 15 _ rfl
  have cc_16 : w8.cell? ⟨w.heap.size, 16, none⟩ = some (.int .i64 m.s) := cc 16 _ rfl
  have cc_17 : w8.cell? ⟨w.heap.size, 17, none⟩ = some (.int .i64 m.k) := cc 17 _ rfl
  have cc_18 : w8.cell? ⟨w.heap.size, 18, none⟩ = some (.int .i64 m.a) := cc 18 _ rfl
  have cc_19 : w8.cell? ⟨w.heap.size, 19, none⟩ = some (.func (.func 30) #[] #[]) := cc 19 _ rfl
  have cc13 : CellsAt w8 (w.heap.size) [.int .i64 L.c.t, .int .i64 L.c.l, .int .i64 L.c.k, .int .i64 L.c.s, .int .i64 L.c.m, .int .i64 L.clock, .int .i64 L.stamps, .int .i64 L.log, .int .i64 L.fin, .int .i64 L.thread, .int .i64 L.lock, .int .i64 L.loc, .int .i64 L.size] := cellsAt_take 13 cc
  go_wp2_with (first | ((with_reducible refine wp_ld_lay ?hw13_241 ?x13_241 ?ho13_241 (w.heap.size) 0 ?hx13_241 [.int .i64 L.c.t, .int .i64 L.c.l, .int .i64 L.c.k, .int .i64 L.c.s, .int .i64 L.c.m, .int .i64 L.clock, .int .i64 L.stamps, .int .i64 L.log, .int .i64 L.fin, .int .i64 L.thread, .int .i64 L.lock, .int .i64 L.loc, .int .i64 L.size] rfl (rangeAt_of cc13) ?hh13_241); (case ho13_241 => exact rfl); (case hx13_241 => exact rfl); (case hw13_241 => exact rfl)) | ((with_reducible refine wp_ld_case ?hw20_242 ?x20_242 ?ho20_242 (w.heap.size) 0 ?hx20_242 [.int .i64 L.c.t, .int .i64 L.c.l, .int .i64 L.c.k, .int .i64 L.c.s, .int .i64 L.c.m, .int .i64 L.clock, .int .i64 L.stamps, .int .i64 L.log, .int .i64 L.fin, .int .i64 L.thread, .int .i64 L.lock, .int .i64 L.loc, .int .i64 L.size, .int .i64 me, .int .i64 other, .bool true, .int .i64 m.s, .int .i64 m.k, .int .i64 m.a, .func (.func 30) #[] #[]] rfl (rangeAt_of cc) ?hh20_242); (case ho20_242 => exact rfl); (case hx20_242 => exact rfl); (case hw20_242 => exact rfl)))
  ((with_reducible refine (load_some _ g _ _ _ h8).mono ?_); rintro e w9 ⟨rfl, h9, hb⟩)
  clear cc_4 cc_13 cc_14 cc_15 cc_16 cc_17 cc_18 cc_19
  clear cc13
  have hsz := hb.size
  (try simp at hsz)
  replace cc := cellsAt_gb cc hb (by omega)
  replace oz := OutZ.gb oz hb (by omega)
  replace xq0 : w9.cell? ⟨w5.heap.size, 0, none⟩ = some (.int .i64 t.1) := gbc hb xq0 (by omega)
  replace xq1 : w9.cell? ⟨w5.heap.size, 1, none⟩ = some (.int .i64 0) := gbc hb xq1 (by omega)
  replace xq2 : w9.cell? ⟨w5.heap.size, 2, none⟩ = some (.int .i64 (s.1 / 4)) := gbc hb xq2 (by omega)
  replace xf : ∀ o, w9.frozen? ⟨w5.heap.size, o, none⟩ = false := fun o => gbf hb (by first | omega | (simp; done) | (simp; omega)) (by omega) (xf o)
  replace ccz : w.heap.size < w9.heap.size := by omega
  replace ozz : w.heap.size + 1 < w9.heap.size := by omega
  replace xz : w5.heap.size < w9.heap.size := by omega
  replace G := gb_trans G hb
  clear hb hsz
  replace hS0 := G.size
  have cc_4 : w9.cell? ⟨w.heap.size, 4, none⟩ = some (.int .i64 L.c.m) := cc 4 _ rfl
  have cc_13 : w9.cell? ⟨w.heap.size, 13, none⟩ = some (.int .i64 me) := cc 13 _ rfl
  have cc_14 : w9.cell? ⟨w.heap.size, 14, none⟩ = some (.int .i64 other) := cc 14 _ rfl
  have cc_15 : w9.cell? ⟨w.heap.size, 15, none⟩ = some (.bool true) := cc 15 _ rfl
  have cc_16 : w9.cell? ⟨w.heap.size, 16, none⟩ = some (.int .i64 m.s) := cc 16 _ rfl
  have cc_17 : w9.cell? ⟨w.heap.size, 17, none⟩ = some (.int .i64 m.k) := cc 17 _ rfl
  have cc_18 : w9.cell? ⟨w.heap.size, 18, none⟩ = some (.int .i64 m.a) := cc 18 _ rfl
  have cc_19 : w9.cell? ⟨w.heap.size, 19, none⟩ = some (.func (.func 30) #[] #[]) := cc 19 _ rfl
  have cc13 : CellsAt w9 (w.heap.size) [.int .i64 L.c.t, .int .i64 L.c.l, .int .i64 L.c.k, .int .i64 L.c.s, .int .i64 L.c.m, .int .i64 L.clock, .int .i64 L.stamps, .int .i64 L.log, .int .i64 L.fin, .int .i64 L.thread, .int .i64 L.lock, .int .i64 L.loc, .int .i64 L.size] := cellsAt_take 13 cc
  go_wp2_with (first | ((with_reducible refine wp_ld_lay ?hw13_243 ?x13_243 ?ho13_243 (w.heap.size) 0 ?hx13_243 [.int .i64 L.c.t, .int .i64 L.c.l, .int .i64 L.c.k, .int .i64 L.c.s, .int .i64 L.c.m, .int .i64 L.clock, .int .i64 L.stamps, .int .i64 L.log, .int .i64 L.fin, .int .i64 L.thread, .int .i64 L.lock, .int .i64 L.loc, .int .i64 L.size] rfl (rangeAt_of (cellsAt_set cc13 (by omega) _)) ?hh13_243); (case ho13_243 => exact rfl); (case hx13_243 => exact rfl); (case hw13_243 => exact rfl)) | ((with_reducible refine wp_ld_case ?hw20_244 ?x20_244 ?ho20_244 (w.heap.size) 0 ?hx20_244 [.int .i64 L.c.t, .int .i64 L.c.l, .int .i64 L.c.k, .int .i64 L.c.s, .int .i64 L.c.m, .int .i64 L.clock, .int .i64 L.stamps, .int .i64 L.log, .int .i64 L.fin, .int .i64 L.thread, .int .i64 L.lock, .int .i64 L.loc, .int .i64 L.size, .int .i64 me, .int .i64 other, .bool true, .int .i64 m.s, .int .i64 m.k, .int .i64 m.a, .func (.func 30) #[] #[]] rfl (rangeAt_of (cellsAt_set cc (by omega) _)) ?hh20_244); (case ho20_244 => exact rfl); (case hx20_244 => exact rfl); (case hw20_244 => exact rfl)))
  ((with_reducible refine (HC.out _).mono ?_); rintro e w10 ⟨rfl, hb⟩)
  clear cc_4 cc_13 cc_14 cc_15 cc_16 cc_17 cc_18 cc_19
  clear cc13
  have hsz := hb.size
  (try simp at hsz)
  replace cc := cellsAt_keep (cellsAt_set cc (by omega) _) hb
  replace oz := OutZ.below (OutZ.set oz (by omega) _) hb
  replace xq0 : w10.cell? ⟨w5.heap.size, 0, none⟩ = some (.int .i64 t.1) := cel_below hb (keepA_ xq0 (by omega))
  replace xq1 : w10.cell? ⟨w5.heap.size, 1, none⟩ = some (.int .i64 k.1) := cel_below hb (World.cell?_setCell_same _ _ _ xq1)
  replace xq2 : w10.cell? ⟨w5.heap.size, 2, none⟩ = some (.int .i64 (s.1 / 4)) := cel_below hb (keepA_ xq2 (by omega))
  replace xf : ∀ o, w10.frozen? ⟨w5.heap.size, o, none⟩ = false := fun o => fro_below hb (by first | omega | (simp; done) | (simp; omega)) ((World.frozen?_setCell _ _ _ _).trans (xf o))
  replace ccz : w.heap.size < w10.heap.size := by omega
  replace ozz : w.heap.size + 1 < w10.heap.size := by omega
  replace xz : w5.heap.size < w10.heap.size := by omega
  have h10 := runAt_keep (runAt_set h9 (by omega) _) hb
  replace G := gb_trans (gb_set G (Or.inr (by first | exact Nat.le_refl _ | (dsimp only; omega))) _) (gb_of_below (some g) hb)
  clear hb hsz
  replace hS0 := G.size
  have cc_4 : w10.cell? ⟨w.heap.size, 4, none⟩ = some (.int .i64 L.c.m) := cc 4 _ rfl
  have cc_13 : w10.cell? ⟨w.heap.size, 13, none⟩ = some (.int .i64 me) := cc 13 _ rfl
  have cc_14 : w10.cell? ⟨w.heap.size, 14, none⟩ = some (.int .i64 other) := cc 14 _ rfl
  have cc_15 : w10.cell? ⟨w.heap.size, 15, none⟩ = some (.bool true) := cc 15 _ rfl
  have cc_16 : w10.cell? ⟨w.heap.size, 16, none⟩ = some (.int .i64 m.s) := cc 16 _ rfl
  have cc_17 : w10.cell? ⟨w.heap.size, 17, none⟩ = some (.int .i64 m.k) := cc 17 _ rfl
  have cc_18 : w10.cell? ⟨w.heap.size, 18, none⟩ = some (.int .i64 m.a) := cc 18 _ rfl
  have cc_19 : w10.cell? ⟨w.heap.size, 19, none⟩ = some (.func (.func 30) #[] #[]) := cc 19 _ rfl
  have cc13 : CellsAt w10 (w.heap.size) [.int .i64 L.c.t, .int .i64 L.c.l, .int .i64 L.c.k, .int .i64 L.c.s, .int .i64 L.c.m, .int .i64 L.clock, .int .i64 L.stamps, .int .i64 L.log, .int .i64 L.fin, .int .i64 L.thread, .int .i64 L.lock, .int .i64 L.loc, .int .i64 L.size] := cellsAt_take 13 cc
  have oq0 := oz.c0
  have oq1 := oz.c1
  have oq2 := oz.c2
  have oq3 := oz.c3
  have oq4 := oz.c4
  have oq5 := oz.c5
  have oq6 := oz.c6
  have of := oz.fr
  go_wp2_with (first | ((with_reducible refine wp_ld_lay ?hw13_245 ?x13_245 ?ho13_245 (w.heap.size) 0 ?hx13_245 [.int .i64 L.c.t, .int .i64 L.c.l, .int .i64 L.c.k, .int .i64 L.c.s, .int .i64 L.c.m, .int .i64 L.clock, .int .i64 L.stamps, .int .i64 L.log, .int .i64 L.fin, .int .i64 L.thread, .int .i64 L.lock, .int .i64 L.loc, .int .i64 L.size] rfl (rangeAt_of cc13) ?hh13_245); (case ho13_245 => exact rfl); (case hx13_245 => exact rfl); (case hw13_245 => exact rfl)) | ((with_reducible refine wp_ld_case ?hw20_246 ?x20_246 ?ho20_246 (w.heap.size) 0 ?hx20_246 [.int .i64 L.c.t, .int .i64 L.c.l, .int .i64 L.c.k, .int .i64 L.c.s, .int .i64 L.c.m, .int .i64 L.clock, .int .i64 L.stamps, .int .i64 L.log, .int .i64 L.fin, .int .i64 L.thread, .int .i64 L.lock, .int .i64 L.loc, .int .i64 L.size, .int .i64 me, .int .i64 other, .bool true, .int .i64 m.s, .int .i64 m.k, .int .i64 m.a, .func (.func 30) #[] #[]] rfl (rangeAt_of cc) ?hh20_246); (case ho20_246 => exact rfl); (case hx20_246 => exact rfl); (case hw20_246 => exact rfl)))
  obtain ⟨W, hW, k0, k1, k2, k3, k4, k5, k6⟩ := outs_at oz (.int .i64 (1)) (.int .i64 (0)) (.int .i64 (0)) (.int .i64 (0)) (.bool false) (.bool false) (.int .i64 (0))
  rw [← hW]
  simp [bodyPost, results, Try.results61, go_sem, k0, k1, k2, k3, k4, k5, k6, OutD.v]
  rw [hW]
  exact gb_outs G (by first | exact Nat.le_refl _ | omega) _ _ _ _ _ _ _

theorem res_tret (w : World) (g : Nat) (L : Ly) (hok : L.ok) (me other : Int) (m : Ct) (r : Int × Bool) (s t k : Int × Bool) (l : List (Int × Bool)) (o : OutD) (h0 : RunAt w g (r :: s :: t :: k :: l)) (hr : ¬r.1 % 4 = 3) (hi : I64 s.1) (hs : ¬s.1 % 4 = 0) (hc : chooseD L.c.m m ⟨t.1, k.1, s.1 / 4⟩ = 2) (hd : (doomT L other s.1).run l = .inr o) :
    Calls Try.prog 61 #[caseV L me other true m, .pointer (some ⟨g, 0, none⟩)] w fun e w' => e = .returned (OutD.v o) ∧ w.grownBy w' (some g) := by
  unfold caseV
  have HM : Hid (∀ w, Calls Try.prog 38 #[L.v, .int .i64 me] w fun e w' => e = .returned (.int .i64 (atStatus L me)) ∧ Below w.heap.size w w') := Lib.hid (fun w => status_any L me w hok)
  have HS : Hid (∀ w, Calls Try.prog 38 #[L.v, .int .i64 other] w fun e w' => e = .returned (.int .i64 (atStatus L other)) ∧ Below w.heap.size w w') := Lib.hid (fun w => status_any L other w hok)
  have HT : Hid (∀ w, Calls Try.prog 64 #[L.v, .int .i64 other] w fun e w' => e = .returned (.int .i64 (atStamp L other)) ∧ Below w.heap.size w w') := Lib.hid (fun w => stamp_any L other w hok)
  have HK : Hid (∀ w, Calls Try.prog 65 #[L.v, .int .i64 other] w fun e w' => e = .returned (.int .i64 (atKarma L other)) ∧ Below w.heap.size w w') := Lib.hid (fun w => karma_any L other w hok)
  unfold Ly.v at HM HS HT HK
  have hq : (r.1 % 4 == 3) = false := by simp [hr]
  have hs0 : (s.1 % 4 == 0) = false := by simp [hs]
  have HC : Hid (∀ w, Calls Try.prog 30 #[.int .i64 L.c.m, m.v, Ct.v ⟨t.1, k.1, s.1 / 4⟩] w fun e w' => e = .returned (.int .i64 2) ∧ Below w.heap.size w w') := Lib.hid (fun w => by rw [← hc]; exact choose_any _ _ _ w)
  unfold Ct.v at HC
  have HD : Hid (∀ w, RunAt w g l → Calls Try.prog 91 #[caseV L me other true m, .pointer (some ⟨g, 0, none⟩), .int .i64 s.1] w fun e w' => e = .returned o.v ∧ w.grownBy w' (some g)) := Lib.hid (fun w h => by have := doom_any w g L hok me other true m s.1 hi l h; rw [hd] at this; exact this)
  unfold caseV at HD
  unfold OutD.v at HD
  have hg0 := runAt_lt h0
  have G : w.grownBy w (some g) := gb_refl _ _
  have hS0 : w.heap.size + 0 ≤ w.heap.size := Nat.le_refl _
  go_enter Try.func61, Try.ntmps61
  go_wp2_with fail
  obtain ⟨w1, hwr⟩ : ∃ W, W = ((w.alloc (.cells #[.int .i64 L.c.t, .int .i64 L.c.l, .int .i64 L.c.k, .int .i64 L.c.s, .int .i64 L.c.m, .int .i64 L.clock, .int .i64 L.stamps, .int .i64 L.log, .int .i64 L.fin, .int .i64 L.thread, .int .i64 L.lock, .int .i64 L.loc, .int .i64 L.size, .int .i64 me, .int .i64 other, .bool true, .int .i64 m.s, .int .i64 m.k, .int .i64 m.a, .func (.func 30) #[] #[]] 119)).alloc (.cells #[.int .i64 0, .int .i64 0, .int .i64 0, .int .i64 0, .bool false, .bool false, .int .i64 0] 35)) := ⟨_, rfl⟩
  rw [← hwr]
  have hb : Below w.heap.size w w1 := by rw [hwr]; exact (Below.alloc (Below.alloc (Below.refl _ _) (by first | exact Nat.le_refl _ | (simp; omega) | simp) _) (by first | exact Nat.le_refl _ | (simp; omega) | simp) _)
  have cc : CellsAt w1 (w.heap.size) [.int .i64 L.c.t, .int .i64 L.c.l, .int .i64 L.c.k, .int .i64 L.c.s, .int .i64 L.c.m, .int .i64 L.clock, .int .i64 L.stamps, .int .i64 L.log, .int .i64 L.fin, .int .i64 L.thread, .int .i64 L.lock, .int .i64 L.loc, .int .i64 L.size, .int .i64 me, .int .i64 other, .bool true, .int .i64 m.s, .int .i64 m.k, .int .i64 m.a, .func (.func 30) #[] #[]] := by rw [hwr]; exact (cellsAt_alloc (cellsAt_new' w _ _ (w.heap.size) (by simp)) _)
  have ccz : w.heap.size < w1.heap.size := World.block_lt_of_cell? _ _ (cc 0 _ rfl)
  have oz : OutZ w1 (w.heap.size + 1) := by rw [hwr]; exact (OutZ.new' (w.alloc (.cells #[.int .i64 L.c.t, .int .i64 L.c.l, .int .i64 L.c.k, .int .i64 L.c.s, .int .i64 L.c.m, .int .i64 L.clock, .int .i64 L.stamps, .int .i64 L.log, .int .i64 L.fin, .int .i64 L.thread, .int .i64 L.lock, .int .i64 L.loc, .int .i64 L.size, .int .i64 me, .int .i64 other, .bool true, .int .i64 m.s, .int .i64 m.k, .int .i64 m.a, .func (.func 30) #[] #[]] 119)) _ (w.heap.size + 1) (by simp))
  have ozz : w.heap.size + 1 < w1.heap.size := OutZ.lt oz
  have h1 := runAt_keep h0 hb
  replace G := gb_trans G (gb_of_below (some g) hb)
  clear hb hwr
  replace hS0 := G.size
  have cc_4 : w1.cell? ⟨w.heap.size, 4, none⟩ = some (.int .i64 L.c.m) := cc 4 _ rfl
  have cc_13 : w1.cell? ⟨w.heap.size, 13, none⟩ = some (.int .i64 me) := cc 13 _ rfl
  have cc_14 : w1.cell? ⟨w.heap.size, 14, none⟩ = some (.int .i64 other) := cc 14 _ rfl
  have cc_15 : w1.cell? ⟨w.heap.size, 15, none⟩ = some (.bool true) := cc 15 _ rfl
  have cc_16 : w1.cell? ⟨w.heap.size, 16, none⟩ = some (.int .i64 m.s) := cc 16 _ rfl
  have cc_17 : w1.cell? ⟨w.heap.size, 17, none⟩ = some (.int .i64 m.k) := cc 17 _ rfl
  have cc_18 : w1.cell? ⟨w.heap.size, 18, none⟩ = some (.int .i64 m.a) := cc 18 _ rfl
  have cc_19 : w1.cell? ⟨w.heap.size, 19, none⟩ = some (.func (.func 30) #[] #[]) := cc 19 _ rfl
  have cc13 : CellsAt w1 (w.heap.size) [.int .i64 L.c.t, .int .i64 L.c.l, .int .i64 L.c.k, .int .i64 L.c.s, .int .i64 L.c.m, .int .i64 L.clock, .int .i64 L.stamps, .int .i64 L.log, .int .i64 L.fin, .int .i64 L.thread, .int .i64 L.lock, .int .i64 L.loc, .int .i64 L.size] := cellsAt_take 13 cc
  go_wp2_with (first | ((with_reducible refine wp_ld_lay ?hw13_247 ?x13_247 ?ho13_247 (w.heap.size) 0 ?hx13_247 [.int .i64 L.c.t, .int .i64 L.c.l, .int .i64 L.c.k, .int .i64 L.c.s, .int .i64 L.c.m, .int .i64 L.clock, .int .i64 L.stamps, .int .i64 L.log, .int .i64 L.fin, .int .i64 L.thread, .int .i64 L.lock, .int .i64 L.loc, .int .i64 L.size] rfl (rangeAt_of cc13) ?hh13_247); (case ho13_247 => exact rfl); (case hx13_247 => exact rfl); (case hw13_247 => exact rfl)) | ((with_reducible refine wp_ld_case ?hw20_248 ?x20_248 ?ho20_248 (w.heap.size) 0 ?hx20_248 [.int .i64 L.c.t, .int .i64 L.c.l, .int .i64 L.c.k, .int .i64 L.c.s, .int .i64 L.c.m, .int .i64 L.clock, .int .i64 L.stamps, .int .i64 L.log, .int .i64 L.fin, .int .i64 L.thread, .int .i64 L.lock, .int .i64 L.loc, .int .i64 L.size, .int .i64 me, .int .i64 other, .bool true, .int .i64 m.s, .int .i64 m.k, .int .i64 m.a, .func (.func 30) #[] #[]] rfl (rangeAt_of cc) ?hh20_248); (case ho20_248 => exact rfl); (case hx20_248 => exact rfl); (case hw20_248 => exact rfl)))
  ((with_reducible refine (HM.out _).mono ?_); rintro e w2 ⟨rfl, hb⟩)
  clear cc_4 cc_13 cc_14 cc_15 cc_16 cc_17 cc_18 cc_19
  clear cc13
  have hsz := hb.size
  (try simp at hsz)
  replace cc := cellsAt_keep cc hb
  replace oz := OutZ.below oz hb
  replace ccz : w.heap.size < w2.heap.size := by omega
  replace ozz : w.heap.size + 1 < w2.heap.size := by omega
  have h2 := runAt_keep h1 hb
  replace G := gb_trans G (gb_of_below (some g) hb)
  clear hb hsz
  replace hS0 := G.size
  have cc_4 : w2.cell? ⟨w.heap.size, 4, none⟩ = some (.int .i64 L.c.m) := cc 4 _ rfl
  have cc_13 : w2.cell? ⟨w.heap.size, 13, none⟩ = some (.int .i64 me) := cc 13 _ rfl
  have cc_14 : w2.cell? ⟨w.heap.size, 14, none⟩ = some (.int .i64 other) := cc 14 _ rfl
  have cc_15 : w2.cell? ⟨w.heap.size, 15, none⟩ = some (.bool true) := cc 15 _ rfl
  have cc_16 : w2.cell? ⟨w.heap.size, 16, none⟩ = some (.int .i64 m.s) := cc 16 _ rfl
  have cc_17 : w2.cell? ⟨w.heap.size, 17, none⟩ = some (.int .i64 m.k) := cc 17 _ rfl
  have cc_18 : w2.cell? ⟨w.heap.size, 18, none⟩ = some (.int .i64 m.a) := cc 18 _ rfl
  have cc_19 : w2.cell? ⟨w.heap.size, 19, none⟩ = some (.func (.func 30) #[] #[]) := cc 19 _ rfl
  have cc13 : CellsAt w2 (w.heap.size) [.int .i64 L.c.t, .int .i64 L.c.l, .int .i64 L.c.k, .int .i64 L.c.s, .int .i64 L.c.m, .int .i64 L.clock, .int .i64 L.stamps, .int .i64 L.log, .int .i64 L.fin, .int .i64 L.thread, .int .i64 L.lock, .int .i64 L.loc, .int .i64 L.size] := cellsAt_take 13 cc
  go_wp2_with (first | ((with_reducible refine wp_ld_lay ?hw13_249 ?x13_249 ?ho13_249 (w.heap.size) 0 ?hx13_249 [.int .i64 L.c.t, .int .i64 L.c.l, .int .i64 L.c.k, .int .i64 L.c.s, .int .i64 L.c.m, .int .i64 L.clock, .int .i64 L.stamps, .int .i64 L.log, .int .i64 L.fin, .int .i64 L.thread, .int .i64 L.lock, .int .i64 L.loc, .int .i64 L.size] rfl (rangeAt_of cc13) ?hh13_249); (case ho13_249 => exact rfl); (case hx13_249 => exact rfl); (case hw13_249 => exact rfl)) | ((with_reducible refine wp_ld_case ?hw20_250 ?x20_250 ?ho20_250 (w.heap.size) 0 ?hx20_250 [.int .i64 L.c.t, .int .i64 L.c.l, .int .i64 L.c.k, .int .i64 L.c.s, .int .i64 L.c.m, .int .i64 L.clock, .int .i64 L.stamps, .int .i64 L.log, .int .i64 L.fin, .int .i64 L.thread, .int .i64 L.lock, .int .i64 L.loc, .int .i64 L.size, .int .i64 me, .int .i64 other, .bool true, .int .i64 m.s, .int .i64 m.k, .int .i64 m.a, .func (.func 30) #[] #[]] rfl (rangeAt_of cc) ?hh20_250); (case ho20_250 => exact rfl); (case hx20_250 => exact rfl); (case hw20_250 => exact rfl)))
  ((with_reducible refine (load_some _ g _ _ _ h2).mono ?_); rintro e w3 ⟨rfl, h3, hb⟩)
  clear cc_4 cc_13 cc_14 cc_15 cc_16 cc_17 cc_18 cc_19
  clear cc13
  have hsz := hb.size
  (try simp at hsz)
  replace cc := cellsAt_gb cc hb (by omega)
  replace oz := OutZ.gb oz hb (by omega)
  replace ccz : w.heap.size < w3.heap.size := by omega
  replace ozz : w.heap.size + 1 < w3.heap.size := by omega
  replace G := gb_trans G hb
  clear hb hsz
  replace hS0 := G.size
  have cc_4 : w3.cell? ⟨w.heap.size, 4, none⟩ = some (.int .i64 L.c.m) := cc 4 _ rfl
  have cc_13 : w3.cell? ⟨w.heap.size, 13, none⟩ = some (.int .i64 me) := cc 13 _ rfl
  have cc_14 : w3.cell? ⟨w.heap.size, 14, none⟩ = some (.int .i64 other) := cc 14 _ rfl
  have cc_15 : w3.cell? ⟨w.heap.size, 15, none⟩ = some (.bool true) := cc 15 _ rfl
  have cc_16 : w3.cell? ⟨w.heap.size, 16, none⟩ = some (.int .i64 m.s) := cc 16 _ rfl
  have cc_17 : w3.cell? ⟨w.heap.size, 17, none⟩ = some (.int .i64 m.k) := cc 17 _ rfl
  have cc_18 : w3.cell? ⟨w.heap.size, 18, none⟩ = some (.int .i64 m.a) := cc 18 _ rfl
  have cc_19 : w3.cell? ⟨w.heap.size, 19, none⟩ = some (.func (.func 30) #[] #[]) := cc 19 _ rfl
  have cc13 : CellsAt w3 (w.heap.size) [.int .i64 L.c.t, .int .i64 L.c.l, .int .i64 L.c.k, .int .i64 L.c.s, .int .i64 L.c.m, .int .i64 L.clock, .int .i64 L.stamps, .int .i64 L.log, .int .i64 L.fin, .int .i64 L.thread, .int .i64 L.lock, .int .i64 L.loc, .int .i64 L.size] := cellsAt_take 13 cc
  go_wp2_with (first | ((with_reducible refine wp_ld_lay ?hw13_251 ?x13_251 ?ho13_251 (w.heap.size) 0 ?hx13_251 [.int .i64 L.c.t, .int .i64 L.c.l, .int .i64 L.c.k, .int .i64 L.c.s, .int .i64 L.c.m, .int .i64 L.clock, .int .i64 L.stamps, .int .i64 L.log, .int .i64 L.fin, .int .i64 L.thread, .int .i64 L.lock, .int .i64 L.loc, .int .i64 L.size] rfl (rangeAt_of cc13) ?hh13_251); (case ho13_251 => exact rfl); (case hx13_251 => exact rfl); (case hw13_251 => exact rfl)) | ((with_reducible refine wp_ld_case ?hw20_252 ?x20_252 ?ho20_252 (w.heap.size) 0 ?hx20_252 [.int .i64 L.c.t, .int .i64 L.c.l, .int .i64 L.c.k, .int .i64 L.c.s, .int .i64 L.c.m, .int .i64 L.clock, .int .i64 L.stamps, .int .i64 L.log, .int .i64 L.fin, .int .i64 L.thread, .int .i64 L.lock, .int .i64 L.loc, .int .i64 L.size, .int .i64 me, .int .i64 other, .bool true, .int .i64 m.s, .int .i64 m.k, .int .i64 m.a, .func (.func 30) #[] #[]] rfl (rangeAt_of cc) ?hh20_252); (case ho20_252 => exact rfl); (case hx20_252 => exact rfl); (case hw20_252 => exact rfl)))
  ((with_reducible refine (kind_any _ _).mono ?_); rintro e w' ⟨rfl, rfl⟩)
  clear cc13
  have cc13 : CellsAt w3 (w.heap.size) [.int .i64 L.c.t, .int .i64 L.c.l, .int .i64 L.c.k, .int .i64 L.c.s, .int .i64 L.c.m, .int .i64 L.clock, .int .i64 L.stamps, .int .i64 L.log, .int .i64 L.fin, .int .i64 L.thread, .int .i64 L.lock, .int .i64 L.loc, .int .i64 L.size] := cellsAt_take 13 cc
  go_wp2_with (first | ((with_reducible refine wp_ld_lay ?hw13_253 ?x13_253 ?ho13_253 (w.heap.size) 0 ?hx13_253 [.int .i64 L.c.t, .int .i64 L.c.l, .int .i64 L.c.k, .int .i64 L.c.s, .int .i64 L.c.m, .int .i64 L.clock, .int .i64 L.stamps, .int .i64 L.log, .int .i64 L.fin, .int .i64 L.thread, .int .i64 L.lock, .int .i64 L.loc, .int .i64 L.size] rfl (rangeAt_of cc13) ?hh13_253); (case ho13_253 => exact rfl); (case hx13_253 => exact rfl); (case hw13_253 => exact rfl)) | ((with_reducible refine wp_ld_case ?hw20_254 ?x20_254 ?ho20_254 (w.heap.size) 0 ?hx20_254 [.int .i64 L.c.t, .int .i64 L.c.l, .int .i64 L.c.k, .int .i64 L.c.s, .int .i64 L.c.m, .int .i64 L.clock, .int .i64 L.stamps, .int .i64 L.log, .int .i64 L.fin, .int .i64 L.thread, .int .i64 L.lock, .int .i64 L.loc, .int .i64 L.size, .int .i64 me, .int .i64 other, .bool true, .int .i64 m.s, .int .i64 m.k, .int .i64 m.a, .func (.func 30) #[] #[]] rfl (rangeAt_of cc) ?hh20_254); (case ho20_254 => exact rfl); (case hx20_254 => exact rfl); (case hw20_254 => exact rfl)))
  ((with_reducible refine (HS.out _).mono ?_); rintro e w4 ⟨rfl, hb⟩)
  clear cc_4 cc_13 cc_14 cc_15 cc_16 cc_17 cc_18 cc_19
  clear cc13
  have hsz := hb.size
  (try simp at hsz)
  replace cc := cellsAt_keep cc hb
  replace oz := OutZ.below oz hb
  replace ccz : w.heap.size < w4.heap.size := by omega
  replace ozz : w.heap.size + 1 < w4.heap.size := by omega
  have h4 := runAt_keep h3 hb
  replace G := gb_trans G (gb_of_below (some g) hb)
  clear hb hsz
  replace hS0 := G.size
  have cc_4 : w4.cell? ⟨w.heap.size, 4, none⟩ = some (.int .i64 L.c.m) := cc 4 _ rfl
  have cc_13 : w4.cell? ⟨w.heap.size, 13, none⟩ = some (.int .i64 me) := cc 13 _ rfl
  have cc_14 : w4.cell? ⟨w.heap.size, 14, none⟩ = some (.int .i64 other) := cc 14 _ rfl
  have cc_15 : w4.cell? ⟨w.heap.size, 15, none⟩ = some (.bool true) := cc 15 _ rfl
  have cc_16 : w4.cell? ⟨w.heap.size, 16, none⟩ = some (.int .i64 m.s) := cc 16 _ rfl
  have cc_17 : w4.cell? ⟨w.heap.size, 17, none⟩ = some (.int .i64 m.k) := cc 17 _ rfl
  have cc_18 : w4.cell? ⟨w.heap.size, 18, none⟩ = some (.int .i64 m.a) := cc 18 _ rfl
  have cc_19 : w4.cell? ⟨w.heap.size, 19, none⟩ = some (.func (.func 30) #[] #[]) := cc 19 _ rfl
  have cc13 : CellsAt w4 (w.heap.size) [.int .i64 L.c.t, .int .i64 L.c.l, .int .i64 L.c.k, .int .i64 L.c.s, .int .i64 L.c.m, .int .i64 L.clock, .int .i64 L.stamps, .int .i64 L.log, .int .i64 L.fin, .int .i64 L.thread, .int .i64 L.lock, .int .i64 L.loc, .int .i64 L.size] := cellsAt_take 13 cc
  go_wp2_with (first | ((with_reducible refine wp_ld_lay ?hw13_255 ?x13_255 ?ho13_255 (w.heap.size) 0 ?hx13_255 [.int .i64 L.c.t, .int .i64 L.c.l, .int .i64 L.c.k, .int .i64 L.c.s, .int .i64 L.c.m, .int .i64 L.clock, .int .i64 L.stamps, .int .i64 L.log, .int .i64 L.fin, .int .i64 L.thread, .int .i64 L.lock, .int .i64 L.loc, .int .i64 L.size] rfl (rangeAt_of cc13) ?hh13_255); (case ho13_255 => exact rfl); (case hx13_255 => exact rfl); (case hw13_255 => exact rfl)) | ((with_reducible refine wp_ld_case ?hw20_256 ?x20_256 ?ho20_256 (w.heap.size) 0 ?hx20_256 [.int .i64 L.c.t, .int .i64 L.c.l, .int .i64 L.c.k, .int .i64 L.c.s, .int .i64 L.c.m, .int .i64 L.clock, .int .i64 L.stamps, .int .i64 L.log, .int .i64 L.fin, .int .i64 L.thread, .int .i64 L.lock, .int .i64 L.loc, .int .i64 L.size, .int .i64 me, .int .i64 other, .bool true, .int .i64 m.s, .int .i64 m.k, .int .i64 m.a, .func (.func 30) #[] #[]] rfl (rangeAt_of cc) ?hh20_256); (case ho20_256 => exact rfl); (case hx20_256 => exact rfl); (case hw20_256 => exact rfl)))
  ((with_reducible refine (load_some _ g _ _ _ h4).mono ?_); rintro e w5 ⟨rfl, h5, hb⟩)
  clear cc_4 cc_13 cc_14 cc_15 cc_16 cc_17 cc_18 cc_19
  clear cc13
  have hsz := hb.size
  (try simp at hsz)
  replace cc := cellsAt_gb cc hb (by omega)
  replace oz := OutZ.gb oz hb (by omega)
  replace ccz : w.heap.size < w5.heap.size := by omega
  replace ozz : w.heap.size + 1 < w5.heap.size := by omega
  replace G := gb_trans G hb
  clear hb hsz
  replace hS0 := G.size
  have cc_4 : w5.cell? ⟨w.heap.size, 4, none⟩ = some (.int .i64 L.c.m) := cc 4 _ rfl
  have cc_13 : w5.cell? ⟨w.heap.size, 13, none⟩ = some (.int .i64 me) := cc 13 _ rfl
  have cc_14 : w5.cell? ⟨w.heap.size, 14, none⟩ = some (.int .i64 other) := cc 14 _ rfl
  have cc_15 : w5.cell? ⟨w.heap.size, 15, none⟩ = some (.bool true) := cc 15 _ rfl
  have cc_16 : w5.cell? ⟨w.heap.size, 16, none⟩ = some (.int .i64 m.s) := cc 16 _ rfl
  have cc_17 : w5.cell? ⟨w.heap.size, 17, none⟩ = some (.int .i64 m.k) := cc 17 _ rfl
  have cc_18 : w5.cell? ⟨w.heap.size, 18, none⟩ = some (.int .i64 m.a) := cc 18 _ rfl
  have cc_19 : w5.cell? ⟨w.heap.size, 19, none⟩ = some (.func (.func 30) #[] #[]) := cc 19 _ rfl
  have cc13 : CellsAt w5 (w.heap.size) [.int .i64 L.c.t, .int .i64 L.c.l, .int .i64 L.c.k, .int .i64 L.c.s, .int .i64 L.c.m, .int .i64 L.clock, .int .i64 L.stamps, .int .i64 L.log, .int .i64 L.fin, .int .i64 L.thread, .int .i64 L.lock, .int .i64 L.loc, .int .i64 L.size] := cellsAt_take 13 cc
  go_wp2_with (first | ((with_reducible refine wp_ld_lay ?hw13_257 ?x13_257 ?ho13_257 (w.heap.size) 0 ?hx13_257 [.int .i64 L.c.t, .int .i64 L.c.l, .int .i64 L.c.k, .int .i64 L.c.s, .int .i64 L.c.m, .int .i64 L.clock, .int .i64 L.stamps, .int .i64 L.log, .int .i64 L.fin, .int .i64 L.thread, .int .i64 L.lock, .int .i64 L.loc, .int .i64 L.size] rfl (rangeAt_of cc13) ?hh13_257); (case ho13_257 => exact rfl); (case hx13_257 => exact rfl); (case hw13_257 => exact rfl)) | ((with_reducible refine wp_ld_case ?hw20_258 ?x20_258 ?ho20_258 (w.heap.size) 0 ?hx20_258 [.int .i64 L.c.t, .int .i64 L.c.l, .int .i64 L.c.k, .int .i64 L.c.s, .int .i64 L.c.m, .int .i64 L.clock, .int .i64 L.stamps, .int .i64 L.log, .int .i64 L.fin, .int .i64 L.thread, .int .i64 L.lock, .int .i64 L.loc, .int .i64 L.size, .int .i64 me, .int .i64 other, .bool true, .int .i64 m.s, .int .i64 m.k, .int .i64 m.a, .func (.func 30) #[] #[]] rfl (rangeAt_of cc) ?hh20_258); (case ho20_258 => exact rfl); (case hx20_258 => exact rfl); (case hw20_258 => exact rfl)))
  ((with_reducible refine (kind_any _ _).mono ?_); rintro e w' ⟨rfl, rfl⟩)
  clear cc13
  have cc13 : CellsAt w5 (w.heap.size) [.int .i64 L.c.t, .int .i64 L.c.l, .int .i64 L.c.k, .int .i64 L.c.s, .int .i64 L.c.m, .int .i64 L.clock, .int .i64 L.stamps, .int .i64 L.log, .int .i64 L.fin, .int .i64 L.thread, .int .i64 L.lock, .int .i64 L.loc, .int .i64 L.size] := cellsAt_take 13 cc
  go_wp2_with (first | ((with_reducible refine wp_ld_lay ?hw13_259 ?x13_259 ?ho13_259 (w.heap.size) 0 ?hx13_259 [.int .i64 L.c.t, .int .i64 L.c.l, .int .i64 L.c.k, .int .i64 L.c.s, .int .i64 L.c.m, .int .i64 L.clock, .int .i64 L.stamps, .int .i64 L.log, .int .i64 L.fin, .int .i64 L.thread, .int .i64 L.lock, .int .i64 L.loc, .int .i64 L.size] rfl (rangeAt_of cc13) ?hh13_259); (case ho13_259 => exact rfl); (case hx13_259 => exact rfl); (case hw13_259 => exact rfl)) | ((with_reducible refine wp_ld_case ?hw20_260 ?x20_260 ?ho20_260 (w.heap.size) 0 ?hx20_260 [.int .i64 L.c.t, .int .i64 L.c.l, .int .i64 L.c.k, .int .i64 L.c.s, .int .i64 L.c.m, .int .i64 L.clock, .int .i64 L.stamps, .int .i64 L.log, .int .i64 L.fin, .int .i64 L.thread, .int .i64 L.lock, .int .i64 L.loc, .int .i64 L.size, .int .i64 me, .int .i64 other, .bool true, .int .i64 m.s, .int .i64 m.k, .int .i64 m.a, .func (.func 30) #[] #[]] rfl (rangeAt_of cc) ?hh20_260); (case ho20_260 => exact rfl); (case hx20_260 => exact rfl); (case hw20_260 => exact rfl)))
  ((with_reducible refine (try_any _ hi _).mono ?_); rintro e w' ⟨rfl, rfl⟩)
  clear cc13
  have cc13 : CellsAt w5 (w.heap.size) [.int .i64 L.c.t, .int .i64 L.c.l, .int .i64 L.c.k, .int .i64 L.c.s, .int .i64 L.c.m, .int .i64 L.clock, .int .i64 L.stamps, .int .i64 L.log, .int .i64 L.fin, .int .i64 L.thread, .int .i64 L.lock, .int .i64 L.loc, .int .i64 L.size] := cellsAt_take 13 cc
  go_wp2_with (first | ((with_reducible refine wp_ld_lay ?hw13_261 ?x13_261 ?ho13_261 (w.heap.size) 0 ?hx13_261 [.int .i64 L.c.t, .int .i64 L.c.l, .int .i64 L.c.k, .int .i64 L.c.s, .int .i64 L.c.m, .int .i64 L.clock, .int .i64 L.stamps, .int .i64 L.log, .int .i64 L.fin, .int .i64 L.thread, .int .i64 L.lock, .int .i64 L.loc, .int .i64 L.size] rfl (rangeAt_of (cellsAt_alloc cc13 _)) ?hh13_261); (case ho13_261 => exact rfl); (case hx13_261 => exact rfl); (case hw13_261 => exact rfl)) | ((with_reducible refine wp_ld_case ?hw20_262 ?x20_262 ?ho20_262 (w.heap.size) 0 ?hx20_262 [.int .i64 L.c.t, .int .i64 L.c.l, .int .i64 L.c.k, .int .i64 L.c.s, .int .i64 L.c.m, .int .i64 L.clock, .int .i64 L.stamps, .int .i64 L.log, .int .i64 L.fin, .int .i64 L.thread, .int .i64 L.lock, .int .i64 L.loc, .int .i64 L.size, .int .i64 me, .int .i64 other, .bool true, .int .i64 m.s, .int .i64 m.k, .int .i64 m.a, .func (.func 30) #[] #[]] rfl (rangeAt_of (cellsAt_alloc cc _)) ?hh20_262); (case ho20_262 => exact rfl); (case hx20_262 => exact rfl); (case hw20_262 => exact rfl)))
  ((with_reducible refine (HT.out _).mono ?_); rintro e w6 ⟨rfl, hb⟩)
  clear cc_4 cc_13 cc_14 cc_15 cc_16 cc_17 cc_18 cc_19
  clear cc13
  have hsz := hb.size
  (try simp at hsz)
  have xcczn : w.heap.size ≠ w5.heap.size := by omega
  have xozzn : w.heap.size + 1 ≠ w5.heap.size := by omega
  have xgn : w5.heap.size ≠ g := by omega
  have xlo : w.heap.size ≤ w5.heap.size := by omega
  replace cc := cellsAt_keep (cellsAt_alloc cc _) hb
  replace oz := OutZ.below (OutZ.alloc oz _) hb
  have xq0 : w6.cell? ⟨w5.heap.size, 0, none⟩ = some (.int .i64 0) := cel_below hb (by rw [World.cell?_alloc_at _ _ _ _ (by simp)]; rfl)
  have xq1 : w6.cell? ⟨w5.heap.size, 1, none⟩ = some (.int .i64 0) := cel_below hb (by rw [World.cell?_alloc_at _ _ _ _ (by simp)]; rfl)
  have xq2 : w6.cell? ⟨w5.heap.size, 2, none⟩ = some (.int .i64 (s.1 / 4)) := cel_below hb (by rw [World.cell?_alloc_at _ _ _ _ (by simp)]; rfl)
  have xf : ∀ o, w6.frozen? ⟨w5.heap.size, o, none⟩ = false := fun o => fro_below hb (by first | omega | (simp; done) | (simp; omega)) (World.frozen?_alloc_at _ _ _ _ (by simp))
  replace ccz : w.heap.size < w6.heap.size := by omega
  replace ozz : w.heap.size + 1 < w6.heap.size := by omega
  have xz : w5.heap.size < w6.heap.size := World.block_lt_of_cell? _ _ xq0
  have h6 := runAt_keep (runAt_alloc h5 _) hb
  replace G := gb_trans (gb_alloc G _) (gb_of_below (some g) hb)
  clear hb hsz
  replace hS0 := G.size
  have cc_4 : w6.cell? ⟨w.heap.size, 4, none⟩ = some (.int .i64 L.c.m) := cc 4 _ rfl
  have cc_13 : w6.cell? ⟨w.heap.size, 13, none⟩ = some (.int .i64 me) := cc 13 _ rfl
  have cc_14 : w6.cell? ⟨w.heap.size, 14, none⟩ = some (.int .i64 other) := cc 14 _ rfl
  have cc_15 : w6.cell? ⟨w.heap.size, 15, none⟩ = some (.bool true) := cc 15 _ rfl
  have cc_16 : w6.cell? ⟨w.heap.size, 16, none⟩ = some (.int .i64 m.s) := cc 16 _ rfl
  have cc_17 : w6.cell? ⟨w.heap.size, 17, none⟩ = some (.int .i64 m.k) := cc 17 _ rfl
  have cc_18 : w6.cell? ⟨w.heap.size, 18, none⟩ = some (.int .i64 m.a) := cc 18 _ rfl
  have cc_19 : w6.cell? ⟨w.heap.size, 19, none⟩ = some (.func (.func 30) #[] #[]) := cc 19 _ rfl
  have cc13 : CellsAt w6 (w.heap.size) [.int .i64 L.c.t, .int .i64 L.c.l, .int .i64 L.c.k, .int .i64 L.c.s, .int .i64 L.c.m, .int .i64 L.clock, .int .i64 L.stamps, .int .i64 L.log, .int .i64 L.fin, .int .i64 L.thread, .int .i64 L.lock, .int .i64 L.loc, .int .i64 L.size] := cellsAt_take 13 cc
  go_wp2_with (first | ((with_reducible refine wp_ld_lay ?hw13_263 ?x13_263 ?ho13_263 (w.heap.size) 0 ?hx13_263 [.int .i64 L.c.t, .int .i64 L.c.l, .int .i64 L.c.k, .int .i64 L.c.s, .int .i64 L.c.m, .int .i64 L.clock, .int .i64 L.stamps, .int .i64 L.log, .int .i64 L.fin, .int .i64 L.thread, .int .i64 L.lock, .int .i64 L.loc, .int .i64 L.size] rfl (rangeAt_of cc13) ?hh13_263); (case ho13_263 => exact rfl); (case hx13_263 => exact rfl); (case hw13_263 => exact rfl)) | ((with_reducible refine wp_ld_case ?hw20_264 ?x20_264 ?ho20_264 (w.heap.size) 0 ?hx20_264 [.int .i64 L.c.t, .int .i64 L.c.l, .int .i64 L.c.k, .int .i64 L.c.s, .int .i64 L.c.m, .int .i64 L.clock, .int .i64 L.stamps, .int .i64 L.log, .int .i64 L.fin, .int .i64 L.thread, .int .i64 L.lock, .int .i64 L.loc, .int .i64 L.size, .int .i64 me, .int .i64 other, .bool true, .int .i64 m.s, .int .i64 m.k, .int .i64 m.a, .func (.func 30) #[] #[]] rfl (rangeAt_of cc) ?hh20_264); (case ho20_264 => exact rfl); (case hx20_264 => exact rfl); (case hw20_264 => exact rfl)))
  ((with_reducible refine (load_some _ g _ _ _ h6).mono ?_); rintro e w7 ⟨rfl, h7, hb⟩)
  clear cc_4 cc_13 cc_14 cc_15 cc_16 cc_17 cc_18 cc_19
  clear cc13
  have hsz := hb.size
  (try simp at hsz)
  replace cc := cellsAt_gb cc hb (by omega)
  replace oz := OutZ.gb oz hb (by omega)
  replace xq0 : w7.cell? ⟨w5.heap.size, 0, none⟩ = some (.int .i64 0) := gbc hb xq0 (by omega)
  replace xq1 : w7.cell? ⟨w5.heap.size, 1, none⟩ = some (.int .i64 0) := gbc hb xq1 (by omega)
  replace xq2 : w7.cell? ⟨w5.heap.size, 2, none⟩ = some (.int .i64 (s.1 / 4)) := gbc hb xq2 (by omega)
  replace xf : ∀ o, w7.frozen? ⟨w5.heap.size, o, none⟩ = false := fun o => gbf hb (by first | omega | (simp; done) | (simp; omega)) (by omega) (xf o)
  replace ccz : w.heap.size < w7.heap.size := by omega
  replace ozz : w.heap.size + 1 < w7.heap.size := by omega
  replace xz : w5.heap.size < w7.heap.size := by omega
  replace G := gb_trans G hb
  clear hb hsz
  replace hS0 := G.size
  have cc_4 : w7.cell? ⟨w.heap.size, 4, none⟩ = some (.int .i64 L.c.m) := cc 4 _ rfl
  have cc_13 : w7.cell? ⟨w.heap.size, 13, none⟩ = some (.int .i64 me) := cc 13 _ rfl
  have cc_14 : w7.cell? ⟨w.heap.size, 14, none⟩ = some (.int .i64 other) := cc 14 _ rfl
  have cc_15 : w7.cell? ⟨w.heap.size, 15, none⟩ = some (.bool true) := cc 15 _ rfl
  have cc_16 : w7.cell? ⟨w.heap.size, 16, none⟩ = some (.int .i64 m.s) := cc 16 _ rfl
  have cc_17 : w7.cell? ⟨w.heap.size, 17, none⟩ = some (.int .i64 m.k) := cc 17 _ rfl
  have cc_18 : w7.cell? ⟨w.heap.size, 18, none⟩ = some (.int .i64 m.a) := cc 18 _ rfl
  have cc_19 : w7.cell? ⟨w.heap.size, 19, none⟩ = some (.func (.func 30) #[] #[]) := cc 19 _ rfl
  have cc13 : CellsAt w7 (w.heap.size) [.int .i64 L.c.t, .int .i64 L.c.l, .int .i64 L.c.k, .int .i64 L.c.s, .int .i64 L.c.m, .int .i64 L.clock, .int .i64 L.stamps, .int .i64 L.log, .int .i64 L.fin, .int .i64 L.thread, .int .i64 L.lock, .int .i64 L.loc, .int .i64 L.size] := cellsAt_take 13 cc
  go_wp2_with (first | ((with_reducible refine wp_ld_lay ?hw13_265 ?x13_265 ?ho13_265 (w.heap.size) 0 ?hx13_265 [.int .i64 L.c.t, .int .i64 L.c.l, .int .i64 L.c.k, .int .i64 L.c.s, .int .i64 L.c.m, .int .i64 L.clock, .int .i64 L.stamps, .int .i64 L.log, .int .i64 L.fin, .int .i64 L.thread, .int .i64 L.lock, .int .i64 L.loc, .int .i64 L.size] rfl (rangeAt_of (cellsAt_set cc13 (by omega) _)) ?hh13_265); (case ho13_265 => exact rfl); (case hx13_265 => exact rfl); (case hw13_265 => exact rfl)) | ((with_reducible refine wp_ld_case ?hw20_266 ?x20_266 ?ho20_266 (w.heap.size) 0 ?hx20_266 [.int .i64 L.c.t, .int .i64 L.c.l, .int .i64 L.c.k, .int .i64 L.c.s, .int .i64 L.c.m, .int .i64 L.clock, .int .i64 L.stamps, .int .i64 L.log, .int .i64 L.fin, .int .i64 L.thread, .int .i64 L.lock, .int .i64 L.loc, .int .i64 L.size, .int .i64 me, .int .i64 other, .bool true, .int .i64 m.s, .int .i64 m.k, .int .i64 m.a, .func (.func 30) #[] #[]] rfl (rangeAt_of (cellsAt_set cc (by omega) _)) ?hh20_266); (case ho20_266 => exact rfl); (case hx20_266 => exact rfl); (case hw20_266 => exact rfl)))
  ((with_reducible refine (HK.out _).mono ?_); rintro e w8 ⟨rfl, hb⟩)
  clear cc_4 cc_13 cc_14 cc_15 cc_16 cc_17 cc_18 cc_19
  clear cc13
  have hsz := hb.size
  (try simp at hsz)
  replace cc := cellsAt_keep (cellsAt_set cc (by omega) _) hb
  replace oz := OutZ.below (OutZ.set oz (by omega) _) hb
  replace xq0 : w8.cell? ⟨w5.heap.size, 0, none⟩ = some (.int .i64 t.1) := cel_below hb (World.cell?_setCell_same _ _ _ xq0)
  replace xq1 : w8.cell? ⟨w5.heap.size, 1, none⟩ = some (.int .i64 0) := cel_below hb (keepA_ xq1 (by omega))
  replace xq2 : w8.cell? ⟨w5.heap.size, 2, none⟩ = some (.int .i64 (s.1 / 4)) := cel_below hb (keepA_ xq2 (by omega))
  replace xf : ∀ o, w8.frozen? ⟨w5.heap.size, o, none⟩ = false := fun o => fro_below hb (by first | omega | (simp; done) | (simp; omega)) ((World.frozen?_setCell _ _ _ _).trans (xf o))
  replace ccz : w.heap.size < w8.heap.size := by omega
  replace ozz : w.heap.size + 1 < w8.heap.size := by omega
  replace xz : w5.heap.size < w8.heap.size := by omega
  have h8 := runAt_keep (runAt_set h7 (by omega) _) hb
  replace G := gb_trans (gb_set G (Or.inr (by first | exact Nat.le_refl _ | (dsimp only; omega))) _) (gb_of_below (some g) hb)
  clear hb hsz
  replace hS0 := G.size
  have cc_4 : w8.cell? ⟨w.heap.size, 4, none⟩ = some (.int .i64 L.c.m) := cc 4 _ rfl
  have cc_13 : w8.cell? ⟨w.heap.size, 13, none⟩ = some (.int .i64 me) := cc 13 _ rfl
  have cc_14 : w8.cell? ⟨w.heap.size, 14, none⟩ = some (.int .i64 other) := cc 14 _ rfl
  have cc_15 : w8.cell? ⟨w.heap.size, 15, none⟩ = some (.bool true) := cc 15 _ rfl
  have cc_16 : w8.cell? ⟨w.heap.size, 16, none⟩ = some (.int .i64 m.s) := cc 16 _ rfl
  have cc_17 : w8.cell? ⟨w.heap.size, 17, none⟩ = some (.int .i64 m.k) := cc 17 _ rfl
  have cc_18 : w8.cell? ⟨w.heap.size, 18, none⟩ = some (.int .i64 m.a) := cc 18 _ rfl
  have cc_19 : w8.cell? ⟨w.heap.size, 19, none⟩ = some (.func (.func 30) #[] #[]) := cc 19 _ rfl
  have cc13 : CellsAt w8 (w.heap.size) [.int .i64 L.c.t, .int .i64 L.c.l, .int .i64 L.c.k, .int .i64 L.c.s, .int .i64 L.c.m, .int .i64 L.clock, .int .i64 L.stamps, .int .i64 L.log, .int .i64 L.fin, .int .i64 L.thread, .int .i64 L.lock, .int .i64 L.loc, .int .i64 L.size] := cellsAt_take 13 cc
  go_wp2_with (first | ((with_reducible refine wp_ld_lay ?hw13_267 ?x13_267 ?ho13_267 (w.heap.size) 0 ?hx13_267 [.int .i64 L.c.t, .int .i64 L.c.l, .int .i64 L.c.k, .int .i64 L.c.s, .int .i64 L.c.m, .int .i64 L.clock, .int .i64 L.stamps, .int .i64 L.log, .int .i64 L.fin, .int .i64 L.thread, .int .i64 L.lock, .int .i64 L.loc, .int .i64 L.size] rfl (rangeAt_of cc13) ?hh13_267); (case ho13_267 => exact rfl); (case hx13_267 => exact rfl); (case hw13_267 => exact rfl)) | ((with_reducible refine wp_ld_case ?hw20_268 ?x20_268 ?ho20_268 (w.heap.size) 0 ?hx20_268 [.int .i64 L.c.t, .int .i64 L.c.l, .int .i64 L.c.k, .int .i64 L.c.s, .int .i64 L.c.m, .int .i64 L.clock, .int .i64 L.stamps, .int .i64 L.log, .int .i64 L.fin, .int .i64 L.thread, .int .i64 L.lock, .int .i64 L.loc, .int .i64 L.size, .int .i64 me, .int .i64 other, .bool true, .int .i64 m.s, .int .i64 m.k, .int .i64 m.a, .func (.func 30) #[] #[]] rfl (rangeAt_of cc) ?hh20_268); (case ho20_268 => exact rfl); (case hx20_268 => exact rfl); (case hw20_268 => exact rfl)))
  ((with_reducible refine (load_some _ g _ _ _ h8).mono ?_); rintro e w9 ⟨rfl, h9, hb⟩)
  clear cc_4 cc_13 cc_14 cc_15 cc_16 cc_17 cc_18 cc_19
  clear cc13
  have hsz := hb.size
  (try simp at hsz)
  replace cc := cellsAt_gb cc hb (by omega)
  replace oz := OutZ.gb oz hb (by omega)
  replace xq0 : w9.cell? ⟨w5.heap.size, 0, none⟩ = some (.int .i64 t.1) := gbc hb xq0 (by omega)
  replace xq1 : w9.cell? ⟨w5.heap.size, 1, none⟩ = some (.int .i64 0) := gbc hb xq1 (by omega)
  replace xq2 : w9.cell? ⟨w5.heap.size, 2, none⟩ = some (.int .i64 (s.1 / 4)) := gbc hb xq2 (by omega)
  replace xf : ∀ o, w9.frozen? ⟨w5.heap.size, o, none⟩ = false := fun o => gbf hb (by first | omega | (simp; done) | (simp; omega)) (by omega) (xf o)
  replace ccz : w.heap.size < w9.heap.size := by omega
  replace ozz : w.heap.size + 1 < w9.heap.size := by omega
  replace xz : w5.heap.size < w9.heap.size := by omega
  replace G := gb_trans G hb
  clear hb hsz
  replace hS0 := G.size
  have cc_4 : w9.cell? ⟨w.heap.size, 4, none⟩ = some (.int .i64 L.c.m) := cc 4 _ rfl
  have cc_13 : w9.cell? ⟨w.heap.size, 13, none⟩ = some (.int .i64 me) := cc 13 _ rfl
  have cc_14 : w9.cell? ⟨w.heap.size, 14, none⟩ = some (.int .i64 other) := cc 14 _ rfl
  have cc_15 : w9.cell? ⟨w.heap.size, 15, none⟩ = some (.bool true) := cc 15 _ rfl
  have cc_16 : w9.cell? ⟨w.heap.size, 16, none⟩ = some (.int .i64 m.s) := cc 16 _ rfl
  have cc_17 : w9.cell? ⟨w.heap.size, 17, none⟩ = some (.int .i64 m.k) := cc 17 _ rfl
  have cc_18 : w9.cell? ⟨w.heap.size, 18, none⟩ = some (.int .i64 m.a) := cc 18 _ rfl
  have cc_19 : w9.cell? ⟨w.heap.size, 19, none⟩ = some (.func (.func 30) #[] #[]) := cc 19 _ rfl
  have cc13 : CellsAt w9 (w.heap.size) [.int .i64 L.c.t, .int .i64 L.c.l, .int .i64 L.c.k, .int .i64 L.c.s, .int .i64 L.c.m, .int .i64 L.clock, .int .i64 L.stamps, .int .i64 L.log, .int .i64 L.fin, .int .i64 L.thread, .int .i64 L.lock, .int .i64 L.loc, .int .i64 L.size] := cellsAt_take 13 cc
  go_wp2_with (first | ((with_reducible refine wp_ld_lay ?hw13_269 ?x13_269 ?ho13_269 (w.heap.size) 0 ?hx13_269 [.int .i64 L.c.t, .int .i64 L.c.l, .int .i64 L.c.k, .int .i64 L.c.s, .int .i64 L.c.m, .int .i64 L.clock, .int .i64 L.stamps, .int .i64 L.log, .int .i64 L.fin, .int .i64 L.thread, .int .i64 L.lock, .int .i64 L.loc, .int .i64 L.size] rfl (rangeAt_of (cellsAt_set cc13 (by omega) _)) ?hh13_269); (case ho13_269 => exact rfl); (case hx13_269 => exact rfl); (case hw13_269 => exact rfl)) | ((with_reducible refine wp_ld_case ?hw20_270 ?x20_270 ?ho20_270 (w.heap.size) 0 ?hx20_270 [.int .i64 L.c.t, .int .i64 L.c.l, .int .i64 L.c.k, .int .i64 L.c.s, .int .i64 L.c.m, .int .i64 L.clock, .int .i64 L.stamps, .int .i64 L.log, .int .i64 L.fin, .int .i64 L.thread, .int .i64 L.lock, .int .i64 L.loc, .int .i64 L.size, .int .i64 me, .int .i64 other, .bool true, .int .i64 m.s, .int .i64 m.k, .int .i64 m.a, .func (.func 30) #[] #[]] rfl (rangeAt_of (cellsAt_set cc (by omega) _)) ?hh20_270); (case ho20_270 => exact rfl); (case hx20_270 => exact rfl); (case hw20_270 => exact rfl)))
  ((with_reducible refine (HC.out _).mono ?_); rintro e w10 ⟨rfl, hb⟩)
  clear cc_4 cc_13 cc_14 cc_15 cc_16 cc_17 cc_18 cc_19
  clear cc13
  have hsz := hb.size
  (try simp at hsz)
  replace cc := cellsAt_keep (cellsAt_set cc (by omega) _) hb
  replace oz := OutZ.below (OutZ.set oz (by omega) _) hb
  replace xq0 : w10.cell? ⟨w5.heap.size, 0, none⟩ = some (.int .i64 t.1) := cel_below hb (keepA_ xq0 (by omega))
  replace xq1 : w10.cell? ⟨w5.heap.size, 1, none⟩ = some (.int .i64 k.1) := cel_below hb (World.cell?_setCell_same _ _ _ xq1)
  replace xq2 : w10.cell? ⟨w5.heap.size, 2, none⟩ = some (.int .i64 (s.1 / 4)) := cel_below hb (keepA_ xq2 (by omega))
  replace xf : ∀ o, w10.frozen? ⟨w5.heap.size, o, none⟩ = false := fun o => fro_below hb (by first | omega | (simp; done) | (simp; omega)) ((World.frozen?_setCell _ _ _ _).trans (xf o))
  replace ccz : w.heap.size < w10.heap.size := by omega
  replace ozz : w.heap.size + 1 < w10.heap.size := by omega
  replace xz : w5.heap.size < w10.heap.size := by omega
  have h10 := runAt_keep (runAt_set h9 (by omega) _) hb
  replace G := gb_trans (gb_set G (Or.inr (by first | exact Nat.le_refl _ | (dsimp only; omega))) _) (gb_of_below (some g) hb)
  clear hb hsz
  replace hS0 := G.size
  have cc_4 : w10.cell? ⟨w.heap.size, 4, none⟩ = some (.int .i64 L.c.m) := cc 4 _ rfl
  have cc_13 : w10.cell? ⟨w.heap.size, 13, none⟩ = some (.int .i64 me) := cc 13 _ rfl
  have cc_14 : w10.cell? ⟨w.heap.size, 14, none⟩ = some (.int .i64 other) := cc 14 _ rfl
  have cc_15 : w10.cell? ⟨w.heap.size, 15, none⟩ = some (.bool true) := cc 15 _ rfl
  have cc_16 : w10.cell? ⟨w.heap.size, 16, none⟩ = some (.int .i64 m.s) := cc 16 _ rfl
  have cc_17 : w10.cell? ⟨w.heap.size, 17, none⟩ = some (.int .i64 m.k) := cc 17 _ rfl
  have cc_18 : w10.cell? ⟨w.heap.size, 18, none⟩ = some (.int .i64 m.a) := cc 18 _ rfl
  have cc_19 : w10.cell? ⟨w.heap.size, 19, none⟩ = some (.func (.func 30) #[] #[]) := cc 19 _ rfl
  have cc13 : CellsAt w10 (w.heap.size) [.int .i64 L.c.t, .int .i64 L.c.l, .int .i64 L.c.k, .int .i64 L.c.s, .int .i64 L.c.m, .int .i64 L.clock, .int .i64 L.stamps, .int .i64 L.log, .int .i64 L.fin, .int .i64 L.thread, .int .i64 L.lock, .int .i64 L.loc, .int .i64 L.size] := cellsAt_take 13 cc
  go_wp2_with (first | ((with_reducible refine wp_ld_lay ?hw13_271 ?x13_271 ?ho13_271 (w.heap.size) 0 ?hx13_271 [.int .i64 L.c.t, .int .i64 L.c.l, .int .i64 L.c.k, .int .i64 L.c.s, .int .i64 L.c.m, .int .i64 L.clock, .int .i64 L.stamps, .int .i64 L.log, .int .i64 L.fin, .int .i64 L.thread, .int .i64 L.lock, .int .i64 L.loc, .int .i64 L.size] rfl (rangeAt_of cc13) ?hh13_271); (case ho13_271 => exact rfl); (case hx13_271 => exact rfl); (case hw13_271 => exact rfl)) | ((with_reducible refine wp_ld_case ?hw20_272 ?x20_272 ?ho20_272 (w.heap.size) 0 ?hx20_272 [.int .i64 L.c.t, .int .i64 L.c.l, .int .i64 L.c.k, .int .i64 L.c.s, .int .i64 L.c.m, .int .i64 L.clock, .int .i64 L.stamps, .int .i64 L.log, .int .i64 L.fin, .int .i64 L.thread, .int .i64 L.lock, .int .i64 L.loc, .int .i64 L.size, .int .i64 me, .int .i64 other, .bool true, .int .i64 m.s, .int .i64 m.k, .int .i64 m.a, .func (.func 30) #[] #[]] rfl (rangeAt_of cc) ?hh20_272); (case ho20_272 => exact rfl); (case hx20_272 => exact rfl); (case hw20_272 => exact rfl)))
  ((with_reducible refine (HD.out _ h10).mono ?_); rintro e w11 ⟨rfl, hb⟩)
  clear cc_4 cc_13 cc_14 cc_15 cc_16 cc_17 cc_18 cc_19
  clear cc13
  have hsz := hb.size
  (try simp at hsz)
  replace cc := cellsAt_gb cc hb (by omega)
  replace oz := OutZ.gb oz hb (by omega)
  replace xq0 : w11.cell? ⟨w5.heap.size, 0, none⟩ = some (.int .i64 t.1) := gbc hb xq0 (by omega)
  replace xq1 : w11.cell? ⟨w5.heap.size, 1, none⟩ = some (.int .i64 k.1) := gbc hb xq1 (by omega)
  replace xq2 : w11.cell? ⟨w5.heap.size, 2, none⟩ = some (.int .i64 (s.1 / 4)) := gbc hb xq2 (by omega)
  replace xf : ∀ o, w11.frozen? ⟨w5.heap.size, o, none⟩ = false := fun o => gbf hb (by first | omega | (simp; done) | (simp; omega)) (by omega) (xf o)
  replace ccz : w.heap.size < w11.heap.size := by omega
  replace ozz : w.heap.size + 1 < w11.heap.size := by omega
  replace xz : w5.heap.size < w11.heap.size := by omega
  replace G := gb_trans G hb
  clear hb hsz
  replace hS0 := G.size
  have cc_4 : w11.cell? ⟨w.heap.size, 4, none⟩ = some (.int .i64 L.c.m) := cc 4 _ rfl
  have cc_13 : w11.cell? ⟨w.heap.size, 13, none⟩ = some (.int .i64 me) := cc 13 _ rfl
  have cc_14 : w11.cell? ⟨w.heap.size, 14, none⟩ = some (.int .i64 other) := cc 14 _ rfl
  have cc_15 : w11.cell? ⟨w.heap.size, 15, none⟩ = some (.bool true) := cc 15 _ rfl
  have cc_16 : w11.cell? ⟨w.heap.size, 16, none⟩ = some (.int .i64 m.s) := cc 16 _ rfl
  have cc_17 : w11.cell? ⟨w.heap.size, 17, none⟩ = some (.int .i64 m.k) := cc 17 _ rfl
  have cc_18 : w11.cell? ⟨w.heap.size, 18, none⟩ = some (.int .i64 m.a) := cc 18 _ rfl
  have cc_19 : w11.cell? ⟨w.heap.size, 19, none⟩ = some (.func (.func 30) #[] #[]) := cc 19 _ rfl
  have cc13 : CellsAt w11 (w.heap.size) [.int .i64 L.c.t, .int .i64 L.c.l, .int .i64 L.c.k, .int .i64 L.c.s, .int .i64 L.c.m, .int .i64 L.clock, .int .i64 L.stamps, .int .i64 L.log, .int .i64 L.fin, .int .i64 L.thread, .int .i64 L.lock, .int .i64 L.loc, .int .i64 L.size] := cellsAt_take 13 cc
  have oq0 := oz.c0
  have oq1 := oz.c1
  have oq2 := oz.c2
  have oq3 := oz.c3
  have oq4 := oz.c4
  have oq5 := oz.c5
  have oq6 := oz.c6
  have of := oz.fr
  go_wp2_with (first | ((with_reducible refine wp_ld_lay ?hw13_273 ?x13_273 ?ho13_273 (w.heap.size) 0 ?hx13_273 [.int .i64 L.c.t, .int .i64 L.c.l, .int .i64 L.c.k, .int .i64 L.c.s, .int .i64 L.c.m, .int .i64 L.clock, .int .i64 L.stamps, .int .i64 L.log, .int .i64 L.fin, .int .i64 L.thread, .int .i64 L.lock, .int .i64 L.loc, .int .i64 L.size] rfl (rangeAt_of cc13) ?hh13_273); (case ho13_273 => exact rfl); (case hx13_273 => exact rfl); (case hw13_273 => exact rfl)) | ((with_reducible refine wp_ld_case ?hw20_274 ?x20_274 ?ho20_274 (w.heap.size) 0 ?hx20_274 [.int .i64 L.c.t, .int .i64 L.c.l, .int .i64 L.c.k, .int .i64 L.c.s, .int .i64 L.c.m, .int .i64 L.clock, .int .i64 L.stamps, .int .i64 L.log, .int .i64 L.fin, .int .i64 L.thread, .int .i64 L.lock, .int .i64 L.loc, .int .i64 L.size, .int .i64 me, .int .i64 other, .bool true, .int .i64 m.s, .int .i64 m.k, .int .i64 m.a, .func (.func 30) #[] #[]] rfl (rangeAt_of cc) ?hh20_274); (case ho20_274 => exact rfl); (case hx20_274 => exact rfl); (case hw20_274 => exact rfl)))
  obtain ⟨W, hW, k0, k1, k2, k3, k4, k5, k6⟩ := outs_at oz (.int .i64 o.val) (.int .i64 o.ver) (.int .i64 o.rv) (.int .i64 o.st) (.bool o.ok) (.bool o.lost) (.int .i64 o.err)
  rw [← hW]
  simp [bodyPost, results, Try.results61, go_sem, k0, k1, k2, k3, k4, k5, k6, OutD.v]
  rw [hW]
  exact gb_outs G (by first | exact Nat.le_refl _ | omega) _ _ _ _ _ _ _

theorem res_tpend (w : World) (g : Nat) (L : Ly) (hok : L.ok) (me other : Int) (m : Ct) (r : Int × Bool) (s t k : Int × Bool) (l : List (Int × Bool)) (a : Ask) (h0 : RunAt w g (r :: s :: t :: k :: l)) (hr : ¬r.1 % 4 = 3) (hi : I64 s.1) (hs : ¬s.1 % 4 = 0) (hc : chooseD L.c.m m ⟨t.1, k.1, s.1 / 4⟩ = 2) (hd : (doomT L other s.1).run l = .inl a) :
    Calls Try.prog 61 #[caseV L me other true m, .pointer (some ⟨g, 0, none⟩)] w fun e w' => e = .panicked [{ v := .iface 124 a.v, recovered := false }] ∧ w.grownBy w' (some g) := by
  unfold caseV
  have HM : Hid (∀ w, Calls Try.prog 38 #[L.v, .int .i64 me] w fun e w' => e = .returned (.int .i64 (atStatus L me)) ∧ Below w.heap.size w w') := Lib.hid (fun w => status_any L me w hok)
  have HS : Hid (∀ w, Calls Try.prog 38 #[L.v, .int .i64 other] w fun e w' => e = .returned (.int .i64 (atStatus L other)) ∧ Below w.heap.size w w') := Lib.hid (fun w => status_any L other w hok)
  have HT : Hid (∀ w, Calls Try.prog 64 #[L.v, .int .i64 other] w fun e w' => e = .returned (.int .i64 (atStamp L other)) ∧ Below w.heap.size w w') := Lib.hid (fun w => stamp_any L other w hok)
  have HK : Hid (∀ w, Calls Try.prog 65 #[L.v, .int .i64 other] w fun e w' => e = .returned (.int .i64 (atKarma L other)) ∧ Below w.heap.size w w') := Lib.hid (fun w => karma_any L other w hok)
  unfold Ly.v at HM HS HT HK
  have hq : (r.1 % 4 == 3) = false := by simp [hr]
  have hs0 : (s.1 % 4 == 0) = false := by simp [hs]
  have HC : Hid (∀ w, Calls Try.prog 30 #[.int .i64 L.c.m, m.v, Ct.v ⟨t.1, k.1, s.1 / 4⟩] w fun e w' => e = .returned (.int .i64 2) ∧ Below w.heap.size w w') := Lib.hid (fun w => by rw [← hc]; exact choose_any _ _ _ w)
  unfold Ct.v at HC
  have HD : Hid (∀ w, RunAt w g l → Calls Try.prog 91 #[caseV L me other true m, .pointer (some ⟨g, 0, none⟩), .int .i64 s.1] w fun e w' => e = .panicked [{ v := .iface 124 a.v, recovered := false }] ∧ w.grownBy w' (some g)) := Lib.hid (fun w h => by have := doom_any w g L hok me other true m s.1 hi l h; rw [hd] at this; exact this)
  unfold caseV at HD
  have hg0 := runAt_lt h0
  have G : w.grownBy w (some g) := gb_refl _ _
  have hS0 : w.heap.size + 0 ≤ w.heap.size := Nat.le_refl _
  go_enter Try.func61, Try.ntmps61
  go_wp2_with fail
  obtain ⟨w1, hwr⟩ : ∃ W, W = ((w.alloc (.cells #[.int .i64 L.c.t, .int .i64 L.c.l, .int .i64 L.c.k, .int .i64 L.c.s, .int .i64 L.c.m, .int .i64 L.clock, .int .i64 L.stamps, .int .i64 L.log, .int .i64 L.fin, .int .i64 L.thread, .int .i64 L.lock, .int .i64 L.loc, .int .i64 L.size, .int .i64 me, .int .i64 other, .bool true, .int .i64 m.s, .int .i64 m.k, .int .i64 m.a, .func (.func 30) #[] #[]] 119)).alloc (.cells #[.int .i64 0, .int .i64 0, .int .i64 0, .int .i64 0, .bool false, .bool false, .int .i64 0] 35)) := ⟨_, rfl⟩
  rw [← hwr]
  have hb : Below w.heap.size w w1 := by rw [hwr]; exact (Below.alloc (Below.alloc (Below.refl _ _) (by first | exact Nat.le_refl _ | (simp; omega) | simp) _) (by first | exact Nat.le_refl _ | (simp; omega) | simp) _)
  have cc : CellsAt w1 (w.heap.size) [.int .i64 L.c.t, .int .i64 L.c.l, .int .i64 L.c.k, .int .i64 L.c.s, .int .i64 L.c.m, .int .i64 L.clock, .int .i64 L.stamps, .int .i64 L.log, .int .i64 L.fin, .int .i64 L.thread, .int .i64 L.lock, .int .i64 L.loc, .int .i64 L.size, .int .i64 me, .int .i64 other, .bool true, .int .i64 m.s, .int .i64 m.k, .int .i64 m.a, .func (.func 30) #[] #[]] := by rw [hwr]; exact (cellsAt_alloc (cellsAt_new' w _ _ (w.heap.size) (by simp)) _)
  have ccz : w.heap.size < w1.heap.size := World.block_lt_of_cell? _ _ (cc 0 _ rfl)
  have oz : OutZ w1 (w.heap.size + 1) := by rw [hwr]; exact (OutZ.new' (w.alloc (.cells #[.int .i64 L.c.t, .int .i64 L.c.l, .int .i64 L.c.k, .int .i64 L.c.s, .int .i64 L.c.m, .int .i64 L.clock, .int .i64 L.stamps, .int .i64 L.log, .int .i64 L.fin, .int .i64 L.thread, .int .i64 L.lock, .int .i64 L.loc, .int .i64 L.size, .int .i64 me, .int .i64 other, .bool true, .int .i64 m.s, .int .i64 m.k, .int .i64 m.a, .func (.func 30) #[] #[]] 119)) _ (w.heap.size + 1) (by simp))
  have ozz : w.heap.size + 1 < w1.heap.size := OutZ.lt oz
  have h1 := runAt_keep h0 hb
  replace G := gb_trans G (gb_of_below (some g) hb)
  clear hb hwr
  replace hS0 := G.size
  have cc_4 : w1.cell? ⟨w.heap.size, 4, none⟩ = some (.int .i64 L.c.m) := cc 4 _ rfl
  have cc_13 : w1.cell? ⟨w.heap.size, 13, none⟩ = some (.int .i64 me) := cc 13 _ rfl
  have cc_14 : w1.cell? ⟨w.heap.size, 14, none⟩ = some (.int .i64 other) := cc 14 _ rfl
  have cc_15 : w1.cell? ⟨w.heap.size, 15, none⟩ = some (.bool true) := cc 15 _ rfl
  have cc_16 : w1.cell? ⟨w.heap.size, 16, none⟩ = some (.int .i64 m.s) := cc 16 _ rfl
  have cc_17 : w1.cell? ⟨w.heap.size, 17, none⟩ = some (.int .i64 m.k) := cc 17 _ rfl
  have cc_18 : w1.cell? ⟨w.heap.size, 18, none⟩ = some (.int .i64 m.a) := cc 18 _ rfl
  have cc_19 : w1.cell? ⟨w.heap.size, 19, none⟩ = some (.func (.func 30) #[] #[]) := cc 19 _ rfl
  have cc13 : CellsAt w1 (w.heap.size) [.int .i64 L.c.t, .int .i64 L.c.l, .int .i64 L.c.k, .int .i64 L.c.s, .int .i64 L.c.m, .int .i64 L.clock, .int .i64 L.stamps, .int .i64 L.log, .int .i64 L.fin, .int .i64 L.thread, .int .i64 L.lock, .int .i64 L.loc, .int .i64 L.size] := cellsAt_take 13 cc
  go_wp2_with (first | ((with_reducible refine wp_ld_lay ?hw13_275 ?x13_275 ?ho13_275 (w.heap.size) 0 ?hx13_275 [.int .i64 L.c.t, .int .i64 L.c.l, .int .i64 L.c.k, .int .i64 L.c.s, .int .i64 L.c.m, .int .i64 L.clock, .int .i64 L.stamps, .int .i64 L.log, .int .i64 L.fin, .int .i64 L.thread, .int .i64 L.lock, .int .i64 L.loc, .int .i64 L.size] rfl (rangeAt_of cc13) ?hh13_275); (case ho13_275 => exact rfl); (case hx13_275 => exact rfl); (case hw13_275 => exact rfl)) | ((with_reducible refine wp_ld_case ?hw20_276 ?x20_276 ?ho20_276 (w.heap.size) 0 ?hx20_276 [.int .i64 L.c.t, .int .i64 L.c.l, .int .i64 L.c.k, .int .i64 L.c.s, .int .i64 L.c.m, .int .i64 L.clock, .int .i64 L.stamps, .int .i64 L.log, .int .i64 L.fin, .int .i64 L.thread, .int .i64 L.lock, .int .i64 L.loc, .int .i64 L.size, .int .i64 me, .int .i64 other, .bool true, .int .i64 m.s, .int .i64 m.k, .int .i64 m.a, .func (.func 30) #[] #[]] rfl (rangeAt_of cc) ?hh20_276); (case ho20_276 => exact rfl); (case hx20_276 => exact rfl); (case hw20_276 => exact rfl)))
  ((with_reducible refine (HM.out _).mono ?_); rintro e w2 ⟨rfl, hb⟩)
  clear cc_4 cc_13 cc_14 cc_15 cc_16 cc_17 cc_18 cc_19
  clear cc13
  have hsz := hb.size
  (try simp at hsz)
  replace cc := cellsAt_keep cc hb
  replace oz := OutZ.below oz hb
  replace ccz : w.heap.size < w2.heap.size := by omega
  replace ozz : w.heap.size + 1 < w2.heap.size := by omega
  have h2 := runAt_keep h1 hb
  replace G := gb_trans G (gb_of_below (some g) hb)
  clear hb hsz
  replace hS0 := G.size
  have cc_4 : w2.cell? ⟨w.heap.size, 4, none⟩ = some (.int .i64 L.c.m) := cc 4 _ rfl
  have cc_13 : w2.cell? ⟨w.heap.size, 13, none⟩ = some (.int .i64 me) := cc 13 _ rfl
  have cc_14 : w2.cell? ⟨w.heap.size, 14, none⟩ = some (.int .i64 other) := cc 14 _ rfl
  have cc_15 : w2.cell? ⟨w.heap.size, 15, none⟩ = some (.bool true) := cc 15 _ rfl
  have cc_16 : w2.cell? ⟨w.heap.size, 16, none⟩ = some (.int .i64 m.s) := cc 16 _ rfl
  have cc_17 : w2.cell? ⟨w.heap.size, 17, none⟩ = some (.int .i64 m.k) := cc 17 _ rfl
  have cc_18 : w2.cell? ⟨w.heap.size, 18, none⟩ = some (.int .i64 m.a) := cc 18 _ rfl
  have cc_19 : w2.cell? ⟨w.heap.size, 19, none⟩ = some (.func (.func 30) #[] #[]) := cc 19 _ rfl
  have cc13 : CellsAt w2 (w.heap.size) [.int .i64 L.c.t, .int .i64 L.c.l, .int .i64 L.c.k, .int .i64 L.c.s, .int .i64 L.c.m, .int .i64 L.clock, .int .i64 L.stamps, .int .i64 L.log, .int .i64 L.fin, .int .i64 L.thread, .int .i64 L.lock, .int .i64 L.loc, .int .i64 L.size] := cellsAt_take 13 cc
  go_wp2_with (first | ((with_reducible refine wp_ld_lay ?hw13_277 ?x13_277 ?ho13_277 (w.heap.size) 0 ?hx13_277 [.int .i64 L.c.t, .int .i64 L.c.l, .int .i64 L.c.k, .int .i64 L.c.s, .int .i64 L.c.m, .int .i64 L.clock, .int .i64 L.stamps, .int .i64 L.log, .int .i64 L.fin, .int .i64 L.thread, .int .i64 L.lock, .int .i64 L.loc, .int .i64 L.size] rfl (rangeAt_of cc13) ?hh13_277); (case ho13_277 => exact rfl); (case hx13_277 => exact rfl); (case hw13_277 => exact rfl)) | ((with_reducible refine wp_ld_case ?hw20_278 ?x20_278 ?ho20_278 (w.heap.size) 0 ?hx20_278 [.int .i64 L.c.t, .int .i64 L.c.l, .int .i64 L.c.k, .int .i64 L.c.s, .int .i64 L.c.m, .int .i64 L.clock, .int .i64 L.stamps, .int .i64 L.log, .int .i64 L.fin, .int .i64 L.thread, .int .i64 L.lock, .int .i64 L.loc, .int .i64 L.size, .int .i64 me, .int .i64 other, .bool true, .int .i64 m.s, .int .i64 m.k, .int .i64 m.a, .func (.func 30) #[] #[]] rfl (rangeAt_of cc) ?hh20_278); (case ho20_278 => exact rfl); (case hx20_278 => exact rfl); (case hw20_278 => exact rfl)))
  ((with_reducible refine (load_some _ g _ _ _ h2).mono ?_); rintro e w3 ⟨rfl, h3, hb⟩)
  clear cc_4 cc_13 cc_14 cc_15 cc_16 cc_17 cc_18 cc_19
  clear cc13
  have hsz := hb.size
  (try simp at hsz)
  replace cc := cellsAt_gb cc hb (by omega)
  replace oz := OutZ.gb oz hb (by omega)
  replace ccz : w.heap.size < w3.heap.size := by omega
  replace ozz : w.heap.size + 1 < w3.heap.size := by omega
  replace G := gb_trans G hb
  clear hb hsz
  replace hS0 := G.size
  have cc_4 : w3.cell? ⟨w.heap.size, 4, none⟩ = some (.int .i64 L.c.m) := cc 4 _ rfl
  have cc_13 : w3.cell? ⟨w.heap.size, 13, none⟩ = some (.int .i64 me) := cc 13 _ rfl
  have cc_14 : w3.cell? ⟨w.heap.size, 14, none⟩ = some (.int .i64 other) := cc 14 _ rfl
  have cc_15 : w3.cell? ⟨w.heap.size, 15, none⟩ = some (.bool true) := cc 15 _ rfl
  have cc_16 : w3.cell? ⟨w.heap.size, 16, none⟩ = some (.int .i64 m.s) := cc 16 _ rfl
  have cc_17 : w3.cell? ⟨w.heap.size, 17, none⟩ = some (.int .i64 m.k) := cc 17 _ rfl
  have cc_18 : w3.cell? ⟨w.heap.size, 18, none⟩ = some (.int .i64 m.a) := cc 18 _ rfl
  have cc_19 : w3.cell? ⟨w.heap.size, 19, none⟩ = some (.func (.func 30) #[] #[]) := cc 19 _ rfl
  have cc13 : CellsAt w3 (w.heap.size) [.int .i64 L.c.t, .int .i64 L.c.l, .int .i64 L.c.k, .int .i64 L.c.s, .int .i64 L.c.m, .int .i64 L.clock, .int .i64 L.stamps, .int .i64 L.log, .int .i64 L.fin, .int .i64 L.thread, .int .i64 L.lock, .int .i64 L.loc, .int .i64 L.size] := cellsAt_take 13 cc
  go_wp2_with (first | ((with_reducible refine wp_ld_lay ?hw13_279 ?x13_279 ?ho13_279 (w.heap.size) 0 ?hx13_279 [.int .i64 L.c.t, .int .i64 L.c.l, .int .i64 L.c.k, .int .i64 L.c.s, .int .i64 L.c.m, .int .i64 L.clock, .int .i64 L.stamps, .int .i64 L.log, .int .i64 L.fin, .int .i64 L.thread, .int .i64 L.lock, .int .i64 L.loc, .int .i64 L.size] rfl (rangeAt_of cc13) ?hh13_279); (case ho13_279 => exact rfl); (case hx13_279 => exact rfl); (case hw13_279 => exact rfl)) | ((with_reducible refine wp_ld_case ?hw20_280 ?x20_280 ?ho20_280 (w.heap.size) 0 ?hx20_280 [.int .i64 L.c.t, .int .i64 L.c.l, .int .i64 L.c.k, .int .i64 L.c.s, .int .i64 L.c.m, .int .i64 L.clock, .int .i64 L.stamps, .int .i64 L.log, .int .i64 L.fin, .int .i64 L.thread, .int .i64 L.lock, .int .i64 L.loc, .int .i64 L.size, .int .i64 me, .int .i64 other, .bool true, .int .i64 m.s, .int .i64 m.k, .int .i64 m.a, .func (.func 30) #[] #[]] rfl (rangeAt_of cc) ?hh20_280); (case ho20_280 => exact rfl); (case hx20_280 => exact rfl); (case hw20_280 => exact rfl)))
  ((with_reducible refine (kind_any _ _).mono ?_); rintro e w' ⟨rfl, rfl⟩)
  clear cc13
  have cc13 : CellsAt w3 (w.heap.size) [.int .i64 L.c.t, .int .i64 L.c.l, .int .i64 L.c.k, .int .i64 L.c.s, .int .i64 L.c.m, .int .i64 L.clock, .int .i64 L.stamps, .int .i64 L.log, .int .i64 L.fin, .int .i64 L.thread, .int .i64 L.lock, .int .i64 L.loc, .int .i64 L.size] := cellsAt_take 13 cc
  go_wp2_with (first | ((with_reducible refine wp_ld_lay ?hw13_281 ?x13_281 ?ho13_281 (w.heap.size) 0 ?hx13_281 [.int .i64 L.c.t, .int .i64 L.c.l, .int .i64 L.c.k, .int .i64 L.c.s, .int .i64 L.c.m, .int .i64 L.clock, .int .i64 L.stamps, .int .i64 L.log, .int .i64 L.fin, .int .i64 L.thread, .int .i64 L.lock, .int .i64 L.loc, .int .i64 L.size] rfl (rangeAt_of cc13) ?hh13_281); (case ho13_281 => exact rfl); (case hx13_281 => exact rfl); (case hw13_281 => exact rfl)) | ((with_reducible refine wp_ld_case ?hw20_282 ?x20_282 ?ho20_282 (w.heap.size) 0 ?hx20_282 [.int .i64 L.c.t, .int .i64 L.c.l, .int .i64 L.c.k, .int .i64 L.c.s, .int .i64 L.c.m, .int .i64 L.clock, .int .i64 L.stamps, .int .i64 L.log, .int .i64 L.fin, .int .i64 L.thread, .int .i64 L.lock, .int .i64 L.loc, .int .i64 L.size, .int .i64 me, .int .i64 other, .bool true, .int .i64 m.s, .int .i64 m.k, .int .i64 m.a, .func (.func 30) #[] #[]] rfl (rangeAt_of cc) ?hh20_282); (case ho20_282 => exact rfl); (case hx20_282 => exact rfl); (case hw20_282 => exact rfl)))
  ((with_reducible refine (HS.out _).mono ?_); rintro e w4 ⟨rfl, hb⟩)
  clear cc_4 cc_13 cc_14 cc_15 cc_16 cc_17 cc_18 cc_19
  clear cc13
  have hsz := hb.size
  (try simp at hsz)
  replace cc := cellsAt_keep cc hb
  replace oz := OutZ.below oz hb
  replace ccz : w.heap.size < w4.heap.size := by omega
  replace ozz : w.heap.size + 1 < w4.heap.size := by omega
  have h4 := runAt_keep h3 hb
  replace G := gb_trans G (gb_of_below (some g) hb)
  clear hb hsz
  replace hS0 := G.size
  have cc_4 : w4.cell? ⟨w.heap.size, 4, none⟩ = some (.int .i64 L.c.m) := cc 4 _ rfl
  have cc_13 : w4.cell? ⟨w.heap.size, 13, none⟩ = some (.int .i64 me) := cc 13 _ rfl
  have cc_14 : w4.cell? ⟨w.heap.size, 14, none⟩ = some (.int .i64 other) := cc 14 _ rfl
  have cc_15 : w4.cell? ⟨w.heap.size, 15, none⟩ = some (.bool true) := cc 15 _ rfl
  have cc_16 : w4.cell? ⟨w.heap.size, 16, none⟩ = some (.int .i64 m.s) := cc 16 _ rfl
  have cc_17 : w4.cell? ⟨w.heap.size, 17, none⟩ = some (.int .i64 m.k) := cc 17 _ rfl
  have cc_18 : w4.cell? ⟨w.heap.size, 18, none⟩ = some (.int .i64 m.a) := cc 18 _ rfl
  have cc_19 : w4.cell? ⟨w.heap.size, 19, none⟩ = some (.func (.func 30) #[] #[]) := cc 19 _ rfl
  have cc13 : CellsAt w4 (w.heap.size) [.int .i64 L.c.t, .int .i64 L.c.l, .int .i64 L.c.k, .int .i64 L.c.s, .int .i64 L.c.m, .int .i64 L.clock, .int .i64 L.stamps, .int .i64 L.log, .int .i64 L.fin, .int .i64 L.thread, .int .i64 L.lock, .int .i64 L.loc, .int .i64 L.size] := cellsAt_take 13 cc
  go_wp2_with (first | ((with_reducible refine wp_ld_lay ?hw13_283 ?x13_283 ?ho13_283 (w.heap.size) 0 ?hx13_283 [.int .i64 L.c.t, .int .i64 L.c.l, .int .i64 L.c.k, .int .i64 L.c.s, .int .i64 L.c.m, .int .i64 L.clock, .int .i64 L.stamps, .int .i64 L.log, .int .i64 L.fin, .int .i64 L.thread, .int .i64 L.lock, .int .i64 L.loc, .int .i64 L.size] rfl (rangeAt_of cc13) ?hh13_283); (case ho13_283 => exact rfl); (case hx13_283 => exact rfl); (case hw13_283 => exact rfl)) | ((with_reducible refine wp_ld_case ?hw20_284 ?x20_284 ?ho20_284 (w.heap.size) 0 ?hx20_284 [.int .i64 L.c.t, .int .i64 L.c.l, .int .i64 L.c.k, .int .i64 L.c.s, .int .i64 L.c.m, .int .i64 L.clock, .int .i64 L.stamps, .int .i64 L.log, .int .i64 L.fin, .int .i64 L.thread, .int .i64 L.lock, .int .i64 L.loc, .int .i64 L.size, .int .i64 me, .int .i64 other, .bool true, .int .i64 m.s, .int .i64 m.k, .int .i64 m.a, .func (.func 30) #[] #[]] rfl (rangeAt_of cc) ?hh20_284); (case ho20_284 => exact rfl); (case hx20_284 => exact rfl); (case hw20_284 => exact rfl)))
  ((with_reducible refine (load_some _ g _ _ _ h4).mono ?_); rintro e w5 ⟨rfl, h5, hb⟩)
  clear cc_4 cc_13 cc_14 cc_15 cc_16 cc_17 cc_18 cc_19
  clear cc13
  have hsz := hb.size
  (try simp at hsz)
  replace cc := cellsAt_gb cc hb (by omega)
  replace oz := OutZ.gb oz hb (by omega)
  replace ccz : w.heap.size < w5.heap.size := by omega
  replace ozz : w.heap.size + 1 < w5.heap.size := by omega
  replace G := gb_trans G hb
  clear hb hsz
  replace hS0 := G.size
  have cc_4 : w5.cell? ⟨w.heap.size, 4, none⟩ = some (.int .i64 L.c.m) := cc 4 _ rfl
  have cc_13 : w5.cell? ⟨w.heap.size, 13, none⟩ = some (.int .i64 me) := cc 13 _ rfl
  have cc_14 : w5.cell? ⟨w.heap.size, 14, none⟩ = some (.int .i64 other) := cc 14 _ rfl
  have cc_15 : w5.cell? ⟨w.heap.size, 15, none⟩ = some (.bool true) := cc 15 _ rfl
  have cc_16 : w5.cell? ⟨w.heap.size, 16, none⟩ = some (.int .i64 m.s) := cc 16 _ rfl
  have cc_17 : w5.cell? ⟨w.heap.size, 17, none⟩ = some (.int .i64 m.k) := cc 17 _ rfl
  have cc_18 : w5.cell? ⟨w.heap.size, 18, none⟩ = some (.int .i64 m.a) := cc 18 _ rfl
  have cc_19 : w5.cell? ⟨w.heap.size, 19, none⟩ = some (.func (.func 30) #[] #[]) := cc 19 _ rfl
  have cc13 : CellsAt w5 (w.heap.size) [.int .i64 L.c.t, .int .i64 L.c.l, .int .i64 L.c.k, .int .i64 L.c.s, .int .i64 L.c.m, .int .i64 L.clock, .int .i64 L.stamps, .int .i64 L.log, .int .i64 L.fin, .int .i64 L.thread, .int .i64 L.lock, .int .i64 L.loc, .int .i64 L.size] := cellsAt_take 13 cc
  go_wp2_with (first | ((with_reducible refine wp_ld_lay ?hw13_285 ?x13_285 ?ho13_285 (w.heap.size) 0 ?hx13_285 [.int .i64 L.c.t, .int .i64 L.c.l, .int .i64 L.c.k, .int .i64 L.c.s, .int .i64 L.c.m, .int .i64 L.clock, .int .i64 L.stamps, .int .i64 L.log, .int .i64 L.fin, .int .i64 L.thread, .int .i64 L.lock, .int .i64 L.loc, .int .i64 L.size] rfl (rangeAt_of cc13) ?hh13_285); (case ho13_285 => exact rfl); (case hx13_285 => exact rfl); (case hw13_285 => exact rfl)) | ((with_reducible refine wp_ld_case ?hw20_286 ?x20_286 ?ho20_286 (w.heap.size) 0 ?hx20_286 [.int .i64 L.c.t, .int .i64 L.c.l, .int .i64 L.c.k, .int .i64 L.c.s, .int .i64 L.c.m, .int .i64 L.clock, .int .i64 L.stamps, .int .i64 L.log, .int .i64 L.fin, .int .i64 L.thread, .int .i64 L.lock, .int .i64 L.loc, .int .i64 L.size, .int .i64 me, .int .i64 other, .bool true, .int .i64 m.s, .int .i64 m.k, .int .i64 m.a, .func (.func 30) #[] #[]] rfl (rangeAt_of cc) ?hh20_286); (case ho20_286 => exact rfl); (case hx20_286 => exact rfl); (case hw20_286 => exact rfl)))
  ((with_reducible refine (kind_any _ _).mono ?_); rintro e w' ⟨rfl, rfl⟩)
  clear cc13
  have cc13 : CellsAt w5 (w.heap.size) [.int .i64 L.c.t, .int .i64 L.c.l, .int .i64 L.c.k, .int .i64 L.c.s, .int .i64 L.c.m, .int .i64 L.clock, .int .i64 L.stamps, .int .i64 L.log, .int .i64 L.fin, .int .i64 L.thread, .int .i64 L.lock, .int .i64 L.loc, .int .i64 L.size] := cellsAt_take 13 cc
  go_wp2_with (first | ((with_reducible refine wp_ld_lay ?hw13_287 ?x13_287 ?ho13_287 (w.heap.size) 0 ?hx13_287 [.int .i64 L.c.t, .int .i64 L.c.l, .int .i64 L.c.k, .int .i64 L.c.s, .int .i64 L.c.m, .int .i64 L.clock, .int .i64 L.stamps, .int .i64 L.log, .int .i64 L.fin, .int .i64 L.thread, .int .i64 L.lock, .int .i64 L.loc, .int .i64 L.size] rfl (rangeAt_of cc13) ?hh13_287); (case ho13_287 => exact rfl); (case hx13_287 => exact rfl); (case hw13_287 => exact rfl)) | ((with_reducible refine wp_ld_case ?hw20_288 ?x20_288 ?ho20_288 (w.heap.size) 0 ?hx20_288 [.int .i64 L.c.t, .int .i64 L.c.l, .int .i64 L.c.k, .int .i64 L.c.s, .int .i64 L.c.m, .int .i64 L.clock, .int .i64 L.stamps, .int .i64 L.log, .int .i64 L.fin, .int .i64 L.thread, .int .i64 L.lock, .int .i64 L.loc, .int .i64 L.size, .int .i64 me, .int .i64 other, .bool true, .int .i64 m.s, .int .i64 m.k, .int .i64 m.a, .func (.func 30) #[] #[]] rfl (rangeAt_of cc) ?hh20_288); (case ho20_288 => exact rfl); (case hx20_288 => exact rfl); (case hw20_288 => exact rfl)))
  ((with_reducible refine (try_any _ hi _).mono ?_); rintro e w' ⟨rfl, rfl⟩)
  clear cc13
  have cc13 : CellsAt w5 (w.heap.size) [.int .i64 L.c.t, .int .i64 L.c.l, .int .i64 L.c.k, .int .i64 L.c.s, .int .i64 L.c.m, .int .i64 L.clock, .int .i64 L.stamps, .int .i64 L.log, .int .i64 L.fin, .int .i64 L.thread, .int .i64 L.lock, .int .i64 L.loc, .int .i64 L.size] := cellsAt_take 13 cc
  go_wp2_with (first | ((with_reducible refine wp_ld_lay ?hw13_289 ?x13_289 ?ho13_289 (w.heap.size) 0 ?hx13_289 [.int .i64 L.c.t, .int .i64 L.c.l, .int .i64 L.c.k, .int .i64 L.c.s, .int .i64 L.c.m, .int .i64 L.clock, .int .i64 L.stamps, .int .i64 L.log, .int .i64 L.fin, .int .i64 L.thread, .int .i64 L.lock, .int .i64 L.loc, .int .i64 L.size] rfl (rangeAt_of (cellsAt_alloc cc13 _)) ?hh13_289); (case ho13_289 => exact rfl); (case hx13_289 => exact rfl); (case hw13_289 => exact rfl)) | ((with_reducible refine wp_ld_case ?hw20_290 ?x20_290 ?ho20_290 (w.heap.size) 0 ?hx20_290 [.int .i64 L.c.t, .int .i64 L.c.l, .int .i64 L.c.k, .int .i64 L.c.s, .int .i64 L.c.m, .int .i64 L.clock, .int .i64 L.stamps, .int .i64 L.log, .int .i64 L.fin, .int .i64 L.thread, .int .i64 L.lock, .int .i64 L.loc, .int .i64 L.size, .int .i64 me, .int .i64 other, .bool true, .int .i64 m.s, .int .i64 m.k, .int .i64 m.a, .func (.func 30) #[] #[]] rfl (rangeAt_of (cellsAt_alloc cc _)) ?hh20_290); (case ho20_290 => exact rfl); (case hx20_290 => exact rfl); (case hw20_290 => exact rfl)))
  ((with_reducible refine (HT.out _).mono ?_); rintro e w6 ⟨rfl, hb⟩)
  clear cc_4 cc_13 cc_14 cc_15 cc_16 cc_17 cc_18 cc_19
  clear cc13
  have hsz := hb.size
  (try simp at hsz)
  have xcczn : w.heap.size ≠ w5.heap.size := by omega
  have xozzn : w.heap.size + 1 ≠ w5.heap.size := by omega
  have xgn : w5.heap.size ≠ g := by omega
  have xlo : w.heap.size ≤ w5.heap.size := by omega
  replace cc := cellsAt_keep (cellsAt_alloc cc _) hb
  replace oz := OutZ.below (OutZ.alloc oz _) hb
  have xq0 : w6.cell? ⟨w5.heap.size, 0, none⟩ = some (.int .i64 0) := cel_below hb (by rw [World.cell?_alloc_at _ _ _ _ (by simp)]; rfl)
  have xq1 : w6.cell? ⟨w5.heap.size, 1, none⟩ = some (.int .i64 0) := cel_below hb (by rw [World.cell?_alloc_at _ _ _ _ (by simp)]; rfl)
  have xq2 : w6.cell? ⟨w5.heap.size, 2, none⟩ = some (.int .i64 (s.1 / 4)) := cel_below hb (by rw [World.cell?_alloc_at _ _ _ _ (by simp)]; rfl)
  have xf : ∀ o, w6.frozen? ⟨w5.heap.size, o, none⟩ = false := fun o => fro_below hb (by first | omega | (simp; done) | (simp; omega)) (World.frozen?_alloc_at _ _ _ _ (by simp))
  replace ccz : w.heap.size < w6.heap.size := by omega
  replace ozz : w.heap.size + 1 < w6.heap.size := by omega
  have xz : w5.heap.size < w6.heap.size := World.block_lt_of_cell? _ _ xq0
  have h6 := runAt_keep (runAt_alloc h5 _) hb
  replace G := gb_trans (gb_alloc G _) (gb_of_below (some g) hb)
  clear hb hsz
  replace hS0 := G.size
  have cc_4 : w6.cell? ⟨w.heap.size, 4, none⟩ = some (.int .i64 L.c.m) := cc 4 _ rfl
  have cc_13 : w6.cell? ⟨w.heap.size, 13, none⟩ = some (.int .i64 me) := cc 13 _ rfl
  have cc_14 : w6.cell? ⟨w.heap.size, 14, none⟩ = some (.int .i64 other) := cc 14 _ rfl
  have cc_15 : w6.cell? ⟨w.heap.size, 15, none⟩ = some (.bool true) := cc 15 _ rfl
  have cc_16 : w6.cell? ⟨w.heap.size, 16, none⟩ = some (.int .i64 m.s) := cc 16 _ rfl
  have cc_17 : w6.cell? ⟨w.heap.size, 17, none⟩ = some (.int .i64 m.k) := cc 17 _ rfl
  have cc_18 : w6.cell? ⟨w.heap.size, 18, none⟩ = some (.int .i64 m.a) := cc 18 _ rfl
  have cc_19 : w6.cell? ⟨w.heap.size, 19, none⟩ = some (.func (.func 30) #[] #[]) := cc 19 _ rfl
  have cc13 : CellsAt w6 (w.heap.size) [.int .i64 L.c.t, .int .i64 L.c.l, .int .i64 L.c.k, .int .i64 L.c.s, .int .i64 L.c.m, .int .i64 L.clock, .int .i64 L.stamps, .int .i64 L.log, .int .i64 L.fin, .int .i64 L.thread, .int .i64 L.lock, .int .i64 L.loc, .int .i64 L.size] := cellsAt_take 13 cc
  go_wp2_with (first | ((with_reducible refine wp_ld_lay ?hw13_291 ?x13_291 ?ho13_291 (w.heap.size) 0 ?hx13_291 [.int .i64 L.c.t, .int .i64 L.c.l, .int .i64 L.c.k, .int .i64 L.c.s, .int .i64 L.c.m, .int .i64 L.clock, .int .i64 L.stamps, .int .i64 L.log, .int .i64 L.fin, .int .i64 L.thread, .int .i64 L.lock, .int .i64 L.loc, .int .i64 L.size] rfl (rangeAt_of cc13) ?hh13_291); (case ho13_291 => exact rfl); (case hx13_291 => exact rfl); (case hw13_291 => exact rfl)) | ((with_reducible refine wp_ld_case ?hw20_292 ?x20_292 ?ho20_292 (w.heap.size) 0 ?hx20_292 [.int .i64 L.c.t, .int .i64 L.c.l, .int .i64 L.c.k, .int .i64 L.c.s, .int .i64 L.c.m, .int .i64 L.clock, .int .i64 L.stamps, .int .i64 L.log, .int .i64 L.fin, .int .i64 L.thread, .int .i64 L.lock, .int .i64 L.loc, .int .i64 L.size, .int .i64 me, .int .i64 other, .bool true, .int .i64 m.s, .int .i64 m.k, .int .i64 m.a, .func (.func 30) #[] #[]] rfl (rangeAt_of cc) ?hh20_292); (case ho20_292 => exact rfl); (case hx20_292 => exact rfl); (case hw20_292 => exact rfl)))
  ((with_reducible refine (load_some _ g _ _ _ h6).mono ?_); rintro e w7 ⟨rfl, h7, hb⟩)
  clear cc_4 cc_13 cc_14 cc_15 cc_16 cc_17 cc_18 cc_19
  clear cc13
  have hsz := hb.size
  (try simp at hsz)
  replace cc := cellsAt_gb cc hb (by omega)
  replace oz := OutZ.gb oz hb (by omega)
  replace xq0 : w7.cell? ⟨w5.heap.size, 0, none⟩ = some (.int .i64 0) := gbc hb xq0 (by omega)
  replace xq1 : w7.cell? ⟨w5.heap.size, 1, none⟩ = some (.int .i64 0) := gbc hb xq1 (by omega)
  replace xq2 : w7.cell? ⟨w5.heap.size, 2, none⟩ = some (.int .i64 (s.1 / 4)) := gbc hb xq2 (by omega)
  replace xf : ∀ o, w7.frozen? ⟨w5.heap.size, o, none⟩ = false := fun o => gbf hb (by first | omega | (simp; done) | (simp; omega)) (by omega) (xf o)
  replace ccz : w.heap.size < w7.heap.size := by omega
  replace ozz : w.heap.size + 1 < w7.heap.size := by omega
  replace xz : w5.heap.size < w7.heap.size := by omega
  replace G := gb_trans G hb
  clear hb hsz
  replace hS0 := G.size
  have cc_4 : w7.cell? ⟨w.heap.size, 4, none⟩ = some (.int .i64 L.c.m) := cc 4 _ rfl
  have cc_13 : w7.cell? ⟨w.heap.size, 13, none⟩ = some (.int .i64 me) := cc 13 _ rfl
  have cc_14 : w7.cell? ⟨w.heap.size, 14, none⟩ = some (.int .i64 other) := cc 14 _ rfl
  have cc_15 : w7.cell? ⟨w.heap.size, 15, none⟩ = some (.bool true) := cc 15 _ rfl
  have cc_16 : w7.cell? ⟨w.heap.size, 16, none⟩ = some (.int .i64 m.s) := cc 16 _ rfl
  have cc_17 : w7.cell? ⟨w.heap.size, 17, none⟩ = some (.int .i64 m.k) := cc 17 _ rfl
  have cc_18 : w7.cell? ⟨w.heap.size, 18, none⟩ = some (.int .i64 m.a) := cc 18 _ rfl
  have cc_19 : w7.cell? ⟨w.heap.size, 19, none⟩ = some (.func (.func 30) #[] #[]) := cc 19 _ rfl
  have cc13 : CellsAt w7 (w.heap.size) [.int .i64 L.c.t, .int .i64 L.c.l, .int .i64 L.c.k, .int .i64 L.c.s, .int .i64 L.c.m, .int .i64 L.clock, .int .i64 L.stamps, .int .i64 L.log, .int .i64 L.fin, .int .i64 L.thread, .int .i64 L.lock, .int .i64 L.loc, .int .i64 L.size] := cellsAt_take 13 cc
  go_wp2_with (first | ((with_reducible refine wp_ld_lay ?hw13_293 ?x13_293 ?ho13_293 (w.heap.size) 0 ?hx13_293 [.int .i64 L.c.t, .int .i64 L.c.l, .int .i64 L.c.k, .int .i64 L.c.s, .int .i64 L.c.m, .int .i64 L.clock, .int .i64 L.stamps, .int .i64 L.log, .int .i64 L.fin, .int .i64 L.thread, .int .i64 L.lock, .int .i64 L.loc, .int .i64 L.size] rfl (rangeAt_of (cellsAt_set cc13 (by omega) _)) ?hh13_293); (case ho13_293 => exact rfl); (case hx13_293 => exact rfl); (case hw13_293 => exact rfl)) | ((with_reducible refine wp_ld_case ?hw20_294 ?x20_294 ?ho20_294 (w.heap.size) 0 ?hx20_294 [.int .i64 L.c.t, .int .i64 L.c.l, .int .i64 L.c.k, .int .i64 L.c.s, .int .i64 L.c.m, .int .i64 L.clock, .int .i64 L.stamps, .int .i64 L.log, .int .i64 L.fin, .int .i64 L.thread, .int .i64 L.lock, .int .i64 L.loc, .int .i64 L.size, .int .i64 me, .int .i64 other, .bool true, .int .i64 m.s, .int .i64 m.k, .int .i64 m.a, .func (.func 30) #[] #[]] rfl (rangeAt_of (cellsAt_set cc (by omega) _)) ?hh20_294); (case ho20_294 => exact rfl); (case hx20_294 => exact rfl); (case hw20_294 => exact rfl)))
  ((with_reducible refine (HK.out _).mono ?_); rintro e w8 ⟨rfl, hb⟩)
  clear cc_4 cc_13 cc_14 cc_15 cc_16 cc_17 cc_18 cc_19
  clear cc13
  have hsz := hb.size
  (try simp at hsz)
  replace cc := cellsAt_keep (cellsAt_set cc (by omega) _) hb
  replace oz := OutZ.below (OutZ.set oz (by omega) _) hb
  replace xq0 : w8.cell? ⟨w5.heap.size, 0, none⟩ = some (.int .i64 t.1) := cel_below hb (World.cell?_setCell_same _ _ _ xq0)
  replace xq1 : w8.cell? ⟨w5.heap.size, 1, none⟩ = some (.int .i64 0) := cel_below hb (keepA_ xq1 (by omega))
  replace xq2 : w8.cell? ⟨w5.heap.size, 2, none⟩ = some (.int .i64 (s.1 / 4)) := cel_below hb (keepA_ xq2 (by omega))
  replace xf : ∀ o, w8.frozen? ⟨w5.heap.size, o, none⟩ = false := fun o => fro_below hb (by first | omega | (simp; done) | (simp; omega)) ((World.frozen?_setCell _ _ _ _).trans (xf o))
  replace ccz : w.heap.size < w8.heap.size := by omega
  replace ozz : w.heap.size + 1 < w8.heap.size := by omega
  replace xz : w5.heap.size < w8.heap.size := by omega
  have h8 := runAt_keep (runAt_set h7 (by omega) _) hb
  replace G := gb_trans (gb_set G (Or.inr (by first | exact Nat.le_refl _ | (dsimp only; omega))) _) (gb_of_below (some g) hb)
  clear hb hsz
  replace hS0 := G.size
  have cc_4 : w8.cell? ⟨w.heap.size, 4, none⟩ = some (.int .i64 L.c.m) := cc 4 _ rfl
  have cc_13 : w8.cell? ⟨w.heap.size, 13, none⟩ = some (.int .i64 me) := cc 13 _ rfl
  have cc_14 : w8.cell? ⟨w.heap.size, 14, none⟩ = some (.int .i64 other) := cc 14 _ rfl
  have cc_15 : w8.cell? ⟨w.heap.size, 15, none⟩ = some (.bool true) := cc 15 _ rfl
  have cc_16 : w8.cell? ⟨w.heap.size, 16, none⟩ = some (.int .i64 m.s) := cc 16 _ rfl
  have cc_17 : w8.cell? ⟨w.heap.size, 17, none⟩ = some (.int .i64 m.k) := cc 17 _ rfl
  have cc_18 : w8.cell? ⟨w.heap.size, 18, none⟩ = some (.int .i64 m.a) := cc 18 _ rfl
  have cc_19 : w8.cell? ⟨w.heap.size, 19, none⟩ = some (.func (.func 30) #[] #[]) := cc 19 _ rfl
  have cc13 : CellsAt w8 (w.heap.size) [.int .i64 L.c.t, .int .i64 L.c.l, .int .i64 L.c.k, .int .i64 L.c.s, .int .i64 L.c.m, .int .i64 L.clock, .int .i64 L.stamps, .int .i64 L.log, .int .i64 L.fin, .int .i64 L.thread, .int .i64 L.lock, .int .i64 L.loc, .int .i64 L.size] := cellsAt_take 13 cc
  go_wp2_with (first | ((with_reducible refine wp_ld_lay ?hw13_295 ?x13_295 ?ho13_295 (w.heap.size) 0 ?hx13_295 [.int .i64 L.c.t, .int .i64 L.c.l, .int .i64 L.c.k, .int .i64 L.c.s, .int .i64 L.c.m, .int .i64 L.clock, .int .i64 L.stamps, .int .i64 L.log, .int .i64 L.fin, .int .i64 L.thread, .int .i64 L.lock, .int .i64 L.loc, .int .i64 L.size] rfl (rangeAt_of cc13) ?hh13_295); (case ho13_295 => exact rfl); (case hx13_295 => exact rfl); (case hw13_295 => exact rfl)) | ((with_reducible refine wp_ld_case ?hw20_296 ?x20_296 ?ho20_296 (w.heap.size) 0 ?hx20_296 [.int .i64 L.c.t, .int .i64 L.c.l, .int .i64 L.c.k, .int .i64 L.c.s, .int .i64 L.c.m, .int .i64 L.clock, .int .i64 L.stamps, .int .i64 L.log, .int .i64 L.fin, .int .i64 L.thread, .int .i64 L.lock, .int .i64 L.loc, .int .i64 L.size, .int .i64 me, .int .i64 other, .bool true, .int .i64 m.s, .int .i64 m.k, .int .i64 m.a, .func (.func 30) #[] #[]] rfl (rangeAt_of cc) ?hh20_296); (case ho20_296 => exact rfl); (case hx20_296 => exact rfl); (case hw20_296 => exact rfl)))
  ((with_reducible refine (load_some _ g _ _ _ h8).mono ?_); rintro e w9 ⟨rfl, h9, hb⟩)
  clear cc_4 cc_13 cc_14 cc_15 cc_16 cc_17 cc_18 cc_19
  clear cc13
  have hsz := hb.size
  (try simp at hsz)
  replace cc := cellsAt_gb cc hb (by omega)
  replace oz := OutZ.gb oz hb (by omega)
  replace xq0 : w9.cell? ⟨w5.heap.size, 0, none⟩ = some (.int .i64 t.1) := gbc hb xq0 (by omega)
  replace xq1 : w9.cell? ⟨w5.heap.size, 1, none⟩ = some (.int .i64 0) := gbc hb xq1 (by omega)
  replace xq2 : w9.cell? ⟨w5.heap.size, 2, none⟩ = some (.int .i64 (s.1 / 4)) := gbc hb xq2 (by omega)
  replace xf : ∀ o, w9.frozen? ⟨w5.heap.size, o, none⟩ = false := fun o => gbf hb (by first | omega | (simp; done) | (simp; omega)) (by omega) (xf o)
  replace ccz : w.heap.size < w9.heap.size := by omega
  replace ozz : w.heap.size + 1 < w9.heap.size := by omega
  replace xz : w5.heap.size < w9.heap.size := by omega
  replace G := gb_trans G hb
  clear hb hsz
  replace hS0 := G.size
  have cc_4 : w9.cell? ⟨w.heap.size, 4, none⟩ = some (.int .i64 L.c.m) := cc 4 _ rfl
  have cc_13 : w9.cell? ⟨w.heap.size, 13, none⟩ = some (.int .i64 me) := cc 13 _ rfl
  have cc_14 : w9.cell? ⟨w.heap.size, 14, none⟩ = some (.int .i64 other) := cc 14 _ rfl
  have cc_15 : w9.cell? ⟨w.heap.size, 15, none⟩ = some (.bool true) := cc 15 _ rfl
  have cc_16 : w9.cell? ⟨w.heap.size, 16, none⟩ = some (.int .i64 m.s) := cc 16 _ rfl
  have cc_17 : w9.cell? ⟨w.heap.size, 17, none⟩ = some (.int .i64 m.k) := cc 17 _ rfl
  have cc_18 : w9.cell? ⟨w.heap.size, 18, none⟩ = some (.int .i64 m.a) := cc 18 _ rfl
  have cc_19 : w9.cell? ⟨w.heap.size, 19, none⟩ = some (.func (.func 30) #[] #[]) := cc 19 _ rfl
  have cc13 : CellsAt w9 (w.heap.size) [.int .i64 L.c.t, .int .i64 L.c.l, .int .i64 L.c.k, .int .i64 L.c.s, .int .i64 L.c.m, .int .i64 L.clock, .int .i64 L.stamps, .int .i64 L.log, .int .i64 L.fin, .int .i64 L.thread, .int .i64 L.lock, .int .i64 L.loc, .int .i64 L.size] := cellsAt_take 13 cc
  go_wp2_with (first | ((with_reducible refine wp_ld_lay ?hw13_297 ?x13_297 ?ho13_297 (w.heap.size) 0 ?hx13_297 [.int .i64 L.c.t, .int .i64 L.c.l, .int .i64 L.c.k, .int .i64 L.c.s, .int .i64 L.c.m, .int .i64 L.clock, .int .i64 L.stamps, .int .i64 L.log, .int .i64 L.fin, .int .i64 L.thread, .int .i64 L.lock, .int .i64 L.loc, .int .i64 L.size] rfl (rangeAt_of (cellsAt_set cc13 (by omega) _)) ?hh13_297); (case ho13_297 => exact rfl); (case hx13_297 => exact rfl); (case hw13_297 => exact rfl)) | ((with_reducible refine wp_ld_case ?hw20_298 ?x20_298 ?ho20_298 (w.heap.size) 0 ?hx20_298 [.int .i64 L.c.t, .int .i64 L.c.l, .int .i64 L.c.k, .int .i64 L.c.s, .int .i64 L.c.m, .int .i64 L.clock, .int .i64 L.stamps, .int .i64 L.log, .int .i64 L.fin, .int .i64 L.thread, .int .i64 L.lock, .int .i64 L.loc, .int .i64 L.size, .int .i64 me, .int .i64 other, .bool true, .int .i64 m.s, .int .i64 m.k, .int .i64 m.a, .func (.func 30) #[] #[]] rfl (rangeAt_of (cellsAt_set cc (by omega) _)) ?hh20_298); (case ho20_298 => exact rfl); (case hx20_298 => exact rfl); (case hw20_298 => exact rfl)))
  ((with_reducible refine (HC.out _).mono ?_); rintro e w10 ⟨rfl, hb⟩)
  clear cc_4 cc_13 cc_14 cc_15 cc_16 cc_17 cc_18 cc_19
  clear cc13
  have hsz := hb.size
  (try simp at hsz)
  replace cc := cellsAt_keep (cellsAt_set cc (by omega) _) hb
  replace oz := OutZ.below (OutZ.set oz (by omega) _) hb
  replace xq0 : w10.cell? ⟨w5.heap.size, 0, none⟩ = some (.int .i64 t.1) := cel_below hb (keepA_ xq0 (by omega))
  replace xq1 : w10.cell? ⟨w5.heap.size, 1, none⟩ = some (.int .i64 k.1) := cel_below hb (World.cell?_setCell_same _ _ _ xq1)
  replace xq2 : w10.cell? ⟨w5.heap.size, 2, none⟩ = some (.int .i64 (s.1 / 4)) := cel_below hb (keepA_ xq2 (by omega))
  replace xf : ∀ o, w10.frozen? ⟨w5.heap.size, o, none⟩ = false := fun o => fro_below hb (by first | omega | (simp; done) | (simp; omega)) ((World.frozen?_setCell _ _ _ _).trans (xf o))
  replace ccz : w.heap.size < w10.heap.size := by omega
  replace ozz : w.heap.size + 1 < w10.heap.size := by omega
  replace xz : w5.heap.size < w10.heap.size := by omega
  have h10 := runAt_keep (runAt_set h9 (by omega) _) hb
  replace G := gb_trans (gb_set G (Or.inr (by first | exact Nat.le_refl _ | (dsimp only; omega))) _) (gb_of_below (some g) hb)
  clear hb hsz
  replace hS0 := G.size
  have cc_4 : w10.cell? ⟨w.heap.size, 4, none⟩ = some (.int .i64 L.c.m) := cc 4 _ rfl
  have cc_13 : w10.cell? ⟨w.heap.size, 13, none⟩ = some (.int .i64 me) := cc 13 _ rfl
  have cc_14 : w10.cell? ⟨w.heap.size, 14, none⟩ = some (.int .i64 other) := cc 14 _ rfl
  have cc_15 : w10.cell? ⟨w.heap.size, 15, none⟩ = some (.bool true) := cc 15 _ rfl
  have cc_16 : w10.cell? ⟨w.heap.size, 16, none⟩ = some (.int .i64 m.s) := cc 16 _ rfl
  have cc_17 : w10.cell? ⟨w.heap.size, 17, none⟩ = some (.int .i64 m.k) := cc 17 _ rfl
  have cc_18 : w10.cell? ⟨w.heap.size, 18, none⟩ = some (.int .i64 m.a) := cc 18 _ rfl
  have cc_19 : w10.cell? ⟨w.heap.size, 19, none⟩ = some (.func (.func 30) #[] #[]) := cc 19 _ rfl
  have cc13 : CellsAt w10 (w.heap.size) [.int .i64 L.c.t, .int .i64 L.c.l, .int .i64 L.c.k, .int .i64 L.c.s, .int .i64 L.c.m, .int .i64 L.clock, .int .i64 L.stamps, .int .i64 L.log, .int .i64 L.fin, .int .i64 L.thread, .int .i64 L.lock, .int .i64 L.loc, .int .i64 L.size] := cellsAt_take 13 cc
  go_wp2_with (first | ((with_reducible refine wp_ld_lay ?hw13_299 ?x13_299 ?ho13_299 (w.heap.size) 0 ?hx13_299 [.int .i64 L.c.t, .int .i64 L.c.l, .int .i64 L.c.k, .int .i64 L.c.s, .int .i64 L.c.m, .int .i64 L.clock, .int .i64 L.stamps, .int .i64 L.log, .int .i64 L.fin, .int .i64 L.thread, .int .i64 L.lock, .int .i64 L.loc, .int .i64 L.size] rfl (rangeAt_of cc13) ?hh13_299); (case ho13_299 => exact rfl); (case hx13_299 => exact rfl); (case hw13_299 => exact rfl)) | ((with_reducible refine wp_ld_case ?hw20_300 ?x20_300 ?ho20_300 (w.heap.size) 0 ?hx20_300 [.int .i64 L.c.t, .int .i64 L.c.l, .int .i64 L.c.k, .int .i64 L.c.s, .int .i64 L.c.m, .int .i64 L.clock, .int .i64 L.stamps, .int .i64 L.log, .int .i64 L.fin, .int .i64 L.thread, .int .i64 L.lock, .int .i64 L.loc, .int .i64 L.size, .int .i64 me, .int .i64 other, .bool true, .int .i64 m.s, .int .i64 m.k, .int .i64 m.a, .func (.func 30) #[] #[]] rfl (rangeAt_of cc) ?hh20_300); (case ho20_300 => exact rfl); (case hx20_300 => exact rfl); (case hw20_300 => exact rfl)))
  ((with_reducible refine (HD.out _ h10).mono ?_); rintro e w11 ⟨rfl, hb⟩)
  exact ⟨rfl, rfl, gb_trans G hb⟩

end Go.Proofs.Ytaclnaedinfhmaa
