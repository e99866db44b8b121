
/-
  Layer 17: Resolve, the own status not asked.
-/
import Derived.Test.YtaclnaedinfhmaaRows
import Derived.Test.YtaclnaedinfhmaaBase
import Derived.Test.YtaclnaedinfhmaaAux
import Derived.Test.YtaclnaedinfhmaaWord2
import Derived.Test.YtaclnaedinfhmaaLayA
import Derived.Test.YtaclnaedinfhmaaStepC
import Derived.Test.YtaclnaedinfhmaaStepD
import Derived.Test.YtaclnaedinfhmaaMgrA
import Derived.Test.YtaclnaedinfhmaaMgrB
import Derived.WalkKit
import Derived.WalkLawsBesides
import Derived.Lib.Hide
namespace Go.Proofs.Ytaclnaedinfhmaa
set_option linter.unusedVariables false
set_option linter.unusedSimpArgs false
set_option maxRecDepth 100000
set_option maxHeartbeats 4000000
open Go.ChangeShapes Go.WideShapes Go.ChangeAt Go.RowKit

theorem res_f0 (w : World) (g : Nat) (L : Ly) (hok : L.ok) (me other : Int) (m : Ct)  (h0 : RunAt w g []) :
    Calls Try.prog 61 #[caseV L me other false m, .pointer (some ⟨g, 0, none⟩)] w fun e w' => e = .panicked [{ v := .iface 124 (Ask.v ⟨1, atStatus L other, 0, 0⟩), recovered := false }] ∧ w.grownBy w' (some g) := by
  unfold caseV
  have HM : Hid (∀ w, Calls Try.prog 38 #[L.v, .int .i64 me] w fun e w' => e = .returned (.int .i64 (atStatus L me)) ∧ Below w.heap.size w w') := Lib.hid (fun w => status_any L me w hok)
  have HS : Hid (∀ w, Calls Try.prog 38 #[L.v, .int .i64 other] w fun e w' => e = .returned (.int .i64 (atStatus L other)) ∧ Below w.heap.size w w') := Lib.hid (fun w => status_any L other w hok)
  have HT : Hid (∀ w, Calls Try.prog 64 #[L.v, .int .i64 other] w fun e w' => e = .returned (.int .i64 (atStamp L other)) ∧ Below w.heap.size w w') := Lib.hid (fun w => stamp_any L other w hok)
  have HK : Hid (∀ w, Calls Try.prog 65 #[L.v, .int .i64 other] w fun e w' => e = .returned (.int .i64 (atKarma L other)) ∧ Below w.heap.size w w') := Lib.hid (fun w => karma_any L other w hok)
  unfold Ly.v at HM HS HT HK
  have hg0 := runAt_lt h0
  have G : w.grownBy w (some g) := gb_refl _ _
  have hS0 : w.heap.size + 0 ≤ w.heap.size := Nat.le_refl _
  go_enter Try.func61, Try.ntmps61
  go_wp2_with fail
  obtain ⟨w1, hwr⟩ : ∃ W, W = ((w.alloc (.cells #[.int .i64 L.c.t, .int .i64 L.c.l, .int .i64 L.c.k, .int .i64 L.c.s, .int .i64 L.c.m, .int .i64 L.clock, .int .i64 L.stamps, .int .i64 L.log, .int .i64 L.fin, .int .i64 L.thread, .int .i64 L.lock, .int .i64 L.loc, .int .i64 L.size, .int .i64 me, .int .i64 other, .bool false, .int .i64 m.s, .int .i64 m.k, .int .i64 m.a, .func (.func 30) #[] #[]] 119)).alloc (.cells #[.int .i64 0, .int .i64 0, .int .i64 0, .int .i64 0, .bool false, .bool false, .int .i64 0] 35)) := ⟨_, rfl⟩
  rw [← hwr]
  have hb : Below w.heap.size w w1 := by rw [hwr]; exact (Below.alloc (Below.alloc (Below.refl _ _) (by first | exact Nat.le_refl _ | (simp; omega) | simp) _) (by first | exact Nat.le_refl _ | (simp; omega) | simp) _)
  have cc : CellsAt w1 (w.heap.size) [.int .i64 L.c.t, .int .i64 L.c.l, .int .i64 L.c.k, .int .i64 L.c.s, .int .i64 L.c.m, .int .i64 L.clock, .int .i64 L.stamps, .int .i64 L.log, .int .i64 L.fin, .int .i64 L.thread, .int .i64 L.lock, .int .i64 L.loc, .int .i64 L.size, .int .i64 me, .int .i64 other, .bool false, .int .i64 m.s, .int .i64 m.k, .int .i64 m.a, .func (.func 30) #[] #[]] := by rw [hwr]; exact (cellsAt_alloc (cellsAt_new' w _ _ (w.heap.size) (by simp)) _)
  have ccz : w.heap.size < w1.heap.size := World.block_lt_of_cell? _ _ (cc 0 _ rfl)
  have oz : OutZ w1 (w.heap.size + 1) := by rw [hwr]; exact (OutZ.new' (w.alloc (.cells #[.int .i64 L.c.t, .int .i64 L.c.l, .int .i64 L.c.k, .int .i64 L.c.s, .int .i64 L.c.m, .int .i64 L.clock, .int .i64 L.stamps, .int .i64 L.log, .int .i64 L.fin, .int .i64 L.thread, .int .i64 L.lock, .int .i64 L.loc, .int .i64 L.size, .int .i64 me, .int .i64 other, .bool false, .int .i64 m.s, .int .i64 m.k, .int .i64 m.a, .func (.func 30) #[] #[]] 119)) _ (w.heap.size + 1) (by simp))
  have ozz : w.heap.size + 1 < w1.heap.size := OutZ.lt oz
  have h1 := runAt_keep h0 hb
  replace G := gb_trans G (gb_of_below (some g) hb)
  clear hb hwr
  replace hS0 := G.size
  have cc_4 : w1.cell? ⟨w.heap.size, 4, none⟩ = some (.int .i64 L.c.m) := cc 4 _ rfl
  have cc_13 : w1.cell? ⟨w.heap.size, 13, none⟩ = some (.int .i64 me) := cc 13 _ rfl
  have cc_14 : w1.cell? ⟨w.heap.size, 14, none⟩ = some (.int .i64 other) := cc 14 _ rfl
  have cc_15 : w1.cell? ⟨w.heap.size, 15, none⟩ = some (.bool false) := cc 15 _ rfl
  have cc_16 : w1.cell? ⟨w.heap.size, 16, none⟩ = some (.int .i64 m.s) := cc 16 _ rfl
  have cc_17 : w1.cell? ⟨w.heap.size, 17, none⟩ = some (.int .i64 m.k) := cc 17 _ rfl
  have cc_18 : w1.cell? ⟨w.heap.size, 18, none⟩ = some (.int .i64 m.a) := cc 18 _ rfl
  have cc_19 : w1.cell? ⟨w.heap.size, 19, none⟩ = some (.func (.func 30) #[] #[]) := cc 19 _ rfl
  have cc13 : CellsAt w1 (w.heap.size) [.int .i64 L.c.t, .int .i64 L.c.l, .int .i64 L.c.k, .int .i64 L.c.s, .int .i64 L.c.m, .int .i64 L.clock, .int .i64 L.stamps, .int .i64 L.log, .int .i64 L.fin, .int .i64 L.thread, .int .i64 L.lock, .int .i64 L.loc, .int .i64 L.size] := cellsAt_take 13 cc
  go_wp2_with (first | ((with_reducible refine wp_ld_lay ?hw13_55 ?x13_55 ?ho13_55 (w.heap.size) 0 ?hx13_55 [.int .i64 L.c.t, .int .i64 L.c.l, .int .i64 L.c.k, .int .i64 L.c.s, .int .i64 L.c.m, .int .i64 L.clock, .int .i64 L.stamps, .int .i64 L.log, .int .i64 L.fin, .int .i64 L.thread, .int .i64 L.lock, .int .i64 L.loc, .int .i64 L.size] rfl (rangeAt_of cc13) ?hh13_55); (case ho13_55 => exact rfl); (case hx13_55 => exact rfl); (case hw13_55 => exact rfl)) | ((with_reducible refine wp_ld_case ?hw20_56 ?x20_56 ?ho20_56 (w.heap.size) 0 ?hx20_56 [.int .i64 L.c.t, .int .i64 L.c.l, .int .i64 L.c.k, .int .i64 L.c.s, .int .i64 L.c.m, .int .i64 L.clock, .int .i64 L.stamps, .int .i64 L.log, .int .i64 L.fin, .int .i64 L.thread, .int .i64 L.lock, .int .i64 L.loc, .int .i64 L.size, .int .i64 me, .int .i64 other, .bool false, .int .i64 m.s, .int .i64 m.k, .int .i64 m.a, .func (.func 30) #[] #[]] rfl (rangeAt_of cc) ?hh20_56); (case ho20_56 => exact rfl); (case hx20_56 => exact rfl); (case hw20_56 => exact rfl)))
  ((with_reducible refine (HS.out _).mono ?_); rintro e w2 ⟨rfl, hb⟩)
  clear cc_4 cc_13 cc_14 cc_15 cc_16 cc_17 cc_18 cc_19
  clear cc13
  have hsz := hb.size
  (try simp at hsz)
  replace cc := cellsAt_keep cc hb
  replace oz := OutZ.below oz hb
  replace ccz : w.heap.size < w2.heap.size := by omega
  replace ozz : w.heap.size + 1 < w2.heap.size := by omega
  have h2 := runAt_keep h1 hb
  replace G := gb_trans G (gb_of_below (some g) hb)
  clear hb hsz
  replace hS0 := G.size
  have cc_4 : w2.cell? ⟨w.heap.size, 4, none⟩ = some (.int .i64 L.c.m) := cc 4 _ rfl
  have cc_13 : w2.cell? ⟨w.heap.size, 13, none⟩ = some (.int .i64 me) := cc 13 _ rfl
  have cc_14 : w2.cell? ⟨w.heap.size, 14, none⟩ = some (.int .i64 other) := cc 14 _ rfl
  have cc_15 : w2.cell? ⟨w.heap.size, 15, none⟩ = some (.bool false) := cc 15 _ rfl
  have cc_16 : w2.cell? ⟨w.heap.size, 16, none⟩ = some (.int .i64 m.s) := cc 16 _ rfl
  have cc_17 : w2.cell? ⟨w.heap.size, 17, none⟩ = some (.int .i64 m.k) := cc 17 _ rfl
  have cc_18 : w2.cell? ⟨w.heap.size, 18, none⟩ = some (.int .i64 m.a) := cc 18 _ rfl
  have cc_19 : w2.cell? ⟨w.heap.size, 19, none⟩ = some (.func (.func 30) #[] #[]) := cc 19 _ rfl
  have cc13 : CellsAt w2 (w.heap.size) [.int .i64 L.c.t, .int .i64 L.c.l, .int .i64 L.c.k, .int .i64 L.c.s, .int .i64 L.c.m, .int .i64 L.clock, .int .i64 L.stamps, .int .i64 L.log, .int .i64 L.fin, .int .i64 L.thread, .int .i64 L.lock, .int .i64 L.loc, .int .i64 L.size] := cellsAt_take 13 cc
  go_wp2_with (first | ((with_reducible refine wp_ld_lay ?hw13_57 ?x13_57 ?ho13_57 (w.heap.size) 0 ?hx13_57 [.int .i64 L.c.t, .int .i64 L.c.l, .int .i64 L.c.k, .int .i64 L.c.s, .int .i64 L.c.m, .int .i64 L.clock, .int .i64 L.stamps, .int .i64 L.log, .int .i64 L.fin, .int .i64 L.thread, .int .i64 L.lock, .int .i64 L.loc, .int .i64 L.size] rfl (rangeAt_of cc13) ?hh13_57); (case ho13_57 => exact rfl); (case hx13_57 => exact rfl); (case hw13_57 => exact rfl)) | ((with_reducible refine wp_ld_case ?hw20_58 ?x20_58 ?ho20_58 (w.heap.size) 0 ?hx20_58 [.int .i64 L.c.t, .int .i64 L.c.l, .int .i64 L.c.k, .int .i64 L.c.s, .int .i64 L.c.m, .int .i64 L.clock, .int .i64 L.stamps, .int .i64 L.log, .int .i64 L.fin, .int .i64 L.thread, .int .i64 L.lock, .int .i64 L.loc, .int .i64 L.size, .int .i64 me, .int .i64 other, .bool false, .int .i64 m.s, .int .i64 m.k, .int .i64 m.a, .func (.func 30) #[] #[]] rfl (rangeAt_of cc) ?hh20_58); (case ho20_58 => exact rfl); (case hx20_58 => exact rfl); (case hw20_58 => exact rfl)))
  ((with_reducible refine (load_none _ g _ h2).mono ?_); rintro e w3 ⟨rfl, hb⟩)
  exact ⟨rfl, rfl, gb_trans G (gb_of_below (some g) hb)⟩

theorem res_fidle (w : World) (g : Nat) (L : Ly) (hok : L.ok) (me other : Int) (m : Ct) (s : Int × Bool) (l : List (Int × Bool)) (h0 : RunAt w g (s :: l)) (hs : s.1 % 4 = 0) :
    Calls Try.prog 61 #[caseV L me other false m, .pointer (some ⟨g, 0, none⟩)] w fun e w' => e = .returned (OutD.v { val := 0 }) ∧ w.grownBy w' (some g) := by
  unfold caseV
  have HM : Hid (∀ w, Calls Try.prog 38 #[L.v, .int .i64 me] w fun e w' => e = .returned (.int .i64 (atStatus L me)) ∧ Below w.heap.size w w') := Lib.hid (fun w => status_any L me w hok)
  have HS : Hid (∀ w, Calls Try.prog 38 #[L.v, .int .i64 other] w fun e w' => e = .returned (.int .i64 (atStatus L other)) ∧ Below w.heap.size w w') := Lib.hid (fun w => status_any L other w hok)
  have HT : Hid (∀ w, Calls Try.prog 64 #[L.v, .int .i64 other] w fun e w' => e = .returned (.int .i64 (atStamp L other)) ∧ Below w.heap.size w w') := Lib.hid (fun w => stamp_any L other w hok)
  have HK : Hid (∀ w, Calls Try.prog 65 #[L.v, .int .i64 other] w fun e w' => e = .returned (.int .i64 (atKarma L other)) ∧ Below w.heap.size w w') := Lib.hid (fun w => karma_any L other w hok)
  unfold Ly.v at HM HS HT HK
  have hs0 : (s.1 % 4 == 0) = true := by simp [hs]
  have hg0 := runAt_lt h0
  have G : w.grownBy w (some g) := gb_refl _ _
  have hS0 : w.heap.size + 0 ≤ w.heap.size := Nat.le_refl _
  go_enter Try.func61, Try.ntmps61
  go_wp2_with fail
  obtain ⟨w1, hwr⟩ : ∃ W, W = ((w.alloc (.cells #[.int .i64 L.c.t, .int .i64 L.c.l, .int .i64 L.c.k, .int .i64 L.c.s, .int .i64 L.c.m, .int .i64 L.clock, .int .i64 L.stamps, .int .i64 L.log, .int .i64 L.fin, .int .i64 L.thread, .int .i64 L.lock, .int .i64 L.loc, .int .i64 L.size, .int .i64 me, .int .i64 other, .bool false, .int .i64 m.s, .int .i64 m.k, .int .i64 m.a, .func (.func 30) #[] #[]] 119)).alloc (.cells #[.int .i64 0, .int .i64 0, .int .i64 0, .int .i64 0, .bool false, .bool false, .int .i64 0] 35)) := ⟨_, rfl⟩
  rw [← hwr]
  have hb : Below w.heap.size w w1 := by rw [hwr]; exact (Below.alloc (Below.alloc (Below.refl _ _) (by first | exact Nat.le_refl _ | (simp; omega) | simp) _) (by first | exact Nat.le_refl _ | (simp; omega) | simp) _)
  have cc : CellsAt w1 (w.heap.size) [.int .i64 L.c.t, .int .i64 L.c.l, .int .i64 L.c.k, .int .i64 L.c.s, .int .i64 L.c.m, .int .i64 L.clock, .int .i64 L.stamps, .int .i64 L.log, .int .i64 L.fin, .int .i64 L.thread, .int .i64 L.lock, .int .i64 L.loc, .int .i64 L.size, .int .i64 me, .int .i64 other, .bool false, .int .i64 m.s, .int .i64 m.k, .int .i64 m.a, .func (.func 30) #[] #[]] := by rw [hwr]; exact (cellsAt_alloc (cellsAt_new' w _ _ (w.heap.size) (by simp)) _)
  have ccz : w.heap.size < w1.heap.size := World.block_lt_of_cell? _ _ (cc 0 _ rfl)
  have oz : OutZ w1 (w.heap.size + 1) := by rw [hwr]; exact (OutZ.new' (w.alloc (.cells #[.int .i64 L.c.t, .int .i64 L.c.l, .int .i64 L.c.k, .int .i64 L.c.s, .int .i64 L.c.m, .int .i64 L.clock, .int .i64 L.stamps, .int .i64 L.log, .int .i64 L.fin, .int .i64 L.thread, .int .i64 L.lock, .int .i64 L.loc, .int .i64 L.size, .int .i64 me, .int .i64 other, .bool false, .int .i64 m.s, .int .i64 m.k, .int .i64 m.a, .func (.func 30) #[] #[]] 119)) _ (w.heap.size + 1) (by simp))
  have ozz : w.heap.size + 1 < w1.heap.size := OutZ.lt oz
  have h1 := runAt_keep h0 hb
  replace G := gb_trans G (gb_of_below (some g) hb)
  clear hb hwr
  replace hS0 := G.size
  have cc_4 : w1.cell? ⟨w.heap.size, 4, none⟩ = some (.int .i64 L.c.m) := cc 4 _ rfl
  have cc_13 : w1.cell? ⟨w.heap.size, 13, none⟩ = some (.int .i64 me) := cc 13 _ rfl
  have cc_14 : w1.cell? ⟨w.heap.size, 14, none⟩ = some (.int .i64 other) := cc 14 _ rfl
  have cc_15 : w1.cell? ⟨w.heap.size, 15, none⟩ = some (.bool false) := cc 15 _ rfl
  have cc_16 : w1.cell? ⟨w.heap.size, 16, none⟩ = some (.int .i64 m.s) := cc 16 _ rfl
  have cc_17 : w1.cell? ⟨w.heap.size, 17, none⟩ = some (.int .i64 m.k) := cc 17 _ rfl
  have cc_18 : w1.cell? ⟨w.heap.size, 18, none⟩ = some (.int .i64 m.a) := cc 18 _ rfl
  have cc_19 : w1.cell? ⟨w.heap.size, 19, none⟩ = some (.func (.func 30) #[] #[]) := cc 19 _ rfl
  have cc13 : CellsAt w1 (w.heap.size) [.int .i64 L.c.t, .int .i64 L.c.l, .int .i64 L.c.k, .int .i64 L.c.s, .int .i64 L.c.m, .int .i64 L.clock, .int .i64 L.stamps, .int .i64 L.log, .int .i64 L.fin, .int .i64 L.thread, .int .i64 L.lock, .int .i64 L.loc, .int .i64 L.size] := cellsAt_take 13 cc
  go_wp2_with (first | ((with_reducible refine wp_ld_lay ?hw13_59 ?x13_59 ?ho13_59 (w.heap.size) 0 ?hx13_59 [.int .i64 L.c.t, .int .i64 L.c.l, .int .i64 L.c.k, .int .i64 L.c.s, .int .i64 L.c.m, .int .i64 L.clock, .int .i64 L.stamps, .int .i64 L.log, .int .i64 L.fin, .int .i64 L.thread, .int .i64 L.lock, .int .i64 L.loc, .int .i64 L.size] rfl (rangeAt_of cc13) ?hh13_59); (case ho13_59 => exact rfl); (case hx13_59 => exact rfl); (case hw13_59 => exact rfl)) | ((with_reducible refine wp_ld_case ?hw20_60 ?x20_60 ?ho20_60 (w.heap.size) 0 ?hx20_60 [.int .i64 L.c.t, .int .i64 L.c.l, .int .i64 L.c.k, .int .i64 L.c.s, .int .i64 L.c.m, .int .i64 L.clock, .int .i64 L.stamps, .int .i64 L.log, .int .i64 L.fin, .int .i64 L.thread, .int .i64 L.lock, .int .i64 L.loc, .int .i64 L.size, .int .i64 me, .int .i64 other, .bool false, .int .i64 m.s, .int .i64 m.k, .int .i64 m.a, .func (.func 30) #[] #[]] rfl (rangeAt_of cc) ?hh20_60); (case ho20_60 => exact rfl); (case hx20_60 => exact rfl); (case hw20_60 => exact rfl)))
  ((with_reducible refine (HS.out _).mono ?_); rintro e w2 ⟨rfl, hb⟩)
  clear cc_4 cc_13 cc_14 cc_15 cc_16 cc_17 cc_18 cc_19
  clear cc13
  have hsz := hb.size
  (try simp at hsz)
  replace cc := cellsAt_keep cc hb
  replace oz := OutZ.below oz hb
  replace ccz : w.heap.size < w2.heap.size := by omega
  replace ozz : w.heap.size + 1 < w2.heap.size := by omega
  have h2 := runAt_keep h1 hb
  replace G := gb_trans G (gb_of_below (some g) hb)
  clear hb hsz
  replace hS0 := G.size
  have cc_4 : w2.cell? ⟨w.heap.size, 4, none⟩ = some (.int .i64 L.c.m) := cc 4 _ rfl
  have cc_13 : w2.cell? ⟨w.heap.size, 13, none⟩ = some (.int .i64 me) := cc 13 _ rfl
  have cc_14 : w2.cell? ⟨w.heap.size, 14, none⟩ = some (.int .i64 other) := cc 14 _ rfl
  have cc_15 : w2.cell? ⟨w.heap.size, 15, none⟩ = some (.bool false) := cc 15 _ rfl
  have cc_16 : w2.cell? ⟨w.heap.size, 16, none⟩ = some (.int .i64 m.s) := cc 16 _ rfl
  have cc_17 : w2.cell? ⟨w.heap.size, 17, none⟩ = some (.int .i64 m.k) := cc 17 _ rfl
  have cc_18 : w2.cell? ⟨w.heap.size, 18, none⟩ = some (.int .i64 m.a) := cc 18 _ rfl
  have cc_19 : w2.cell? ⟨w.heap.size, 19, none⟩ = some (.func (.func 30) #[] #[]) := cc 19 _ rfl
  have cc13 : CellsAt w2 (w.heap.size) [.int .i64 L.c.t, .int .i64 L.c.l, .int .i64 L.c.k, .int .i64 L.c.s, .int .i64 L.c.m, .int .i64 L.clock, .int .i64 L.stamps, .int .i64 L.log, .int .i64 L.fin, .int .i64 L.thread, .int .i64 L.lock, .int .i64 L.loc, .int .i64 L.size] := cellsAt_take 13 cc
  go_wp2_with (first | ((with_reducible refine wp_ld_lay ?hw13_61 ?x13_61 ?ho13_61 (w.heap.size) 0 ?hx13_61 [.int .i64 L.c.t, .int .i64 L.c.l, .int .i64 L.c.k, .int .i64 L.c.s, .int .i64 L.c.m, .int .i64 L.clock, .int .i64 L.stamps, .int .i64 L.log, .int .i64 L.fin, .int .i64 L.thread, .int .i64 L.lock, .int .i64 L.loc, .int .i64 L.size] rfl (rangeAt_of cc13) ?hh13_61); (case ho13_61 => exact rfl); (case hx13_61 => exact rfl); (case hw13_61 => exact rfl)) | ((with_reducible refine wp_ld_case ?hw20_62 ?x20_62 ?ho20_62 (w.heap.size) 0 ?hx20_62 [.int .i64 L.c.t, .int .i64 L.c.l, .int .i64 L.c.k, .int .i64 L.c.s, .int .i64 L.c.m, .int .i64 L.clock, .int .i64 L.stamps, .int .i64 L.log, .int .i64 L.fin, .int .i64 L.thread, .int .i64 L.lock, .int .i64 L.loc, .int .i64 L.size, .int .i64 me, .int .i64 other, .bool false, .int .i64 m.s, .int .i64 m.k, .int .i64 m.a, .func (.func 30) #[] #[]] rfl (rangeAt_of cc) ?hh20_62); (case ho20_62 => exact rfl); (case hx20_62 => exact rfl); (case hw20_62 => exact rfl)))
  ((with_reducible refine (load_some _ g _ _ _ h2).mono ?_); rintro e w3 ⟨rfl, h3, hb⟩)
  clear cc_4 cc_13 cc_14 cc_15 cc_16 cc_17 cc_18 cc_19
  clear cc13
  have hsz := hb.size
  (try simp at hsz)
  replace cc := cellsAt_gb cc hb (by omega)
  replace oz := OutZ.gb oz hb (by omega)
  replace ccz : w.heap.size < w3.heap.size := by omega
  replace ozz : w.heap.size + 1 < w3.heap.size := by omega
  replace G := gb_trans G hb
  clear hb hsz
  replace hS0 := G.size
  have cc_4 : w3.cell? ⟨w.heap.size, 4, none⟩ = some (.int .i64 L.c.m) := cc 4 _ rfl
  have cc_13 : w3.cell? ⟨w.heap.size, 13, none⟩ = some (.int .i64 me) := cc 13 _ rfl
  have cc_14 : w3.cell? ⟨w.heap.size, 14, none⟩ = some (.int .i64 other) := cc 14 _ rfl
  have cc_15 : w3.cell? ⟨w.heap.size, 15, none⟩ = some (.bool false) := cc 15 _ rfl
  have cc_16 : w3.cell? ⟨w.heap.size, 16, none⟩ = some (.int .i64 m.s) := cc 16 _ rfl
  have cc_17 : w3.cell? ⟨w.heap.size, 17, none⟩ = some (.int .i64 m.k) := cc 17 _ rfl
  have cc_18 : w3.cell? ⟨w.heap.size, 18, none⟩ = some (.int .i64 m.a) := cc 18 _ rfl
  have cc_19 : w3.cell? ⟨w.heap.size, 19, none⟩ = some (.func (.func 30) #[] #[]) := cc 19 _ rfl
  have cc13 : CellsAt w3 (w.heap.size) [.int .i64 L.c.t, .int .i64 L.c.l, .int .i64 L.c.k, .int .i64 L.c.s, .int .i64 L.c.m, .int .i64 L.clock, .int .i64 L.stamps, .int .i64 L.log, .int .i64 L.fin, .int .i64 L.thread, .int .i64 L.lock, .int .i64 L.loc, .int .i64 L.size] := cellsAt_take 13 cc
  go_wp2_with (first | ((with_reducible refine wp_ld_lay ?hw13_63 ?x13_63 ?ho13_63 (w.heap.size) 0 ?hx13_63 [.int .i64 L.c.t, .int .i64 L.c.l, .int .i64 L.c.k, .int .i64 L.c.s, .int .i64 L.c.m, .int .i64 L.clock, .int .i64 L.stamps, .int .i64 L.log, .int .i64 L.fin, .int .i64 L.thread, .int .i64 L.lock, .int .i64 L.loc, .int .i64 L.size] rfl (rangeAt_of cc13) ?hh13_63); (case ho13_63 => exact rfl); (case hx13_63 => exact rfl); (case hw13_63 => exact rfl)) | ((with_reducible refine wp_ld_case ?hw20_64 ?x20_64 ?ho20_64 (w.heap.size) 0 ?hx20_64 [.int .i64 L.c.t, .int .i64 L.c.l, .int .i64 L.c.k, .int .i64 L.c.s, .int .i64 L.c.m, .int .i64 L.clock, .int .i64 L.stamps, .int .i64 L.log, .int .i64 L.fin, .int .i64 L.thread, .int .i64 L.lock, .int .i64 L.loc, .int .i64 L.size, .int .i64 me, .int .i64 other, .bool false, .int .i64 m.s, .int .i64 m.k, .int .i64 m.a, .func (.func 30) #[] #[]] rfl (rangeAt_of cc) ?hh20_64); (case ho20_64 => exact rfl); (case hx20_64 => exact rfl); (case hw20_64 => exact rfl)))
  ((with_reducible refine (kind_any _ _).mono ?_); rintro e w' ⟨rfl, rfl⟩)
  clear cc13
  have cc13 : CellsAt w3 (w.heap.size) [.int .i64 L.c.t, .int .i64 L.c.l, .int .i64 L.c.k, .int .i64 L.c.s, .int .i64 L.c.m, .int .i64 L.clock, .int .i64 L.stamps, .int .i64 L.log, .int .i64 L.fin, .int .i64 L.thread, .int .i64 L.lock, .int .i64 L.loc, .int .i64 L.size] := cellsAt_take 13 cc
  have oq0 := oz.c0
  have oq1 := oz.c1
  have oq2 := oz.c2
  have oq3 := oz.c3
  have oq4 := oz.c4
  have oq5 := oz.c5
  have oq6 := oz.c6
  have of := oz.fr
  go_wp2_with (first | ((with_reducible refine wp_ld_lay ?hw13_65 ?x13_65 ?ho13_65 (w.heap.size) 0 ?hx13_65 [.int .i64 L.c.t, .int .i64 L.c.l, .int .i64 L.c.k, .int .i64 L.c.s, .int .i64 L.c.m, .int .i64 L.clock, .int .i64 L.stamps, .int .i64 L.log, .int .i64 L.fin, .int .i64 L.thread, .int .i64 L.lock, .int .i64 L.loc, .int .i64 L.size] rfl (rangeAt_of cc13) ?hh13_65); (case ho13_65 => exact rfl); (case hx13_65 => exact rfl); (case hw13_65 => exact rfl)) | ((with_reducible refine wp_ld_case ?hw20_66 ?x20_66 ?ho20_66 (w.heap.size) 0 ?hx20_66 [.int .i64 L.c.t, .int .i64 L.c.l, .int .i64 L.c.k, .int .i64 L.c.s, .int .i64 L.c.m, .int .i64 L.clock, .int .i64 L.stamps, .int .i64 L.log, .int .i64 L.fin, .int .i64 L.thread, .int .i64 L.lock, .int .i64 L.loc, .int .i64 L.size, .int .i64 me, .int .i64 other, .bool false, .int .i64 m.s, .int .i64 m.k, .int .i64 m.a, .func (.func 30) #[] #[]] rfl (rangeAt_of cc) ?hh20_66); (case ho20_66 => exact rfl); (case hx20_66 => exact rfl); (case hw20_66 => exact rfl)))
  obtain ⟨W, hW, k0, k1, k2, k3, k4, k5, k6⟩ := outs_at oz (.int .i64 (0)) (.int .i64 (0)) (.int .i64 (0)) (.int .i64 (0)) (.bool false) (.bool false) (.int .i64 (0))
  rw [← hW]
  simp [bodyPost, results, Try.results61, go_sem, k0, k1, k2, k3, k4, k5, k6, OutD.v]
  rw [hW]
  exact gb_outs G (by first | exact Nat.le_refl _ | omega) _ _ _ _ _ _ _

theorem res_f1 (w : World) (g : Nat) (L : Ly) (hok : L.ok) (me other : Int) (m : Ct) (s : Int × Bool) (h0 : RunAt w g [s]) (hi : I64 s.1) (hs : ¬s.1 % 4 = 0) :
    Calls Try.prog 61 #[caseV L me other false m, .pointer (some ⟨g, 0, none⟩)] w fun e w' => e = .panicked [{ v := .iface 124 (Ask.v ⟨1, atStamp L other, 0, 0⟩), recovered := false }] ∧ w.grownBy w' (some g) := by
  unfold caseV
  have HM : Hid (∀ w, Calls Try.prog 38 #[L.v, .int .i64 me] w fun e w' => e = .returned (.int .i64 (atStatus L me)) ∧ Below w.heap.size w w') := Lib.hid (fun w => status_any L me w hok)
  have HS : Hid (∀ w, Calls Try.prog 38 #[L.v, .int .i64 other] w fun e w' => e = .returned (.int .i64 (atStatus L other)) ∧ Below w.heap.size w w') := Lib.hid (fun w => status_any L other w hok)
  have HT : Hid (∀ w, Calls Try.prog 64 #[L.v, .int .i64 other] w fun e w' => e = .returned (.int .i64 (atStamp L other)) ∧ Below w.heap.size w w') := Lib.hid (fun w => stamp_any L other w hok)
  have HK : Hid (∀ w, Calls Try.prog 65 #[L.v, .int .i64 other] w fun e w' => e = .returned (.int .i64 (atKarma L other)) ∧ Below w.heap.size w w') := Lib.hid (fun w => karma_any L other w hok)
  unfold Ly.v at HM HS HT HK
  have hs0 : (s.1 % 4 == 0) = false := by simp [hs]
  have hg0 := runAt_lt h0
  have G : w.grownBy w (some g) := gb_refl _ _
  have hS0 : w.heap.size + 0 ≤ w.heap.size := Nat.le_refl _
  go_enter Try.func61, Try.ntmps61
  go_wp2_with fail
  obtain ⟨w1, hwr⟩ : ∃ W, W = ((w.alloc (.cells #[.int .i64 L.c.t, .int .i64 L.c.l, .int .i64 L.c.k, .int .i64 L.c.s, .int .i64 L.c.m, .int .i64 L.clock, .int .i64 L.stamps, .int .i64 L.log, .int .i64 L.fin, .int .i64 L.thread, .int .i64 L.lock, .int .i64 L.loc, .int .i64 L.size, .int .i64 me, .int .i64 other, .bool false, .int .i64 m.s, .int .i64 m.k, .int .i64 m.a, .func (.func 30) #[] #[]] 119)).alloc (.cells #[.int .i64 0, .int .i64 0, .int .i64 0, .int .i64 0, .bool false, .bool false, .int .i64 0] 35)) := ⟨_, rfl⟩
  rw [← hwr]
  have hb : Below w.heap.size w w1 := by rw [hwr]; exact (Below.alloc (Below.alloc (Below.refl _ _) (by first | exact Nat.le_refl _ | (simp; omega) | simp) _) (by first | exact Nat.le_refl _ | (simp; omega) | simp) _)
  have cc : CellsAt w1 (w.heap.size) [.int .i64 L.c.t, .int .i64 L.c.l, .int .i64 L.c.k, .int .i64 L.c.s, .int .i64 L.c.m, .int .i64 L.clock, .int .i64 L.stamps, .int .i64 L.log, .int .i64 L.fin, .int .i64 L.thread, .int .i64 L.lock, .int .i64 L.loc, .int .i64 L.size, .int .i64 me, .int .i64 other, .bool false, .int .i64 m.s, .int .i64 m.k, .int .i64 m.a, .func (.func 30) #[] #[]] := by rw [hwr]; exact (cellsAt_alloc (cellsAt_new' w _ _ (w.heap.size) (by simp)) _)
  have ccz : w.heap.size < w1.heap.size := World.block_lt_of_cell? _ _ (cc 0 _ rfl)
  have oz : OutZ w1 (w.heap.size + 1) := by rw [hwr]; exact (OutZ.new' (w.alloc (.cells #[.int .i64 L.c.t, .int .i64 L.c.l, .int .i64 L.c.k, .int .i64 L.c.s, .int .i64 L.c.m, .int .i64 L.clock, .int .i64 L.stamps, .int .i64 L.log, .int .i64 L.fin, .int .i64 L.thread, .int .i64 L.lock, .int .i64 L.loc, .int .i64 L.size, .int .i64 me, .int .i64 other, .bool false, .int .i64 m.s, .int .i64 m.k, .int .i64 m.a, .func (.func 30) #[] #[]] 119)) _ (w.heap.size + 1) (by simp))
  have ozz : w.heap.size + 1 < w1.heap.size := OutZ.lt oz
  have h1 := runAt_keep h0 hb
  replace G := gb_trans G (gb_of_below (some g) hb)
  clear hb hwr
  replace hS0 := G.size
  have cc_4 : w1.cell? ⟨w.heap.size, 4, none⟩ = some (.int .i64 L.c.m) := cc 4 _ rfl
  have cc_13 : w1.cell? ⟨w.heap.size, 13, none⟩ = some (.int .i64 me) := cc 13 _ rfl
  have cc_14 : w1.cell? ⟨w.heap.size, 14, none⟩ = some (.int .i64 other) := cc 14 _ rfl
  have cc_15 : w1.cell? ⟨w.heap.size, 15, none⟩ = some (.bool false) := cc 15 _ rfl
  have cc_16 : w1.cell? ⟨w.heap.size, 16, none⟩ = some (.int .i64 m.s) := cc 16 _ rfl
  have cc_17 : w1.cell? ⟨w.heap.size, 17, none⟩ = some (.int .i64 m.k) := cc 17 _ rfl
  have cc_18 : w1.cell? ⟨w.heap.size, 18, none⟩ = some (.int .i64 m.a) := cc 18 _ rfl
  have cc_19 : w1.cell? ⟨w.heap.size, 19, none⟩ = some (.func (.func 30) #[] #[]) := cc 19 _ rfl
  have cc13 : CellsAt w1 (w.heap.size) [.int .i64 L.c.t, .int .i64 L.c.l, .int .i64 L.c.k, .int .i64 L.c.s, .int .i64 L.c.m, .int .i64 L.clock, .int .i64 L.stamps, .int .i64 L.log, .int .i64 L.fin, .int .i64 L.thread, .int .i64 L.lock, .int .i64 L.loc, .int .i64 L.size] := cellsAt_take 13 cc
  go_wp2_with (first | ((with_reducible refine wp_ld_lay ?hw13_67 ?x13_67 ?ho13_67 (w.heap.size) 0 ?hx13_67 [.int .i64 L.c.t, .int .i64 L.c.l, .int .i64 L.c.k, .int .i64 L.c.s, .int .i64 L.c.m, .int .i64 L.clock, .int .i64 L.stamps, .int .i64 L.log, .int .i64 L.fin, .int .i64 L.thread, .int .i64 L.lock, .int .i64 L.loc, .int .i64 L.size] rfl (rangeAt_of cc13) ?hh13_67); (case ho13_67 => exact rfl); (case hx13_67 => exact rfl); (case hw13_67 => exact rfl)) | ((with_reducible refine wp_ld_case ?hw20_68 ?x20_68 ?ho20_68 (w.heap.size) 0 ?hx20_68 [.int .i64 L.c.t, .int .i64 L.c.l, .int .i64 L.c.k, .int .i64 L.c.s, .int .i64 L.c.m, .int .i64 L.clock, .int .i64 L.stamps, .int .i64 L.log, .int .i64 L.fin, .int .i64 L.thread, .int .i64 L.lock, .int .i64 L.loc, .int .i64 L.size, .int .i64 me, .int .i64 other, .bool false, .int .i64 m.s, .int .i64 m.k, .int .i64 m.a, .func (.func 30) #[] #[]] rfl (rangeAt_of cc) ?hh20_68); (case ho20_68 => exact rfl); (case hx20_68 => exact rfl); (case hw20_68 => exact rfl)))
  ((with_reducible refine (HS.out _).mono ?_); rintro e w2 ⟨rfl, hb⟩)
  clear cc_4 cc_13 cc_14 cc_15 cc_16 cc_17 cc_18 cc_19
  clear cc13
  have hsz := hb.size
  (try simp at hsz)
  replace cc := cellsAt_keep cc hb
  replace oz := OutZ.below oz hb
  replace ccz : w.heap.size < w2.heap.size := by omega
  replace ozz : w.heap.size + 1 < w2.heap.size := by omega
  have h2 := runAt_keep h1 hb
  replace G := gb_trans G (gb_of_below (some g) hb)
  clear hb hsz
  replace hS0 := G.size
  have cc_4 : w2.cell? ⟨w.heap.size, 4, none⟩ = some (.int .i64 L.c.m) := cc 4 _ rfl
  have cc_13 : w2.cell? ⟨w.heap.size, 13, none⟩ = some (.int .i64 me) := cc 13 _ rfl
  have cc_14 : w2.cell? ⟨w.heap.size, 14, none⟩ = some (.int .i64 other) := cc 14 _ rfl
  have cc_15 : w2.cell? ⟨w.heap.size, 15, none⟩ = some (.bool false) := cc 15 _ rfl
  have cc_16 : w2.cell? ⟨w.heap.size, 16, none⟩ = some (.int .i64 m.s) := cc 16 _ rfl
  have cc_17 : w2.cell? ⟨w.heap.size, 17, none⟩ = some (.int .i64 m.k) := cc 17 _ rfl
  have cc_18 : w2.cell? ⟨w.heap.size, 18, none⟩ = some (.int .i64 m.a) := cc 18 _ rfl
  have cc_19 : w2.cell? ⟨w.heap.size, 19, none⟩ = some (.func (.func 30) #[] #[]) := cc 19 _ rfl
  have cc13 : CellsAt w2 (w.heap.size) [.int .i64 L.c.t, .int .i64 L.c.l, .int .i64 L.c.k, .int .i64 L.c.s, .int .i64 L.c.m, .int .i64 L.clock, .int .i64 L.stamps, .int .i64 L.log, .int .i64 L.fin, .int .i64 L.thread, .int .i64 L.lock, .int .i64 L.loc, .int .i64 L.size] := cellsAt_take 13 cc
  go_wp2_with (first | ((with_reducible refine wp_ld_lay ?hw13_69 ?x13_69 ?ho13_69 (w.heap.size) 0 ?hx13_69 [.int .i64 L.c.t, .int .i64 L.c.l, .int .i64 L.c.k, .int .i64 L.c.s, .int .i64 L.c.m, .int .i64 L.clock, .int .i64 L.stamps, .int .i64 L.log, .int .i64 L.fin, .int .i64 L.thread, .int .i64 L.lock, .int .i64 L.loc, .int .i64 L.size] rfl (rangeAt_of cc13) ?hh13_69); (case ho13_69 => exact rfl); (case hx13_69 => exact rfl); (case hw13_69 => exact rfl)) | ((with_reducible refine wp_ld_case ?hw20_70 ?x20_70 ?ho20_70 (w.heap.size) 0 ?hx20_70 [.int .i64 L.c.t, .int .i64 L.c.l, .int .i64 L.c.k, .int .i64 L.c.s, .int .i64 L.c.m, .int .i64 L.clock, .int .i64 L.stamps, .int .i64 L.log, .int .i64 L.fin, .int .i64 L.thread, .int .i64 L.lock, .int .i64 L.loc, .int .i64 L.size, .int .i64 me, .int .i64 other, .bool false, .int .i64 m.s, .int .i64 m.k, .int .i64 m.a, .func (.func 30) #[] #[]] rfl (rangeAt_of cc) ?hh20_70); (case ho20_70 => exact rfl); (case hx20_70 => exact rfl); (case hw20_70 => exact rfl)))
  ((with_reducible refine (load_some _ g _ _ _ h2).mono ?_); rintro e w3 ⟨rfl, h3, hb⟩)
  clear cc_4 cc_13 cc_14 cc_15 cc_16 cc_17 cc_18 cc_19
  clear cc13
  have hsz := hb.size
  (try simp at hsz)
  replace cc := cellsAt_gb cc hb (by omega)
  replace oz := OutZ.gb oz hb (by omega)
  replace ccz : w.heap.size < w3.heap.size := by omega
  replace ozz : w.heap.size + 1 < w3.heap.size := by omega
  replace G := gb_trans G hb
  clear hb hsz
  replace hS0 := G.size
  have cc_4 : w3.cell? ⟨w.heap.size, 4, none⟩ = some (.int .i64 L.c.m) := cc 4 _ rfl
  have cc_13 : w3.cell? ⟨w.heap.size, 13, none⟩ = some (.int .i64 me) := cc 13 _ rfl
  have cc_14 : w3.cell? ⟨w.heap.size, 14, none⟩ = some (.int .i64 other) := cc 14 _ rfl
  have cc_15 : w3.cell? ⟨w.heap.size, 15, none⟩ = some (.bool false) := cc 15 _ rfl
  have cc_16 : w3.cell? ⟨w.heap.size, 16, none⟩ = some (.int .i64 m.s) := cc 16 _ rfl
  have cc_17 : w3.cell? ⟨w.heap.size, 17, none⟩ = some (.int .i64 m.k) := cc 17 _ rfl
  have cc_18 : w3.cell? ⟨w.heap.size, 18, none⟩ = some (.int .i64 m.a) := cc 18 _ rfl
  have cc_19 : w3.cell? ⟨w.heap.size, 19, none⟩ = some (.func (.func 30) #[] #[]) := cc 19 _ rfl
  have cc13 : CellsAt w3 (w.heap.size) [.int .i64 L.c.t, .int .i64 L.c.l, .int .i64 L.c.k, .int .i64 L.c.s, .int .i64 L.c.m, .int .i64 L.clock, .int .i64 L.stamps, .int .i64 L.log, .int .i64 L.fin, .int .i64 L.thread, .int .i64 L.lock, .int .i64 L.loc, .int .i64 L.size] := cellsAt_take 13 cc
  go_wp2_with (first | ((with_reducible refine wp_ld_lay ?hw13_71 ?x13_71 ?ho13_71 (w.heap.size) 0 ?hx13_71 [.int .i64 L.c.t, .int .i64 L.c.l, .int .i64 L.c.k, .int .i64 L.c.s, .int .i64 L.c.m, .int .i64 L.clock, .int .i64 L.stamps, .int .i64 L.log, .int .i64 L.fin, .int .i64 L.thread, .int .i64 L.lock, .int .i64 L.loc, .int .i64 L.size] rfl (rangeAt_of cc13) ?hh13_71); (case ho13_71 => exact rfl); (case hx13_71 => exact rfl); (case hw13_71 => exact rfl)) | ((with_reducible refine wp_ld_case ?hw20_72 ?x20_72 ?ho20_72 (w.heap.size) 0 ?hx20_72 [.int .i64 L.c.t, .int .i64 L.c.l, .int .i64 L.c.k, .int .i64 L.c.s, .int .i64 L.c.m, .int .i64 L.clock, .int .i64 L.stamps, .int .i64 L.log, .int .i64 L.fin, .int .i64 L.thread, .int .i64 L.lock, .int .i64 L.loc, .int .i64 L.size, .int .i64 me, .int .i64 other, .bool false, .int .i64 m.s, .int .i64 m.k, .int .i64 m.a, .func (.func 30) #[] #[]] rfl (rangeAt_of cc) ?hh20_72); (case ho20_72 => exact rfl); (case hx20_72 => exact rfl); (case hw20_72 => exact rfl)))
  ((with_reducible refine (kind_any _ _).mono ?_); rintro e w' ⟨rfl, rfl⟩)
  clear cc13
  have cc13 : CellsAt w3 (w.heap.size) [.int .i64 L.c.t, .int .i64 L.c.l, .int .i64 L.c.k, .int .i64 L.c.s, .int .i64 L.c.m, .int .i64 L.clock, .int .i64 L.stamps, .int .i64 L.log, .int .i64 L.fin, .int .i64 L.thread, .int .i64 L.lock, .int .i64 L.loc, .int .i64 L.size] := cellsAt_take 13 cc
  go_wp2_with (first | ((with_reducible refine wp_ld_lay ?hw13_73 ?x13_73 ?ho13_73 (w.heap.size) 0 ?hx13_73 [.int .i64 L.c.t, .int .i64 L.c.l, .int .i64 L.c.k, .int .i64 L.c.s, .int .i64 L.c.m, .int .i64 L.clock, .int .i64 L.stamps, .int .i64 L.log, .int .i64 L.fin, .int .i64 L.thread, .int .i64 L.lock, .int .i64 L.loc, .int .i64 L.size] rfl (rangeAt_of cc13) ?hh13_73); (case ho13_73 => exact rfl); (case hx13_73 => exact rfl); (case hw13_73 => exact rfl)) | ((with_reducible refine wp_ld_case ?hw20_74 ?x20_74 ?ho20_74 (w.heap.size) 0 ?hx20_74 [.int .i64 L.c.t, .int .i64 L.c.l, .int .i64 L.c.k, .int .i64 L.c.s, .int .i64 L.c.m, .int .i64 L.clock, .int .i64 L.stamps, .int .i64 L.log, .int .i64 L.fin, .int .i64 L.thread, .int .i64 L.lock, .int .i64 L.loc, .int .i64 L.size, .int .i64 me, .int .i64 other, .bool false, .int .i64 m.s, .int .i64 m.k, .int .i64 m.a, .func (.func 30) #[] #[]] rfl (rangeAt_of cc) ?hh20_74); (case ho20_74 => exact rfl); (case hx20_74 => exact rfl); (case hw20_74 => exact rfl)))
  ((with_reducible refine (try_any _ hi _).mono ?_); rintro e w' ⟨rfl, rfl⟩)
  clear cc13
  have cc13 : CellsAt w3 (w.heap.size) [.int .i64 L.c.t, .int .i64 L.c.l, .int .i64 L.c.k, .int .i64 L.c.s, .int .i64 L.c.m, .int .i64 L.clock, .int .i64 L.stamps, .int .i64 L.log, .int .i64 L.fin, .int .i64 L.thread, .int .i64 L.lock, .int .i64 L.loc, .int .i64 L.size] := cellsAt_take 13 cc
  go_wp2_with (first | ((with_reducible refine wp_ld_lay ?hw13_75 ?x13_75 ?ho13_75 (w.heap.size) 0 ?hx13_75 [.int .i64 L.c.t, .int .i64 L.c.l, .int .i64 L.c.k, .int .i64 L.c.s, .int .i64 L.c.m, .int .i64 L.clock, .int .i64 L.stamps, .int .i64 L.log, .int .i64 L.fin, .int .i64 L.thread, .int .i64 L.lock, .int .i64 L.loc, .int .i64 L.size] rfl (rangeAt_of (cellsAt_alloc cc13 _)) ?hh13_75); (case ho13_75 => exact rfl); (case hx13_75 => exact rfl); (case hw13_75 => exact rfl)) | ((with_reducible refine wp_ld_case ?hw20_76 ?x20_76 ?ho20_76 (w.heap.size) 0 ?hx20_76 [.int .i64 L.c.t, .int .i64 L.c.l, .int .i64 L.c.k, .int .i64 L.c.s, .int .i64 L.c.m, .int .i64 L.clock, .int .i64 L.stamps, .int .i64 L.log, .int .i64 L.fin, .int .i64 L.thread, .int .i64 L.lock, .int .i64 L.loc, .int .i64 L.size, .int .i64 me, .int .i64 other, .bool false, .int .i64 m.s, .int .i64 m.k, .int .i64 m.a, .func (.func 30) #[] #[]] rfl (rangeAt_of (cellsAt_alloc cc _)) ?hh20_76); (case ho20_76 => exact rfl); (case hx20_76 => exact rfl); (case hw20_76 => exact rfl)))
  ((with_reducible refine (HT.out _).mono ?_); rintro e w4 ⟨rfl, hb⟩)
  clear cc_4 cc_13 cc_14 cc_15 cc_16 cc_17 cc_18 cc_19
  clear cc13
  have hsz := hb.size
  (try simp at hsz)
  have xcczn : w.heap.size ≠ w3.heap.size := by omega
  have xozzn : w.heap.size + 1 ≠ w3.heap.size := by omega
  have xgn : w3.heap.size ≠ g := by omega
  have xlo : w.heap.size ≤ w3.heap.size := by omega
  replace cc := cellsAt_keep (cellsAt_alloc cc _) hb
  replace oz := OutZ.below (OutZ.alloc oz _) hb
  have xq0 : w4.cell? ⟨w3.heap.size, 0, none⟩ = some (.int .i64 0) := cel_below hb (by rw [World.cell?_alloc_at _ _ _ _ (by simp)]; rfl)
  have xq1 : w4.cell? ⟨w3.heap.size, 1, none⟩ = some (.int .i64 0) := cel_below hb (by rw [World.cell?_alloc_at _ _ _ _ (by simp)]; rfl)
  have xq2 : w4.cell? ⟨w3.heap.size, 2, none⟩ = some (.int .i64 (s.1 / 4)) := cel_below hb (by rw [World.cell?_alloc_at _ _ _ _ (by simp)]; rfl)
  have xf : ∀ o, w4.frozen? ⟨w3.heap.size, o, none⟩ = false := fun o => fro_below hb (by first | omega | (simp; done) | (simp; omega)) (World.frozen?_alloc_at _ _ _ _ (by simp))
  replace ccz : w.heap.size < w4.heap.size := by omega
  replace ozz : w.heap.size + 1 < w4.heap.size := by omega
  have xz : w3.heap.size < w4.heap.size := World.block_lt_of_cell? _ _ xq0
  have h4 := runAt_keep (runAt_alloc h3 _) hb
  replace G := gb_trans (gb_alloc G _) (gb_of_below (some g) hb)
  clear hb hsz
  replace hS0 := G.size
  have cc_4 : w4.cell? ⟨w.heap.size, 4, none⟩ = some (.int .i64 L.c.m) := cc 4 _ rfl
  have cc_13 : w4.cell? ⟨w.heap.size, 13, none⟩ = some (.int .i64 me) := cc 13 _ rfl
  have cc_14 : w4.cell? ⟨w.heap.size, 14, none⟩ = some (.int .i64 other) := cc 14 _ rfl
  have cc_15 : w4.cell? ⟨w.heap.size, 15, none⟩ = some (.bool false) := cc 15 _ rfl
  have cc_16 : w4.cell? ⟨w.heap.size, 16, none⟩ = some (.int .i64 m.s) := cc 16 _ rfl
  have cc_17 : w4.cell? ⟨w.heap.size, 17, none⟩ = some (.int .i64 m.k) := cc 17 _ rfl
  have cc_18 : w4.cell? ⟨w.heap.size, 18, none⟩ = some (.int .i64 m.a) := cc 18 _ rfl
  have cc_19 : w4.cell? ⟨w.heap.size, 19, none⟩ = some (.func (.func 30) #[] #[]) := cc 19 _ rfl
  have cc13 : CellsAt w4 (w.heap.size) [.int .i64 L.c.t, .int .i64 L.c.l, .int .i64 L.c.k, .int .i64 L.c.s, .int .i64 L.c.m, .int .i64 L.clock, .int .i64 L.stamps, .int .i64 L.log, .int .i64 L.fin, .int .i64 L.thread, .int .i64 L.lock, .int .i64 L.loc, .int .i64 L.size] := cellsAt_take 13 cc
  go_wp2_with (first | ((with_reducible refine wp_ld_lay ?hw13_77 ?x13_77 ?ho13_77 (w.heap.size) 0 ?hx13_77 [.int .i64 L.c.t, .int .i64 L.c.l, .int .i64 L.c.k, .int .i64 L.c.s, .int .i64 L.c.m, .int .i64 L.clock, .int .i64 L.stamps, .int .i64 L.log, .int .i64 L.fin, .int .i64 L.thread, .int .i64 L.lock, .int .i64 L.loc, .int .i64 L.size] rfl (rangeAt_of cc13) ?hh13_77); (case ho13_77 => exact rfl); (case hx13_77 => exact rfl); (case hw13_77 => exact rfl)) | ((with_reducible refine wp_ld_case ?hw20_78 ?x20_78 ?ho20_78 (w.heap.size) 0 ?hx20_78 [.int .i64 L.c.t, .int .i64 L.c.l, .int .i64 L.c.k, .int .i64 L.c.s, .int .i64 L.c.m, .int .i64 L.clock, .int .i64 L.stamps, .int .i64 L.log, .int .i64 L.fin, .int .i64 L.thread, .int .i64 L.lock, .int .i64 L.loc, .int .i64 L.size, .int .i64 me, .int .i64 other, .bool false, .int .i64 m.s, .int .i64 m.k, .int .i64 m.a, .func (.func 30) #[] #[]] rfl (rangeAt_of cc) ?hh20_78); (case ho20_78 => exact rfl); (case hx20_78 => exact rfl); (case hw20_78 => exact rfl)))
  ((with_reducible refine (load_none _ g _ h4).mono ?_); rintro e w5 ⟨rfl, hb⟩)
  exact ⟨rfl, rfl, gb_trans G (gb_of_below (some g) hb)⟩

theorem res_f2 (w : World) (g : Nat) (L : Ly) (hok : L.ok) (me other : Int) (m : Ct) (s t : Int × Bool) (h0 : RunAt w g [s, t]) (hi : I64 s.1) (hs : ¬s.1 % 4 = 0) :
    Calls Try.prog 61 #[caseV L me other false m, .pointer (some ⟨g, 0, none⟩)] w fun e w' => e = .panicked [{ v := .iface 124 (Ask.v ⟨1, atKarma L other, 0, 0⟩), recovered := false }] ∧ w.grownBy w' (some g) := by
  unfold caseV
  have HM : Hid (∀ w, Calls Try.prog 38 #[L.v, .int .i64 me] w fun e w' => e = .returned (.int .i64 (atStatus L me)) ∧ Below w.heap.size w w') := Lib.hid (fun w => status_any L me w hok)
  have HS : Hid (∀ w, Calls Try.prog 38 #[L.v, .int .i64 other] w fun e w' => e = .returned (.int .i64 (atStatus L other)) ∧ Below w.heap.size w w') := Lib.hid (fun w => status_any L other w hok)
  have HT : Hid (∀ w, Calls Try.prog 64 #[L.v, .int .i64 other] w fun e w' => e = .returned (.int .i64 (atStamp L other)) ∧ Below w.heap.size w w') := Lib.hid (fun w => stamp_any L other w hok)
  have HK : Hid (∀ w, Calls Try.prog 65 #[L.v, .int .i64 other] w fun e w' => e = .returned (.int .i64 (atKarma L other)) ∧ Below w.heap.size w w') := Lib.hid (fun w => karma_any L other w hok)
  unfold Ly.v at HM HS HT HK
  have hs0 : (s.1 % 4 == 0) = false := by simp [hs]
  have hg0 := runAt_lt h0
  have G : w.grownBy w (some g) := gb_refl _ _
  have hS0 : w.heap.size + 0 ≤ w.heap.size := Nat.le_refl _
  go_enter Try.func61, Try.ntmps61
  go_wp2_with fail
  obtain ⟨w1, hwr⟩ : ∃ W, W = ((w.alloc (.cells #[.int .i64 L.c.t, .int .i64 L.c.l, .int .i64 L.c.k, .int .i64 L.c.s, .int .i64 L.c.m, .int .i64 L.clock, .int .i64 L.stamps, .int .i64 L.log, .int .i64 L.fin, .int .i64 L.thread, .int .i64 L.lock, .int .i64 L.loc, .int .i64 L.size, .int .i64 me, .int .i64 other, .bool false, .int .i64 m.s, .int .i64 m.k, .int .i64 m.a, .func (.func 30) #[] #[]] 119)).alloc (.cells #[.int .i64 0, .int .i64 0, .int .i64 0, .int .i64 0, .bool false, .bool false, .int .i64 0] 35)) := ⟨_, rfl⟩
  rw [← hwr]
  have hb : Below w.heap.size w w1 := by rw [hwr]; exact (Below.alloc (Below.alloc (Below.refl _ _) (by first | exact Nat.le_refl _ | (simp; omega) | simp) _) (by first | exact Nat.le_refl _ | (simp; omega) | simp) _)
  have cc : CellsAt w1 (w.heap.size) [.int .i64 L.c.t, .int .i64 L.c.l, .int .i64 L.c.k, .int .i64 L.c.s, .int .i64 L.c.m, .int .i64 L.clock, .int .i64 L.stamps, .int .i64 L.log, .int .i64 L.fin, .int .i64 L.thread, .int .i64 L.lock, .int .i64 L.loc, .int .i64 L.size, .int .i64 me, .int .i64 other, .bool false, .int .i64 m.s, .int .i64 m.k, .int .i64 m.a, .func (.func 30) #[] #[]] := by rw [hwr]; exact (cellsAt_alloc (cellsAt_new' w _ _ (w.heap.size) (by simp)) _)
  have ccz : w.heap.size < w1.heap.size := World.block_lt_of_cell? _ _ (cc 0 _ rfl)
  have oz : OutZ w1 (w.heap.size + 1) := by rw [hwr]; exact (OutZ.new' (w.alloc (.cells #[.int .i64 L.c.t, .int .i64 L.c.l, .int .i64 L.c.k, .int .i64 L.c.s, .int .i64 L.c.m, .int .i64 L.clock, .int .i64 L.stamps, .int .i64 L.log, .int .i64 L.fin, .int .i64 L.thread, .int .i64 L.lock, .int .i64 L.loc, .int .i64 L.size, .int .i64 me, .int .i64 other, .bool false, .int .i64 m.s, .int .i64 m.k, .int .i64 m.a, .func (.func 30) #[] #[]] 119)) _ (w.heap.size + 1) (by simp))
  have ozz : w.heap.size + 1 < w1.heap.size := OutZ.lt oz
  have h1 := runAt_keep h0 hb
  replace G := gb_trans G (gb_of_below (some g) hb)
  clear hb hwr
  replace hS0 := G.size
  have cc_4 : w1.cell? ⟨w.heap.size, 4, none⟩ = some (.int .i64 L.c.m) := cc 4 _ rfl
  have cc_13 : w1.cell? ⟨w.heap.size, 13, none⟩ = some (.int .i64 me) := cc 13 _ rfl
  have cc_14 : w1.cell? ⟨w.heap.size, 14, none⟩ = some (.int .i64 other) := cc 14 _ rfl
  have cc_15 : w1.cell? ⟨w.heap.size, 15, none⟩ = some (.bool false) := cc 15 _ rfl
  have cc_16 : w1.cell? ⟨w.heap.size, 16, none⟩ = some (.int .i64 m.s) := cc 16 _ rfl
  have cc_17 : w1.cell? ⟨w.heap.size, 17, none⟩ = some (.int .i64 m.k) := cc 17 _ rfl
  have cc_18 : w1.cell? ⟨w.heap.size, 18, none⟩ = some (.int .i64 m.a) := cc 18 _ rfl
  have cc_19 : w1.cell? ⟨w.heap.size, 19, none⟩ = some (.func (.func 30) #[] #[]) := cc 19 _ rfl
  have cc13 : CellsAt w1 (w.heap.size) [.int .i64 L.c.t, .int .i64 L.c.l, .int .i64 L.c.k, .int .i64 L.c.s, .int .i64 L.c.m, .int .i64 L.clock, .int .i64 L.stamps, .int .i64 L.log, .int .i64 L.fin, .int .i64 L.thread, .int .i64 L.lock, .int .i64 L.loc, .int .i64 L.size] := cellsAt_take 13 cc
  go_wp2_with (first | ((with_reducible refine wp_ld_lay ?hw13_79 ?x13_79 ?ho13_79 (w.heap.size) 0 ?hx13_79 [.int .i64 L.c.t, .int .i64 L.c.l, .int .i64 L.c.k, .int .i64 L.c.s, .int .i64 L.c.m, .int .i64 L.clock, .int .i64 L.stamps, .int .i64 L.log, .int .i64 L.fin, .int .i64 L.thread, .int .i64 L.lock, .int .i64 L.loc, .int .i64 L.size] rfl (rangeAt_of cc13) ?hh13_79); (case ho13_79 => exact rfl); (case hx13_79 => exact rfl); (case hw13_79 => exact rfl)) | ((with_reducible refine wp_ld_case ?hw20_80 ?x20_80 ?ho20_80 (w.heap.size) 0 ?hx20_80 [.int .i64 L.c.t, .int .i64 L.c.l, .int .i64 L.c.k, .int .i64 L.c.s, .int .i64 L.c.m, .int .i64 L.clock, .int .i64 L.stamps, .int .i64 L.log, .int .i64 L.fin, .int .i64 L.thread, .int .i64 L.lock, .int .i64 L.loc, .int .i64 L.size, .int .i64 me, .int .i64 other, .bool false, .int .i64 m.s, .int .i64 m.k, .int .i64 m.a, .func (.func 30) #[] #[]] rfl (rangeAt_of cc) ?hh20_80); (case ho20_80 => exact rfl); (case hx20_80 => exact rfl); (case hw20_80 => exact rfl)))
  ((with_reducible refine (HS.out _).mono ?_); rintro e w2 ⟨rfl, hb⟩)
  clear cc_4 cc_13 cc_14 cc_15 cc_16 cc_17 cc_18 cc_19
  clear cc13
  have hsz := hb.size
  (try simp at hsz)
  replace cc := cellsAt_keep cc hb
  replace oz := OutZ.below oz hb
  replace ccz : w.heap.size < w2.heap.size := by omega
  replace ozz : w.heap.size + 1 < w2.heap.size := by omega
  have h2 := runAt_keep h1 hb
  replace G := gb_trans G (gb_of_below (some g) hb)
  clear hb hsz
  replace hS0 := G.size
  have cc_4 : w2.cell? ⟨w.heap.size, 4, none⟩ = some (.int .i64 L.c.m) := cc 4 _ rfl
  have cc_13 : w2.cell? ⟨w.heap.size, 13, none⟩ = some (.int .i64 me) := cc 13 _ rfl
  have cc_14 : w2.cell? ⟨w.heap.size, 14, none⟩ = some (.int .i64 other) := cc 14 _ rfl
  have cc_15 : w2.cell? ⟨w.heap.size, 15, none⟩ = some (.bool false) := cc 15 _ rfl
  have cc_16 : w2.cell? ⟨w.heap.size, 16, none⟩ = some (.int .i64 m.s) := cc 16 _ rfl
  have cc_17 : w2.cell? ⟨w.heap.size, 17, none⟩ = some (.int .i64 m.k) := cc 17 _ rfl
  have cc_18 : w2.cell? ⟨w.heap.size, 18, none⟩ = some (.int .i64 m.a) := cc 18 _ rfl
  have cc_19 : w2.cell? ⟨w.heap.size, 19, none⟩ = some (.func (.func 30) #[] #[]) := cc 19 _ rfl
  have cc13 : CellsAt w2 (w.heap.size) [.int .i64 L.c.t, .int .i64 L.c.l, .int .i64 L.c.k, .int .i64 L.c.s, .int .i64 L.c.m, .int .i64 L.clock, .int .i64 L.stamps, .int .i64 L.log, .int .i64 L.fin, .int .i64 L.thread, .int .i64 L.lock, .int .i64 L.loc, .int .i64 L.size] := cellsAt_take 13 cc
  go_wp2_with (first | ((with_reducible refine wp_ld_lay ?hw13_81 ?x13_81 ?ho13_81 (w.heap.size) 0 ?hx13_81 [.int .i64 L.c.t, .int .i64 L.c.l, .int .i64 L.c.k, .int .i64 L.c.s, .int .i64 L.c.m, .int .i64 L.clock, .int .i64 L.stamps, .int .i64 L.log, .int .i64 L.fin, .int .i64 L.thread, .int .i64 L.lock, .int .i64 L.loc, .int .i64 L.size] rfl (rangeAt_of cc13) ?hh13_81); (case ho13_81 => exact rfl); (case hx13_81 => exact rfl); (case hw13_81 => exact rfl)) | ((with_reducible refine wp_ld_case ?hw20_82 ?x20_82 ?ho20_82 (w.heap.size) 0 ?hx20_82 [.int .i64 L.c.t, .int .i64 L.c.l, .int .i64 L.c.k, .int .i64 L.c.s, .int .i64 L.c.m, .int .i64 L.clock, .int .i64 L.stamps, .int .i64 L.log, .int .i64 L.fin, .int .i64 L.thread, .int .i64 L.lock, .int .i64 L.loc, .int .i64 L.size, .int .i64 me, .int .i64 other, .bool false, .int .i64 m.s, .int .i64 m.k, .int .i64 m.a, .func (.func 30) #[] #[]] rfl (rangeAt_of cc) ?hh20_82); (case ho20_82 => exact rfl); (case hx20_82 => exact rfl); (case hw20_82 => exact rfl)))
  ((with_reducible refine (load_some _ g _ _ _ h2).mono ?_); rintro e w3 ⟨rfl, h3, hb⟩)
  clear cc_4 cc_13 cc_14 cc_15 cc_16 cc_17 cc_18 cc_19
  clear cc13
  have hsz := hb.size
  (try simp at hsz)
  replace cc := cellsAt_gb cc hb (by omega)
  replace oz := OutZ.gb oz hb (by omega)
  replace ccz : w.heap.size < w3.heap.size := by omega
  replace ozz : w.heap.size + 1 < w3.heap.size := by omega
  replace G := gb_trans G hb
  clear hb hsz
  replace hS0 := G.size
  have cc_4 : w3.cell? ⟨w.heap.size, 4, none⟩ = some (.int .i64 L.c.m) := cc 4 _ rfl
  have cc_13 : w3.cell? ⟨w.heap.size, 13, none⟩ = some (.int .i64 me) := cc 13 _ rfl
  have cc_14 : w3.cell? ⟨w.heap.size, 14, none⟩ = some (.int .i64 other) := cc 14 _ rfl
  have cc_15 : w3.cell? ⟨w.heap.size, 15, none⟩ = some (.bool false) := cc 15 _ rfl
  have cc_16 : w3.cell? ⟨w.heap.size, 16, none⟩ = some (.int .i64 m.s) := cc 16 _ rfl
  have cc_17 : w3.cell? ⟨w.heap.size, 17, none⟩ = some (.int .i64 m.k) := cc 17 _ rfl
  have cc_18 : w3.cell? ⟨w.heap.size, 18, none⟩ = some (.int .i64 m.a) := cc 18 _ rfl
  have cc_19 : w3.cell? ⟨w.heap.size, 19, none⟩ = some (.func (.func 30) #[] #[]) := cc 19 _ rfl
  have cc13 : CellsAt w3 (w.heap.size) [.int .i64 L.c.t, .int .i64 L.c.l, .int .i64 L.c.k, .int .i64 L.c.s, .int .i64 L.c.m, .int .i64 L.clock, .int .i64 L.stamps, .int .i64 L.log, .int .i64 L.fin, .int .i64 L.thread, .int .i64 L.lock, .int .i64 L.loc, .int .i64 L.size] := cellsAt_take 13 cc
  go_wp2_with (first | ((with_reducible refine wp_ld_lay ?hw13_83 ?x13_83 ?ho13_83 (w.heap.size) 0 ?hx13_83 [.int .i64 L.c.t, .int .i64 L.c.l, .int .i64 L.c.k, .int .i64 L.c.s, .int .i64 L.c.m, .int .i64 L.clock, .int .i64 L.stamps, .int .i64 L.log, .int .i64 L.fin, .int .i64 L.thread, .int .i64 L.lock, .int .i64 L.loc, .int .i64 L.size] rfl (rangeAt_of cc13) ?hh13_83); (case ho13_83 => exact rfl); (case hx13_83 => exact rfl); (case hw13_83 => exact rfl)) | ((with_reducible refine wp_ld_case ?hw20_84 ?x20_84 ?ho20_84 (w.heap.size) 0 ?hx20_84 [.int .i64 L.c.t, .int .i64 L.c.l, .int .i64 L.c.k, .int .i64 L.c.s, .int .i64 L.c.m, .int .i64 L.clock, .int .i64 L.stamps, .int .i64 L.log, .int .i64 L.fin, .int .i64 L.thread, .int .i64 L.lock, .int .i64 L.loc, .int .i64 L.size, .int .i64 me, .int .i64 other, .bool false, .int .i64 m.s, .int .i64 m.k, .int .i64 m.a, .func (.func 30) #[] #[]] rfl (rangeAt_of cc) ?hh20_84); (case ho20_84 => exact rfl); (case hx20_84 => exact rfl); (case hw20_84 => exact rfl)))
  ((with_reducible refine (kind_any _ _).mono ?_); rintro e w' ⟨rfl, rfl⟩)
  clear cc13
  have cc13 : CellsAt w3 (w.heap.size) [.int .i64 L.c.t, .int .i64 L.c.l, .int .i64 L.c.k, .int .i64 L.c.s, .int .i64 L.c.m, .int .i64 L.clock, .int .i64 L.stamps, .int .i64 L.log, .int .i64 L.fin, .int .i64 L.thread, .int .i64 L.lock, .int .i64 L.loc, .int .i64 L.size] := cellsAt_take 13 cc
  go_wp2_with (first | ((with_reducible refine wp_ld_lay ?hw13_85 ?x13_85 ?ho13_85 (w.heap.size) 0 ?hx13_85 [.int .i64 L.c.t, .int .i64 L.c.l, .int .i64 L.c.k, .int .i64 L.c.s, .int .i64 L.c.m, .int .i64 L.clock, .int .i64 L.stamps, .int .i64 L.log, .int .i64 L.fin, .int .i64 L.thread, .int .i64 L.lock, .int .i64 L.loc, .int .i64 L.size] rfl (rangeAt_of cc13) ?hh13_85); (case ho13_85 => exact rfl); (case hx13_85 => exact rfl); (case hw13_85 => exact rfl)) | ((with_reducible refine wp_ld_case ?hw20_86 ?x20_86 ?ho20_86 (w.heap.size) 0 ?hx20_86 [.int .i64 L.c.t, .int .i64 L.c.l, .int .i64 L.c.k, .int .i64 L.c.s, .int .i64 L.c.m, .int .i64 L.clock, .int .i64 L.stamps, .int .i64 L.log, .int .i64 L.fin, .int .i64 L.thread, .int .i64 L.lock, .int .i64 L.loc, .int .i64 L.size, .int .i64 me, .int .i64 other, .bool false, .int .i64 m.s, .int .i64 m.k, .int .i64 m.a, .func (.func 30) #[] #[]] rfl (rangeAt_of cc) ?hh20_86); (case ho20_86 => exact rfl); (case hx20_86 => exact rfl); (case hw20_86 => exact rfl)))
  ((with_reducible refine (try_any _ hi _).mono ?_); rintro e w' ⟨rfl, rfl⟩)
  clear cc13
  have cc13 : CellsAt w3 (w.heap.size) [.int .i64 L.c.t, .int .i64 L.c.l, .int .i64 L.c.k, .int .i64 L.c.s, .int .i64 L.c.m, .int .i64 L.clock, .int .i64 L.stamps, .int .i64 L.log, .int .i64 L.fin, .int .i64 L.thread, .int .i64 L.lock, .int .i64 L.loc, .int .i64 L.size] := cellsAt_take 13 cc
  go_wp2_with (first | ((with_reducible refine wp_ld_lay ?hw13_87 ?x13_87 ?ho13_87 (w.heap.size) 0 ?hx13_87 [.int .i64 L.c.t, .int .i64 L.c.l, .int .i64 L.c.k, .int .i64 L.c.s, .int .i64 L.c.m, .int .i64 L.clock, .int .i64 L.stamps, .int .i64 L.log, .int .i64 L.fin, .int .i64 L.thread, .int .i64 L.lock, .int .i64 L.loc, .int .i64 L.size] rfl (rangeAt_of (cellsAt_alloc cc13 _)) ?hh13_87); (case ho13_87 => exact rfl); (case hx13_87 => exact rfl); (case hw13_87 => exact rfl)) | ((with_reducible refine wp_ld_case ?hw20_88 ?x20_88 ?ho20_88 (w.heap.size) 0 ?hx20_88 [.int .i64 L.c.t, .int .i64 L.c.l, .int .i64 L.c.k, .int .i64 L.c.s, .int .i64 L.c.m, .int .i64 L.clock, .int .i64 L.stamps, .int .i64 L.log, .int .i64 L.fin, .int .i64 L.thread, .int .i64 L.lock, .int .i64 L.loc, .int .i64 L.size, .int .i64 me, .int .i64 other, .bool false, .int .i64 m.s, .int .i64 m.k, .int .i64 m.a, .func (.func 30) #[] #[]] rfl (rangeAt_of (cellsAt_alloc cc _)) ?hh20_88); (case ho20_88 => exact rfl); (case hx20_88 => exact rfl); (case hw20_88 => exact rfl)))
  ((with_reducible refine (HT.out _).mono ?_); rintro e w4 ⟨rfl, hb⟩)
  clear cc_4 cc_13 cc_14 cc_15 cc_16 cc_17 cc_18 cc_19
  clear cc13
  have hsz := hb.size
  (try simp at hsz)
  have xcczn : w.heap.size ≠ w3.heap.size := by omega
  have xozzn : w.heap.size + 1 ≠ w3.heap.size := by omega
  have xgn : w3.heap.size ≠ g := by omega
  have xlo : w.heap.size ≤ w3.heap.size := by omega
  replace cc := cellsAt_keep (cellsAt_alloc cc _) hb
  replace oz := OutZ.below (OutZ.alloc oz _) hb
  have xq0 : w4.cell? ⟨w3.heap.size, 0, none⟩ = some (.int .i64 0) := cel_below hb (by rw [World.cell?_alloc_at _ _ _ _ (by simp)]; rfl)
  have xq1 : w4.cell? ⟨w3.heap.size, 1, none⟩ = some (.int .i64 0) := cel_below hb (by rw [World.cell?_alloc_at _ _ _ _ (by simp)]; rfl)
  have xq2 : w4.cell? ⟨w3.heap.size, 2, none⟩ = some (.int .i64 (s.1 / 4)) := cel_below hb (by rw [World.cell?_alloc_at _ _ _ _ (by simp)]; rfl)
  have xf : ∀ o, w4.frozen? ⟨w3.heap.size, o, none⟩ = false := fun o => fro_below hb (by first | omega | (simp; done) | (simp; omega)) (World.frozen?_alloc_at _ _ _ _ (by simp))
  replace ccz : w.heap.size < w4.heap.size := by omega
  replace ozz : w.heap.size + 1 < w4.heap.size := by omega
  have xz : w3.heap.size < w4.heap.size := World.block_lt_of_cell? _ _ xq0
  have h4 := runAt_keep (runAt_alloc h3 _) hb
  replace G := gb_trans (gb_alloc G _) (gb_of_below (some g) hb)
  clear hb hsz
  replace hS0 := G.size
  have cc_4 : w4.cell? ⟨w.heap.size, 4, none⟩ = some (.int .i64 L.c.m) := cc 4 _ rfl
  have cc_13 : w4.cell? ⟨w.heap.size, 13, none⟩ = some (.int .i64 me) := cc 13 _ rfl
  have cc_14 : w4.cell? ⟨w.heap.size, 14, none⟩ = some (.int .i64 other) := cc 14 _ rfl
  have cc_15 : w4.cell? ⟨w.heap.size, 15, none⟩ = some (.bool false) := cc 15 _ rfl
  have cc_16 : w4.cell? ⟨w.heap.size, 16, none⟩ = some (.int .i64 m.s) := cc 16 _ rfl
  have cc_17 : w4.cell? ⟨w.heap.size, 17, none⟩ = some (.int .i64 m.k) := cc 17 _ rfl
  have cc_18 : w4.cell? ⟨w.heap.size, 18, none⟩ = some (.int .i64 m.a) := cc 18 _ rfl
  have cc_19 : w4.cell? ⟨w.heap.size, 19, none⟩ = some (.func (.func 30) #[] #[]) := cc 19 _ rfl
  have cc13 : CellsAt w4 (w.heap.size) [.int .i64 L.c.t, .int .i64 L.c.l, .int .i64 L.c.k, .int .i64 L.c.s, .int .i64 L.c.m, .int .i64 L.clock, .int .i64 L.stamps, .int .i64 L.log, .int .i64 L.fin, .int .i64 L.thread, .int .i64 L.lock, .int .i64 L.loc, .int .i64 L.size] := cellsAt_take 13 cc
  go_wp2_with (first | ((with_reducible refine wp_ld_lay ?hw13_89 ?x13_89 ?ho13_89 (w.heap.size) 0 ?hx13_89 [.int .i64 L.c.t, .int .i64 L.c.l, .int .i64 L.c.k, .int .i64 L.c.s, .int .i64 L.c.m, .int .i64 L.clock, .int .i64 L.stamps, .int .i64 L.log, .int .i64 L.fin, .int .i64 L.thread, .int .i64 L.lock, .int .i64 L.loc, .int .i64 L.size] rfl (rangeAt_of cc13) ?hh13_89); (case ho13_89 => exact rfl); (case hx13_89 => exact rfl); (case hw13_89 => exact rfl)) | ((with_reducible refine wp_ld_case ?hw20_90 ?x20_90 ?ho20_90 (w.heap.size) 0 ?hx20_90 [.int .i64 L.c.t, .int .i64 L.c.l, .int .i64 L.c.k, .int .i64 L.c.s, .int .i64 L.c.m, .int .i64 L.clock, .int .i64 L.stamps, .int .i64 L.log, .int .i64 L.fin, .int .i64 L.thread, .int .i64 L.lock, .int .i64 L.loc, .int .i64 L.size, .int .i64 me, .int .i64 other, .bool false, .int .i64 m.s, .int .i64 m.k, .int .i64 m.a, .func (.func 30) #[] #[]] rfl (rangeAt_of cc) ?hh20_90); (case ho20_90 => exact rfl); (case hx20_90 => exact rfl); (case hw20_90 => exact rfl)))
  ((with_reducible refine (load_some _ g _ _ _ h4).mono ?_); rintro e w5 ⟨rfl, h5, hb⟩)
  clear cc_4 cc_13 cc_14 cc_15 cc_16 cc_17 cc_18 cc_19
  clear cc13
  have hsz := hb.size
  (try simp at hsz)
  replace cc := cellsAt_gb cc hb (by omega)
  replace oz := OutZ.gb oz hb (by omega)
  replace xq0 : w5.cell? ⟨w3.heap.size, 0, none⟩ = some (.int .i64 0) := gbc hb xq0 (by omega)
  replace xq1 : w5.cell? ⟨w3.heap.size, 1, none⟩ = some (.int .i64 0) := gbc hb xq1 (by omega)
  replace xq2 : w5.cell? ⟨w3.heap.size, 2, none⟩ = some (.int .i64 (s.1 / 4)) := gbc hb xq2 (by omega)
  replace xf : ∀ o, w5.frozen? ⟨w3.heap.size, o, none⟩ = false := fun o => gbf hb (by first | omega | (simp; done) | (simp; omega)) (by omega) (xf o)
  replace ccz : w.heap.size < w5.heap.size := by omega
  replace ozz : w.heap.size + 1 < w5.heap.size := by omega
  replace xz : w3.heap.size < w5.heap.size := by omega
  replace G := gb_trans G hb
  clear hb hsz
  replace hS0 := G.size
  have cc_4 : w5.cell? ⟨w.heap.size, 4, none⟩ = some (.int .i64 L.c.m) := cc 4 _ rfl
  have cc_13 : w5.cell? ⟨w.heap.size, 13, none⟩ = some (.int .i64 me) := cc 13 _ rfl
  have cc_14 : w5.cell? ⟨w.heap.size, 14, none⟩ = some (.int .i64 other) := cc 14 _ rfl
  have cc_15 : w5.cell? ⟨w.heap.size, 15, none⟩ = some (.bool false) := cc 15 _ rfl
  have cc_16 : w5.cell? ⟨w.heap.size, 16, none⟩ = some (.int .i64 m.s) := cc 16 _ rfl
  have cc_17 : w5.cell? ⟨w.heap.size, 17, none⟩ = some (.int .i64 m.k) := cc 17 _ rfl
  have cc_18 : w5.cell? ⟨w.heap.size, 18, none⟩ = some (.int .i64 m.a) := cc 18 _ rfl
  have cc_19 : w5.cell? ⟨w.heap.size, 19, none⟩ = some (.func (.func 30) #[] #[]) := cc 19 _ rfl
  have cc13 : CellsAt w5 (w.heap.size) [.int .i64 L.c.t, .int .i64 L.c.l, .int .i64 L.c.k, .int .i64 L.c.s, .int .i64 L.c.m, .int .i64 L.clock, .int .i64 L.stamps, .int .i64 L.log, .int .i64 L.fin, .int .i64 L.thread, .int .i64 L.lock, .int .i64 L.loc, .int .i64 L.size] := cellsAt_take 13 cc
  go_wp2_with (first | ((with_reducible refine wp_ld_lay ?hw13_91 ?x13_91 ?ho13_91 (w.heap.size) 0 ?hx13_91 [.int .i64 L.c.t, .int .i64 L.c.l, .int .i64 L.c.k, .int .i64 L.c.s, .int .i64 L.c.m, .int .i64 L.clock, .int .i64 L.stamps, .int .i64 L.log, .int .i64 L.fin, .int .i64 L.thread, .int .i64 L.lock, .int .i64 L.loc, .int .i64 L.size] rfl (rangeAt_of (cellsAt_set cc13 (by omega) _)) ?hh13_91); (case ho13_91 => exact rfl); (case hx13_91 => exact rfl); (case hw13_91 => exact rfl)) | ((with_reducible refine wp_ld_case ?hw20_92 ?x20_92 ?ho20_92 (w.heap.size) 0 ?hx20_92 [.int .i64 L.c.t, .int .i64 L.c.l, .int .i64 L.c.k, .int .i64 L.c.s, .int .i64 L.c.m, .int .i64 L.clock, .int .i64 L.stamps, .int .i64 L.log, .int .i64 L.fin, .int .i64 L.thread, .int .i64 L.lock, .int .i64 L.loc, .int .i64 L.size, .int .i64 me, .int .i64 other, .bool false, .int .i64 m.s, .int .i64 m.k, .int .i64 m.a, .func (.func 30) #[] #[]] rfl (rangeAt_of (cellsAt_set cc (by omega) _)) ?hh20_92); (case ho20_92 => exact rfl); (case hx20_92 => exact rfl); (case hw20_92 => exact rfl)))
  ((with_reducible refine (HK.out _).mono ?_); rintro e w6 ⟨rfl, hb⟩)
  clear cc_4 cc_13 cc_14 cc_15 cc_16 cc_17 cc_18 cc_19
  clear cc13
  have hsz := hb.size
  (try simp at hsz)
  replace cc := cellsAt_keep (cellsAt_set cc (by omega) _) hb
  replace oz := OutZ.below (OutZ.set oz (by omega) _) hb
  replace xq0 : w6.cell? ⟨w3.heap.size, 0, none⟩ = some (.int .i64 t.1) := cel_below hb (World.cell?_setCell_same _ _ _ xq0)
  replace xq1 : w6.cell? ⟨w3.heap.size, 1, none⟩ = some (.int .i64 0) := cel_below hb (keepA_ xq1 (by omega))
  replace xq2 : w6.cell? ⟨w3.heap.size, 2, none⟩ = some (.int .i64 (s.1 / 4)) := cel_below hb (keepA_ xq2 (by omega))
  replace xf : ∀ o, w6.frozen? ⟨w3.heap.size, o, none⟩ = false := fun o => fro_below hb (by first | omega | (simp; done) | (simp; omega)) ((World.frozen?_setCell _ _ _ _).trans (xf o))
  replace ccz : w.heap.size < w6.heap.size := by omega
  replace ozz : w.heap.size + 1 < w6.heap.size := by omega
  replace xz : w3.heap.size < w6.heap.size := by omega
  have h6 := runAt_keep (runAt_set h5 (by omega) _) hb
  replace G := gb_trans (gb_set G (Or.inr (by first | exact Nat.le_refl _ | (dsimp only; omega))) _) (gb_of_below (some g) hb)
  clear hb hsz
  replace hS0 := G.size
  have cc_4 : w6.cell? ⟨w.heap.size, 4, none⟩ = some (.int .i64 L.c.m) := cc 4 _ rfl
  have cc_13 : w6.cell? ⟨w.heap.size, 13, none⟩ = some (.int .i64 me) := cc 13 _ rfl
  have cc_14 : w6.cell? ⟨w.heap.size, 14, none⟩ = some (.int .i64 other) := cc 14 _ rfl
  have cc_15 : w6.cell? ⟨w.heap.size, 15, none⟩ = some (.bool false) := cc 15 _ rfl
  have cc_16 : w6.cell? ⟨w.heap.size, 16, none⟩ = some (.int .i64 m.s) := cc 16 _ rfl
  have cc_17 : w6.cell? ⟨w.heap.size, 17, none⟩ = some (.int .i64 m.k) := cc 17 _ rfl
  have cc_18 : w6.cell? ⟨w.heap.size, 18, none⟩ = some (.int .i64 m.a) := cc 18 _ rfl
  have cc_19 : w6.cell? ⟨w.heap.size, 19, none⟩ = some (.func (.func 30) #[] #[]) := cc 19 _ rfl
  have cc13 : CellsAt w6 (w.heap.size) [.int .i64 L.c.t, .int .i64 L.c.l, .int .i64 L.c.k, .int .i64 L.c.s, .int .i64 L.c.m, .int .i64 L.clock, .int .i64 L.stamps, .int .i64 L.log, .int .i64 L.fin, .int .i64 L.thread, .int .i64 L.lock, .int .i64 L.loc, .int .i64 L.size] := cellsAt_take 13 cc
  go_wp2_with (first | ((with_reducible refine wp_ld_lay ?hw13_93 ?x13_93 ?ho13_93 (w.heap.size) 0 ?hx13_93 [.int .i64 L.c.t, .int .i64 L.c.l, .int .i64 L.c.k, .int .i64 L.c.s, .int .i64 L.c.m, .int .i64 L.clock, .int .i64 L.stamps, .int .i64 L.log, .int .i64 L.fin, .int .i64 L.thread, .int .i64 L.lock, .int .i64 L.loc, .int .i64 L.size] rfl (rangeAt_of cc13) ?hh13_93); (case ho13_93 => exact rfl); (case hx13_93 => exact rfl); (case hw13_93 => exact rfl)) | ((with_reducible refine wp_ld_case ?hw20_94 ?x20_94 ?ho20_94 (w.heap.size) 0 ?hx20_94 [.int .i64 L.c.t, .int .i64 L.c.l, .int .i64 L.c.k, .int .i64 L.c.s, .int .i64 L.c.m, .int .i64 L.clock, .int .i64 L.stamps, .int .i64 L.log, .int .i64 L.fin, .int .i64 L.thread, .int .i64 L.lock, .int .i64 L.loc, .int .i64 L.size, .int .i64 me, .int .i64 other, .bool false, .int .i64 m.s, .int .i64 m.k, .int .i64 m.a, .func (.func 30) #[] #[]] rfl (rangeAt_of cc) ?hh20_94); (case ho20_94 => exact rfl); (case hx20_94 => exact rfl); (case hw20_94 => exact rfl)))
  ((with_reducible refine (load_none _ g _ h6).mono ?_); rintro e w7 ⟨rfl, hb⟩)
  exact ⟨rfl, rfl, gb_trans G (gb_of_below (some g) hb)⟩

theorem res_fabort (w : World) (g : Nat) (L : Ly) (hok : L.ok) (me other : Int) (m : Ct) (s t k : Int × Bool) (l : List (Int × Bool)) (h0 : RunAt w g (s :: t :: k :: l)) (hi : I64 s.1) (hs : ¬s.1 % 4 = 0) (hc : chooseD L.c.m m ⟨t.1, k.1, s.1 / 4⟩ = 1) :
    Calls Try.prog 61 #[caseV L me other false m, .pointer (some ⟨g, 0, none⟩)] w fun e w' => e = .returned (OutD.v { val := 1 }) ∧ w.grownBy w' (some g) := by
  unfold caseV
  have HM : Hid (∀ w, Calls Try.prog 38 #[L.v, .int .i64 me] w fun e w' => e = .returned (.int .i64 (atStatus L me)) ∧ Below w.heap.size w w') := Lib.hid (fun w => status_any L me w hok)
  have HS : Hid (∀ w, Calls Try.prog 38 #[L.v, .int .i64 other] w fun e w' => e = .returned (.int .i64 (atStatus L other)) ∧ Below w.heap.size w w') := Lib.hid (fun w => status_any L other w hok)
  have HT : Hid (∀ w, Calls Try.prog 64 #[L.v, .int .i64 other] w fun e w' => e = .returned (.int .i64 (atStamp L other)) ∧ Below w.heap.size w w') := Lib.hid (fun w => stamp_any L other w hok)
  have HK : Hid (∀ w, Calls Try.prog 65 #[L.v, .int .i64 other] w fun e w' => e = .returned (.int .i64 (atKarma L other)) ∧ Below w.heap.size w w') := Lib.hid (fun w => karma_any L other w hok)
  unfold Ly.v at HM HS HT HK
  have hs0 : (s.1 % 4 == 0) = false := by simp [hs]
  have HC : Hid (∀ w, Calls Try.prog 30 #[.int .i64 L.c.m, m.v, Ct.v ⟨t.1, k.1, s.1 / 4⟩] w fun e w' => e = .returned (.int .i64 1) ∧ Below w.heap.size w w') := Lib.hid (fun w => by rw [← hc]; exact choose_any _ _ _ w)
  unfold Ct.v at HC
  have hg0 := runAt_lt h0
  have G : w.grownBy w (some g) := gb_refl _ _
  have hS0 : w.heap.size + 0 ≤ w.heap.size := Nat.le_refl _
  go_enter Try.func61, Try.ntmps61
  go_wp2_with fail
  obtain ⟨w1, hwr⟩ : ∃ W, W = ((w.alloc (.cells #[.int .i64 L.c.t, .int .i64 L.c.l, .int .i64 L.c.k, .int .i64 L.c.s, .int .i64 L.c.m, .int .i64 L.clock, .int .i64 L.stamps, .int .i64 L.log, .int .i64 L.fin, .int .i64 L.thread, .int .i64 L.lock, .int .i64 L.loc, .int .i64 L.size, .int .i64 me, .int .i64 other, .bool false, .int .i64 m.s, .int .i64 m.k, .int .i64 m.a, .func (.func 30) #[] #[]] 119)).alloc (.cells #[.int .i64 0, .int .i64 0, .int .i64 0, .int .i64 0, .bool false, .bool false, .int .i64 0] 35)) := ⟨_, rfl⟩
  rw [← hwr]
  have hb : Below w.heap.size w w1 := by rw [hwr]; exact (Below.alloc (Below.alloc (Below.refl _ _) (by first | exact Nat.le_refl _ | (simp; omega) | simp) _) (by first | exact Nat.le_refl _ | (simp; omega) | simp) _)
  have cc : CellsAt w1 (w.heap.size) [.int .i64 L.c.t, .int .i64 L.c.l, .int .i64 L.c.k, .int .i64 L.c.s, .int .i64 L.c.m, .int .i64 L.clock, .int .i64 L.stamps, .int .i64 L.log, .int .i64 L.fin, .int .i64 L.thread, .int .i64 L.lock, .int .i64 L.loc, .int .i64 L.size, .int .i64 me, .int .i64 other, .bool false, .int .i64 m.s, .int .i64 m.k, .int .i64 m.a, .func (.func 30) #[] #[]] := by rw [hwr]; exact (cellsAt_alloc (cellsAt_new' w _ _ (w.heap.size) (by simp)) _)
  have ccz : w.heap.size < w1.heap.size := World.block_lt_of_cell? _ _ (cc 0 _ rfl)
  have oz : OutZ w1 (w.heap.size + 1) := by rw [hwr]; exact (OutZ.new' (w.alloc (.cells #[.int .i64 L.c.t, .int .i64 L.c.l, .int .i64 L.c.k, .int .i64 L.c.s, .int .i64 L.c.m, .int .i64 L.clock, .int .i64 L.stamps, .int .i64 L.log, .int .i64 L.fin, .int .i64 L.thread, .int .i64 L.lock, .int .i64 L.loc, .int .i64 L.size, .int .i64 me, .int .i64 other, .bool false, .int .i64 m.s, .int .i64 m.k, .int .i64 m.a, .func (.func 30) #[] #[]] 119)) _ (w.heap.size + 1) (by simp))
  have ozz : w.heap.size + 1 < w1.heap.size := OutZ.lt oz
  have h1 := runAt_keep h0 hb
  replace G := gb_trans G (gb_of_below (some g) hb)
  clear hb hwr
  replace hS0 := G.size
  have cc_4 : w1.cell? ⟨w.heap.size, 4, none⟩ = some (.int .i64 L.c.m) := cc 4 _ rfl
  have cc_13 : w1.cell? ⟨w.heap.size, 13, none⟩ = some (.int .i64 me) := cc 13 _ rfl
  have cc_14 : w1.cell? ⟨w.heap.size, 14, none⟩ = some (.int .i64 other) := cc 14 _ rfl
  have cc_15 : w1.cell? ⟨w.heap.size, 15, none⟩ = some (.bool false) := cc 15 _ rfl
  have cc_16 : w1.cell? ⟨w.heap.size, 16, none⟩ = some (.int .i64 m.s) := cc 16 _ rfl
  have cc_17 : w1.cell? ⟨w.heap.size, 17, none⟩ = some (.int .i64 m.k) := cc 17 _ rfl
  have cc_18 : w1.cell? ⟨w.heap.size, 18, none⟩ = some (.int .i64 m.a) := cc 18 _ rfl
  have cc_19 : w1.cell? ⟨w.heap.size, 19, none⟩ = some (.func (.func 30) #[] #[]) := cc 19 _ rfl
  have cc13 : CellsAt w1 (w.heap.size) [.int .i64 L.c.t, .int .i64 L.c.l, .int .i64 L.c.k, .int .i64 L.c.s, .int .i64 L.c.m, .int .i64 L.clock, .int .i64 L.stamps, .int .i64 L.log, .int .i64 L.fin, .int .i64 L.thread, .int .i64 L.lock, .int .i64 L.loc, .int .i64 L.size] := cellsAt_take 13 cc
  go_wp2_with (first | ((with_reducible refine wp_ld_lay ?hw13_95 ?x13_95 ?ho13_95 (w.heap.size) 0 ?hx13_95 [.int .i64 L.c.t, .int .i64 L.c.l, .int .i64 L.c.k, .int .i64 L.c.s, .int .i64 L.c.m, .int .i64 L.clock, .int .i64 L.stamps, .int .i64 L.log, .int .i64 L.fin, .int .i64 L.thread, .int .i64 L.lock, .int .i64 L.loc, .int .i64 L.size] rfl (rangeAt_of cc13) ?hh13_95); (case ho13_95 => exact rfl); (case hx13_95 => exact rfl); (case hw13_95 => exact rfl)) | ((with_reducible refine wp_ld_case ?hw20_96 ?x20_96 ?ho20_96 (w.heap.size) 0 ?hx20_96 [.int .i64 L.c.t, .int .i64 L.c.l, .int .i64 L.c.k, .int .i64 L.c.s, .int .i64 L.c.m, .int .i64 L.clock, .int .i64 L.stamps, .int .i64 L.log, .int .i64 L.fin, .int .i64 L.thread, .int .i64 L.lock, .int .i64 L.loc, .int .i64 L.size, .int .i64 me, .int .i64 other, .bool false, .int .i64 m.s, .int .i64 m.k, .int .i64 m.a, .func (.func 30) #[] #[]] rfl (rangeAt_of cc) ?hh20_96); (case ho20_96 => exact rfl); (case hx20_96 => exact rfl); (case hw20_96 => exact rfl)))
  ((with_reducible refine (HS.out _).mono ?_); rintro e w2 ⟨rfl, hb⟩)
  clear cc_4 cc_13 cc_14 cc_15 cc_16 cc_17 cc_18 cc_19
  clear cc13
  have hsz := hb.size
  (try simp at hsz)
  replace cc := cellsAt_keep cc hb
  replace oz := OutZ.below oz hb
  replace ccz : w.heap.size < w2.heap.size := by omega
  replace ozz : w.heap.size + 1 < w2.heap.size := by omega
  have h2 := runAt_keep h1 hb
  replace G := gb_trans G (gb_of_below (some g) hb)
  clear hb hsz
  replace hS0 := G.size
  have cc_4 : w2.cell? ⟨w.heap.size, 4, none⟩ = some (.int .i64 L.c.m) := cc 4 _ rfl
  have cc_13 : w2.cell? ⟨w.heap.size, 13, none⟩ = some (.int .i64 me) := cc 13 _ rfl
  have cc_14 : w2.cell? ⟨w.heap.size, 14, none⟩ = some (.int .i64 other) := cc 14 _ rfl
  have cc_15 : w2.cell? ⟨w.heap.size, 15, none⟩ = some (.bool false) := cc 15 _ rfl
  have cc_16 : w2.cell? ⟨w.heap.size, 16, none⟩ = some (.int .i64 m.s) := cc 16 _ rfl
  have cc_17 : w2.cell? ⟨w.heap.size, 17, none⟩ = some (.int .i64 m.k) := cc 17 _ rfl
  have cc_18 : w2.cell? ⟨w.heap.size, 18, none⟩ = some (.int .i64 m.a) := cc 18 _ rfl
  have cc_19 : w2.cell? ⟨w.heap.size, 19, none⟩ = some (.func (.func 30) #[] #[]) := cc 19 _ rfl
  have cc13 : CellsAt w2 (w.heap.size) [.int .i64 L.c.t, .int .i64 L.c.l, .int .i64 L.c.k, .int .i64 L.c.s, .int .i64 L.c.m, .int .i64 L.clock, .int .i64 L.stamps, .int .i64 L.log, .int .i64 L.fin, .int .i64 L.thread, .int .i64 L.lock, .int .i64 L.loc, .int .i64 L.size] := cellsAt_take 13 cc
  go_wp2_with (first | ((with_reducible refine wp_ld_lay ?hw13_97 ?x13_97 ?ho13_97 (w.heap.size) 0 ?hx13_97 [.int .i64 L.c.t, .int .i64 L.c.l, .int .i64 L.c.k, .int .i64 L.c.s, .int .i64 L.c.m, .int .i64 L.clock, .int .i64 L.stamps, .int .i64 L.log, .int .i64 L.fin, .int .i64 L.thread, .int .i64 L.lock, .int .i64 L.loc, .int .i64 L.size] rfl (rangeAt_of cc13) ?hh13_97); (case ho13_97 => exact rfl); (case hx13_97 => exact rfl); (case hw13_97 => exact rfl)) | ((with_reducible refine wp_ld_case ?hw20_98 ?x20_98 ?ho20_98 (w.heap.size) 0 ?hx20_98 [.int .i64 L.c.t, .int .i64 L.c.l, .int .i64 L.c.k, .int .i64 L.c.s, .int .i64 L.c.m, .int .i64 L.clock, .int .i64 L.stamps, .int .i64 L.log, .int .i64 L.fin, .int .i64 L.thread, .int .i64 L.lock, .int .i64 L.loc, .int .i64 L.size, .int .i64 me, .int .i64 other, .bool false, .int .i64 m.s, .int .i64 m.k, .int .i64 m.a, .func (.func 30) #[] #[]] rfl (rangeAt_of cc) ?hh20_98); (case ho20_98 => exact rfl); (case hx20_98 => exact rfl); (case hw20_98 => exact rfl)))
  ((with_reducible refine (load_some _ g _ _ _ h2).mono ?_); rintro e w3 ⟨rfl, h3, hb⟩)
  clear cc_4 cc_13 cc_14 cc_15 cc_16 cc_17 cc_18 cc_19
  clear cc13
  have hsz := hb.size
  (try simp at hsz)
  replace cc := cellsAt_gb cc hb (by omega)
  replace oz := OutZ.gb oz hb (by omega)
  replace ccz : w.heap.size < w3.heap.size := by omega
  replace ozz : w.heap.size + 1 < w3.heap.size := by omega
  replace G := gb_trans G hb
  clear hb hsz
  replace hS0 := G.size
  have cc_4 : w3.cell? ⟨w.heap.size, 4, none⟩ = some (.int .i64 L.c.m) := cc 4 _ rfl
  have cc_13 : w3.cell? ⟨w.heap.size, 13, none⟩ = some (.int .i64 me) := cc 13 _ rfl
  have cc_14 : w3.cell? ⟨w.heap.size, 14, none⟩ = some (.int .i64 other) := cc 14 _ rfl
  have cc_15 : w3.cell? ⟨w.heap.size, 15, none⟩ = some (.bool false) := cc 15 _ rfl
  have cc_16 : w3.cell? ⟨w.heap.size, 16, none⟩ = some (.int .i64 m.s) := cc 16 _ rfl
  have cc_17 : w3.cell? ⟨w.heap.size, 17, none⟩ = some (.int .i64 m.k) := cc 17 _ rfl
  have cc_18 : w3.cell? ⟨w.heap.size, 18, none⟩ = some (.int .i64 m.a) := cc 18 _ rfl
  have cc_19 : w3.cell? ⟨w.heap.size, 19, none⟩ = some (.func (.func 30) #[] #[]) := cc 19 _ rfl
  have cc13 : CellsAt w3 (w.heap.size) [.int .i64 L.c.t, .int .i64 L.c.l, .int .i64 L.c.k, .int .i64 L.c.s, .int .i64 L.c.m, .int .i64 L.clock, .int .i64 L.stamps, .int .i64 L.log, .int .i64 L.fin, .int .i64 L.thread, .int .i64 L.lock, .int .i64 L.loc, .int .i64 L.size] := cellsAt_take 13 cc
  go_wp2_with (first | ((with_reducible refine wp_ld_lay ?hw13_99 ?x13_99 ?ho13_99 (w.heap.size) 0 ?hx13_99 [.int .i64 L.c.t, .int .i64 L.c.l, .int .i64 L.c.k, .int .i64 L.c.s, .int .i64 L.c.m, .int .i64 L.clock, .int .i64 L.stamps, .int .i64 L.log, .int .i64 L.fin, .int .i64 L.thread, .int .i64 L.lock, .int .i64 L.loc, .int .i64 L.size] rfl (rangeAt_of cc13) ?hh13_99); (case ho13_99 => exact rfl); (case hx13_99 => exact rfl); (case hw13_99 => exact rfl)) | ((with_reducible refine wp_ld_case ?hw20_100 ?x20_100 ?ho20_100 (w.heap.size) 0 ?hx20_100 [.int .i64 L.c.t, .int .i64 L.c.l, .int .i64 L.c.k, .int .i64 L.c.s, .int .i64 L.c.m, .int .i64 L.clock, .int .i64 L.stamps, .int .i64 L.log, .int .i64 L.fin, .int .i64 L.thread, .int .i64 L.lock, .int .i64 L.loc, .int .i64 L.size, .int .i64 me, .int .i64 other, .bool false, .int .i64 m.s, .int .i64 m.k, .int .i64 m.a, .func (.func 30) #[] #[]] rfl (rangeAt_of cc) ?hh20_100); (case ho20_100 => exact rfl); (case hx20_100 => exact rfl); (case hw20_100 => exact rfl)))
  ((with_reducible refine (kind_any _ _).mono ?_); rintro e w' ⟨rfl, rfl⟩)
  clear cc13
  have cc13 : CellsAt w3 (w.heap.size) [.int .i64 L.c.t, .int .i64 L.c.l, .int .i64 L.c.k, .int .i64 L.c.s, .int .i64 L.c.m, .int .i64 L.clock, .int .i64 L.stamps, .int .i64 L.log, .int .i64 L.fin, .int .i64 L.thread, .int .i64 L.lock, .int .i64 L.loc, .int .i64 L.size] := cellsAt_take 13 cc
  go_wp2_with (first | ((with_reducible refine wp_ld_lay ?hw13_101 ?x13_101 ?ho13_101 (w.heap.size) 0 ?hx13_101 [.int .i64 L.c.t, .int .i64 L.c.l, .int .i64 L.c.k, .int .i64 L.c.s, .int .i64 L.c.m, .int .i64 L.clock, .int .i64 L.stamps, .int .i64 L.log, .int .i64 L.fin, .int .i64 L.thread, .int .i64 L.lock, .int .i64 L.loc, .int .i64 L.size] rfl (rangeAt_of cc13) ?hh13_101); (case ho13_101 => exact rfl); (case hx13_101 => exact rfl); (case hw13_101 => exact rfl)) | ((with_reducible refine wp_ld_case ?hw20_102 ?x20_102 ?ho20_102 (w.heap.size) 0 ?hx20_102 [.int .i64 L.c.t, .int .i64 L.c.l, .int .i64 L.c.k, .int .i64 L.c.s, .int .i64 L.c.m, .int .i64 L.clock, .int .i64 L.stamps, .int .i64 L.log, .int .i64 L.fin, .int .i64 L.thread, .int .i64 L.lock, .int .i64 L.loc, .int .i64 L.size, .int .i64 me, .int .i64 other, .bool false, .int .i64 m.s, .int .i64 m.k, .int .i64 m.a, .func (.func 30) #[] #[]] rfl (rangeAt_of cc) ?hh20_102); (case ho20_102 => exact rfl); (case hx20_102 => exact rfl); (case hw20_102 => exact rfl)))
  ((with_reducible refine (try_any _ hi _).mono ?_); rintro e w' ⟨rfl, rfl⟩)
  clear cc13
  have cc13 : CellsAt w3 (w.heap.size) [.int .i64 L.c.t, .int .i64 L.c.l, .int .i64 L.c.k, .int .i64 L.c.s, .int .i64 L.c.m, .int .i64 L.clock, .int .i64 L.stamps, .int .i64 L.log, .int .i64 L.fin, .int .i64 L.thread, .int .i64 L.lock, .int .i64 L.loc, .int .i64 L.size] := cellsAt_take 13 cc
  go_wp2_with (first | ((with_reducible refine wp_ld_lay ?hw13_103 ?x13_103 ?ho13_103 (w.heap.size) 0 ?hx13_103 [.int .i64 L.c.t, .int .i64 L.c.l, .int .i64 L.c.k, .int .i64 L.c.s, .int .i64 L.c.m, .int .i64 L.clock, .int .i64 L.stamps, .int .i64 L.log, .int .i64 L.fin, .int .i64 L.thread, .int .i64 L.lock, .int .i64 L.loc, .int .i64 L.size] rfl (rangeAt_of (cellsAt_alloc cc13 _)) ?hh13_103); (case ho13_103 => exact rfl); (case hx13_103 => exact rfl); (case hw13_103 => exact rfl)) | ((with_reducible refine wp_ld_case ?hw20_104 ?x20_104 ?ho20_104 (w.heap.size) 0 ?hx20_104 [.int .i64 L.c.t, .int .i64 L.c.l, .int .i64 L.c.k, .int .i64 L.c.s, .int .i64 L.c.m, .int .i64 L.clock, .int .i64 L.stamps, .int .i64 L.log, .int .i64 L.fin, .int .i64 L.thread, .int .i64 L.lock, .int .i64 L.loc, .int .i64 L.size, .int .i64 me, .int .i64 other, .bool false, .int .i64 m.s, .int .i64 m.k, .int .i64 m.a, .func (.func 30) #[] #[]] rfl (rangeAt_of (cellsAt_alloc cc _)) ?hh20_104); (case ho20_104 => exact rfl); (case hx20_104 => exact rfl); (case hw20_104 => exact rfl)))
  ((with_reducible refine (HT.out _).mono ?_); rintro e w4 ⟨rfl, hb⟩)
  clear cc_4 cc_13 cc_14 cc_15 cc_16 cc_17 cc_18 cc_19
  clear cc13
  have hsz := hb.size
  (try simp at hsz)
  have xcczn : w.heap.size ≠ w3.heap.size := by omega
  have xozzn : w.heap.size + 1 ≠ w3.heap.size := by omega
  have xgn : w3.heap.size ≠ g := by omega
  have xlo : w.heap.size ≤ w3.heap.size := by omega
  replace cc := cellsAt_keep (cellsAt_alloc cc _) hb
  replace oz := OutZ.below (OutZ.alloc oz _) hb
  have xq0 : w4.cell? ⟨w3.heap.size, 0, none⟩ = some (.int .i64 0) := cel_below hb (by rw [World.cell?_alloc_at _ _ _ _ (by simp)]; rfl)
  have xq1 : w4.cell? ⟨w3.heap.size, 1, none⟩ = some (.int .i64 0) := cel_below hb (by rw [World.cell?_alloc_at _ _ _ _ (by simp)]; rfl)
  have xq2 : w4.cell? ⟨w3.heap.size, 2, none⟩ = some (.int .i64 (s.1 / 4)) := cel_below hb (by rw [World.cell?_alloc_at _ _ _ _ (by simp)]; rfl)
  have xf : ∀ o, w4.frozen? ⟨w3.heap.size, o, none⟩ = false := fun o => fro_below hb (by first | omega | (simp; done) | (simp; omega)) (World.frozen?_alloc_at _ _ _ _ (by simp))
  replace ccz : w.heap.size < w4.heap.size := by omega
  replace ozz : w.heap.size + 1 < w4.heap.size := by omega
  have xz : w3.heap.size < w4.heap.size := World.block_lt_of_cell? _ _ xq0
  have h4 := runAt_keep (runAt_alloc h3 _) hb
  replace G := gb_trans (gb_alloc G _) (gb_of_below (some g) hb)
  clear hb hsz
  replace hS0 := G.size
  have cc_4 : w4.cell? ⟨w.heap.size, 4, none⟩ = some (.int .i64 L.c.m) := cc 4 _ rfl
  have cc_13 : w4.cell? ⟨w.heap.size, 13, none⟩ = some (.int .i64 me) := cc 13 _ rfl
  have cc_14 : w4.cell? ⟨w.heap.size, 14, none⟩ = some (.int .i64 other) := cc 14 _ rfl
  have cc_15 : w4.cell? ⟨w.heap.size, 15, none⟩ = some (.bool false) := cc 15 _ rfl
  have cc_16 : w4.cell? ⟨w.heap.size, 16, none⟩ = some (.int .i64 m.s) := cc 16 _ rfl
  have cc_17 : w4.cell? ⟨w.heap.size, 17, none⟩ = some (.int .i64 m.k) := cc 17 _ rfl
  have cc_18 : w4.cell? ⟨w.heap.size, 18, none⟩ = some (.int .i64 m.a) := cc 18 _ rfl
  have cc_19 : w4.cell? ⟨w.heap.size, 19, none⟩ = some (.func (.func 30) #[] #[]) := cc 19 _ rfl
  have cc13 : CellsAt w4 (w.heap.size) [.int .i64 L.c.t, .int .i64 L.c.l, .int .i64 L.c.k, .int .i64 L.c.s, .int .i64 L.c.m, .int .i64 L.clock, .int .i64 L.stamps, .int .i64 L.log, .int .i64 L.fin, .int .i64 L.thread, .int .i64 L.lock, .int .i64 L.loc, .int .i64 L.size] := cellsAt_take 13 cc
  go_wp2_with (first | ((with_reducible refine wp_ld_lay ?hw13_105 ?x13_105 ?ho13_105 (w.heap.size) 0 ?hx13_105 [.int .i64 L.c.t, .int .i64 L.c.l, .int .i64 L.c.k, .int .i64 L.c.s, .int .i64 L.c.m, .int .i64 L.clock, .int .i64 L.stamps, .int .i64 L.log, .int .i64 L.fin, .int .i64 L.thread, .int .i64 L.lock, .int .i64 L.loc, .int .i64 L.size] rfl (rangeAt_of cc13) ?hh13_105); (case ho13_105 => exact rfl); (case hx13_105 => exact rfl); (case hw13_105 => exact rfl)) | ((with_reducible refine wp_ld_case ?hw20_106 ?x20_106 ?ho20_106 (w.heap.size) 0 ?hx20_106 [.int .i64 L.c.t, .int .i64 L.c.l, .int .i64 L.c.k, .int .i64 L.c.s, .int .i64 L.c.m, .int .i64 L.clock, .int .i64 L.stamps, .int .i64 L.log, .int .i64 L.fin, .int .i64 L.thread, .int .i64 L.lock, .int .i64 L.loc, .int .i64 L.size, .int .i64 me, .int .i64 other, .bool false, .int .i64 m.s, .int .i64 m.k, .int .i64 m.a, .func (.func 30) #[] #[]] rfl (rangeAt_of cc) ?hh20_106); (case ho20_106 => exact rfl); (case hx20_106 => exact rfl); (case hw20_106 => exact rfl)))
  ((with_reducible refine (load_some _ g _ _ _ h4).mono ?_); rintro e w5 ⟨rfl, h5, hb⟩)
  clear cc_4 cc_13 cc_14 cc_15 cc_16 cc_17 cc_18 cc_19
  clear cc13
  have hsz := hb.size
  (try simp at hsz)
  replace cc := cellsAt_gb cc hb (by omega)
  replace oz := OutZ.gb oz hb (by omega)
  replace xq0 : w5.cell? ⟨w3.heap.size, 0, none⟩ = some (.int .i64 0) := gbc hb xq0 (by omega)
  replace xq1 : w5.cell? ⟨w3.heap.size, 1, none⟩ = some (.int .i64 0) := gbc hb xq1 (by omega)
  replace xq2 : w5.cell? ⟨w3.heap.size, 2, none⟩ = some (.int .i64 (s.1 / 4)) := gbc hb xq2 (by omega)
  replace xf : ∀ o, w5.frozen? ⟨w3.heap.size, o, none⟩ = false := fun o => gbf hb (by first | omega | (simp; done) | (simp; omega)) (by omega) (xf o)
  replace ccz : w.heap.size < w5.heap.size := by omega
  replace ozz : w.heap.size + 1 < w5.heap.size := by omega
  replace xz : w3.heap.size < w5.heap.size := by omega
  replace G := gb_trans G hb
  clear hb hsz
  replace hS0 := G.size
  have cc_4 : w5.cell? ⟨w.heap.size, 4, none⟩ = some (.int .i64 L.c.m) := cc 4 _ rfl
  have cc_13 : w5.cell? ⟨w.heap.size, 13, none⟩ = some (.int .i64 me) := cc 13 _ rfl
  have cc_14 : w5.cell? ⟨w.heap.size, 14, none⟩ = some (.int .i64 other) := cc 14 _ rfl
  have cc_15 : w5.cell? ⟨w.heap.size, 15, none⟩ = some (.bool false) := cc 15 _ rfl
  have cc_16 : w5.cell? ⟨w.heap.size, 16, none⟩ = some (.int .i64 m.s) := cc 16 _ rfl
  have cc_17 : w5.cell? ⟨w.heap.size, 17, none⟩ = some (.int .i64 m.k) := cc 17 _ rfl
  have cc_18 : w5.cell? ⟨w.heap.size, 18, none⟩ = some (.int .i64 m.a) := cc 18 _ rfl
  have cc_19 : w5.cell? ⟨w.heap.size, 19, none⟩ = some (.func (.func 30) #[] #[]) := cc 19 _ rfl
  have cc13 : CellsAt w5 (w.heap.size) [.int .i64 L.c.t, .int .i64 L.c.l, .int .i64 L.c.k, .int .i64 L.c.s, .int .i64 L.c.m, .int .i64 L.clock, .int .i64 L.stamps, .int .i64 L.log, .int .i64 L.fin, .int .i64 L.thread, .int .i64 L.lock, .int .i64 L.loc, .int .i64 L.size] := cellsAt_take 13 cc
  go_wp2_with (first | ((with_reducible refine wp_ld_lay ?hw13_107 ?x13_107 ?ho13_107 (w.heap.size) 0 ?hx13_107 [.int .i64 L.c.t, .int .i64 L.c.l, .int .i64 L.c.k, .int .i64 L.c.s, .int .i64 L.c.m, .int .i64 L.clock, .int .i64 L.stamps, .int .i64 L.log, .int .i64 L.fin, .int .i64 L.thread, .int .i64 L.lock, .int .i64 L.loc, .int .i64 L.size] rfl (rangeAt_of (cellsAt_set cc13 (by omega) _)) ?hh13_107); (case ho13_107 => exact rfl); (case hx13_107 => exact rfl); (case hw13_107 => exact rfl)) | ((with_reducible refine wp_ld_case ?hw20_108 ?x20_108 ?ho20_108 (w.heap.size) 0 ?hx20_108 [.int .i64 L.c.t, .int .i64 L.c.l, .int .i64 L.c.k, .int .i64 L.c.s, .int .i64 L.c.m, .int .i64 L.clock, .int .i64 L.stamps, .int .i64 L.log, .int .i64 L.fin, .int .i64 L.thread, .int .i64 L.lock, .int .i64 L.loc, .int .i64 L.size, .int .i64 me, .int .i64 other, .bool false, .int .i64 m.s, .int .i64 m.k, .int .i64 m.a, .func (.func 30) #[] #[]] rfl (rangeAt_of (cellsAt_set cc (by omega) _)) ?hh20_108); (case ho20_108 => exact rfl); (case hx20_108 => exact rfl); (case hw20_108 => exact rfl)))
  ((with_reducible refine (HK.out _).mono ?_); rintro e w6 ⟨rfl, hb⟩)
  clear cc_4 cc_13 cc_14 cc_15 cc_16 cc_17 cc_18 cc_19
  clear cc13
  have hsz := hb.size
  (try simp at hsz)
  replace cc := cellsAt_keep (cellsAt_set cc (by omega) _) hb
  replace oz := OutZ.below (OutZ.set oz (by omega) _) hb
  replace xq0 : w6.cell? ⟨w3.heap.size, 0, none⟩ = some (.int .i64 t.1) := cel_below hb (World.cell?_setCell_same _ _ _ xq0)
  replace xq1 : w6.cell? ⟨w3.heap.size, 1, none⟩ = some (.int .i64 0) := cel_below hb (keepA_ xq1 (by omega))
  replace xq2 : w6.cell? ⟨w3.heap.size, 2, none⟩ = some (.int .i64 (s.1 / 4)) := cel_below hb (keepA_ xq2 (by omega))
  replace xf : ∀ o, w6.frozen? ⟨w3.heap.size, o, none⟩ = false := fun o => fro_below hb (by first | omega | (simp; done) | (simp; omega)) ((World.frozen?_setCell _ _ _ _).trans (xf o))
  replace ccz : w.heap.size < w6.heap.size := by omega
  replace ozz : w.heap.size + 1 < w6.heap.size := by omega
  replace xz : w3.heap.size < w6.heap.size := by omega
  have h6 := runAt_keep (runAt_set h5 (by omega) _) hb
  replace G := gb_trans (gb_set G (Or.inr (by first | exact Nat.le_refl _ | (dsimp only; omega))) _) (gb_of_below (some g) hb)
  clear hb hsz
  replace hS0 := G.size
  have cc_4 : w6.cell? ⟨w.heap.size, 4, none⟩ = some (.int .i64 L.c.m) := cc 4 _ rfl
  have cc_13 : w6.cell? ⟨w.heap.size, 13, none⟩ = some (.int .i64 me) := cc 13 _ rfl
  have cc_14 : w6.cell? ⟨w.heap.size, 14, none⟩ = some (.int .i64 other) := cc 14 _ rfl
  have cc_15 : w6.cell? ⟨w.heap.size, 15, none⟩ = some (.bool false) := cc 15 _ rfl
  have cc_16 : w6.cell? ⟨w.heap.size, 16, none⟩ = some (.int .i64 m.s) := cc 16 _ rfl
  have cc_17 : w6.cell? ⟨w.heap.size, 17, none⟩ = some (.int .i64 m.k) := cc 17 _ rfl
  have cc_18 : w6.cell? ⟨w.heap.size, 18, none⟩ = some (.int .i64 m.a) := cc 18 _ rfl
  have cc_19 : w6.cell? ⟨w.heap.size, 19, none⟩ = some (.func (.func 30) #[] #[]) := cc 19 _ rfl
  have cc13 : CellsAt w6 (w.heap.size) [.int .i64 L.c.t, .int .i64 L.c.l, .int .i64 L.c.k, .int .i64 L.c.s, .int .i64 L.c.m, .int .i64 L.clock, .int .i64 L.stamps, .int .i64 L.log, .int .i64 L.fin, .int .i64 L.thread, .int .i64 L.lock, .int .i64 L.loc, .int .i64 L.size] := cellsAt_take 13 cc
  go_wp2_with (first | ((with_reducible refine wp_ld_lay ?hw13_109 ?x13_109 ?ho13_109 (w.heap.size) 0 ?hx13_109 [.int .i64 L.c.t, .int .i64 L.c.l, .int .i64 L.c.k, .int .i64 L.c.s, .int .i64 L.c.m, .int .i64 L.clock, .int .i64 L.stamps, .int .i64 L.log, .int .i64 L.fin, .int .i64 L.thread, .int .i64 L.lock, .int .i64 L.loc, .int .i64 L.size] rfl (rangeAt_of cc13) ?hh13_109); (case ho13_109 => exact rfl); (case hx13_109 => exact rfl); (case hw13_109 => exact rfl)) | ((with_reducible refine wp_ld_case ?hw20_110 ?x20_110 ?ho20_110 (w.heap.size) 0 ?hx20_110 [.int .i64 L.c.t, .int .i64 L.c.l, .int .i64 L.c.k, .int .i64 L.c.s, .int .i64 L.c.m, .int .i64 L.clock, .int .i64 L.stamps, .int .i64 L.log, .int .i64 L.fin, .int .i64 L.thread, .int .i64 L.lock, .int .i64 L.loc, .int .i64 L.size, .int .i64 me, .int .i64 other, .bool false, .int .i64 m.s, .int .i64 m.k, .int .i64 m.a, .func (.func 30) #[] #[]] rfl (rangeAt_of cc) ?hh20_110); (case ho20_110 => exact rfl); (case hx20_110 => exact rfl); (case hw20_110 => exact rfl)))
  ((with_reducible refine (load_some _ g _ _ _ h6).mono ?_); rintro e w7 ⟨rfl, h7, hb⟩)
  clear cc_4 cc_13 cc_14 cc_15 cc_16 cc_17 cc_18 cc_19
  clear cc13
  have hsz := hb.size
  (try simp at hsz)
  replace cc := cellsAt_gb cc hb (by omega)
  replace oz := OutZ.gb oz hb (by omega)
  replace xq0 : w7.cell? ⟨w3.heap.size, 0, none⟩ = some (.int .i64 t.1) := gbc hb xq0 (by omega)
  replace xq1 : w7.cell? ⟨w3.heap.size, 1, none⟩ = some (.int .i64 0) := gbc hb xq1 (by omega)
  replace xq2 : w7.cell? ⟨w3.heap.size, 2, none⟩ = some (.int .i64 (s.1 / 4)) := gbc hb xq2 (by omega)
  replace xf : ∀ o, w7.frozen? ⟨w3.heap.size, o, none⟩ = false := fun o => gbf hb (by first | omega | (simp; done) | (simp; omega)) (by omega) (xf o)
  replace ccz : w.heap.size < w7.heap.size := by omega
  replace ozz : w.heap.size + 1 < w7.heap.size := by omega
  replace xz : w3.heap.size < w7.heap.size := by omega
  replace G := gb_trans G hb
  clear hb hsz
  replace hS0 := G.size
  have cc_4 : w7.cell? ⟨w.heap.size, 4, none⟩ = some (.int .i64 L.c.m) := cc 4 _ rfl
  have cc_13 : w7.cell? ⟨w.heap.size, 13, none⟩ = some (.int .i64 me) := cc 13 _ rfl
  have cc_14 : w7.cell? ⟨w.heap.size, 14, none⟩ = some (.int .i64 other) := cc 14 _ rfl
  have cc_15 : w7.cell? ⟨w.heap.size, 15, none⟩ = some (.bool false) := cc 15 _ rfl
  have cc_16 : w7.cell? ⟨w.heap.size, 16, none⟩ = some (.int .i64 m.s) := cc 16 _ rfl
  have cc_17 : w7.cell? ⟨w.heap.size, 17, none⟩ = some (.int .i64 m.k) := cc 17 _ rfl
  have cc_18 : w7.cell? ⟨w.heap.size, 18, none⟩ = some (.int .i64 m.a) := cc 18 _ rfl
  have cc_19 : w7.cell? ⟨w.heap.size, 19, none⟩ = some (.func (.func 30) #[] #[]) := cc 19 _ rfl
  have cc13 : CellsAt w7 (w.heap.size) [.int .i64 L.c.t, .int .i64 L.c.l, .int .i64 L.c.k, .int .i64 L.c.s, .int .i64 L.c.m, .int .i64 L.clock, .int .i64 L.stamps, .int .i64 L.log, .int .i64 L.fin, .int .i64 L.thread, .int .i64 L.lock, .int .i64 L.loc, .int .i64 L.size] := cellsAt_take 13 cc
  go_wp2_with (first | ((with_reducible refine wp_ld_lay ?hw13_111 ?x13_111 ?ho13_111 (w.heap.size) 0 ?hx13_111 [.int .i64 L.c.t, .int .i64 L.c.l, .int .i64 L.c.k, .int .i64 L.c.s, .int .i64 L.c.m, .int .i64 L.clock, .int .i64 L.stamps, .int .i64 L.log, .int .i64 L.fin, .int .i64 L.thread, .int .i64 L.lock, .int .i64 L.loc, .int .i64 L.size] rfl (rangeAt_of (cellsAt_set cc13 (by omega) _)) ?hh13_111); (case ho13_111 => exact rfl); (case hx13_111 => exact rfl); (case hw13_111 => exact rfl)) | ((with_reducible refine wp_ld_case ?hw20_112 ?x20_112 ?ho20_112 (w.heap.size) 0 ?hx20_112 [.int .i64 L.c.t, .int .i64 L.c.l, .int .i64 L.c.k, .int .i64 L.c.s, .int .i64 L.c.m, .int .i64 L.clock, .int .i64 L.stamps, .int .i64 L.log, .int .i64 L.fin, .int .i64 L.thread, .int .i64 L.lock, .int .i64 L.loc, .int .i64 L.size, .int .i64 me, .int .i64 other, .bool false, .int .i64 m.s, .int .i64 m.k, .int .i64 m.a, .func (.func 30) #[] #[]] rfl (rangeAt_of (cellsAt_set cc (by omega) _)) ?hh20_112); (case ho20_112 => exact rfl); (case hx20_112 => exact rfl); (case hw20_112 => exact rfl)))
  ((with_reducible refine (HC.out _).mono ?_); rintro e w8 ⟨rfl, hb⟩)
  clear cc_4 cc_13 cc_14 cc_15 cc_16 cc_17 cc_18 cc_19
  clear cc13
  have hsz := hb.size
  (try simp at hsz)
  replace cc := cellsAt_keep (cellsAt_set cc (by omega) _) hb
  replace oz := OutZ.below (OutZ.set oz (by omega) _) hb
  replace xq0 : w8.cell? ⟨w3.heap.size, 0, none⟩ = some (.int .i64 t.1) := cel_below hb (keepA_ xq0 (by omega))
  replace xq1 : w8.cell? ⟨w3.heap.size, 1, none⟩ = some (.int .i64 k.1) := cel_below hb (World.cell?_setCell_same _ _ _ xq1)
  replace xq2 : w8.cell? ⟨w3.heap.size, 2, none⟩ = some (.int .i64 (s.1 / 4)) := cel_below hb (keepA_ xq2 (by omega))
  replace xf : ∀ o, w8.frozen? ⟨w3.heap.size, o, none⟩ = false := fun o => fro_below hb (by first | omega | (simp; done) | (simp; omega)) ((World.frozen?_setCell _ _ _ _).trans (xf o))
  replace ccz : w.heap.size < w8.heap.size := by omega
  replace ozz : w.heap.size + 1 < w8.heap.size := by omega
  replace xz : w3.heap.size < w8.heap.size := by omega
  have h8 := runAt_keep (runAt_set h7 (by omega) _) hb
  replace G := gb_trans (gb_set G (Or.inr (by first | exact Nat.le_refl _ | (dsimp only; omega))) _) (gb_of_below (some g) hb)
  clear hb hsz
  replace hS0 := G.size
  have cc_4 : w8.cell? ⟨w.heap.size, 4, none⟩ = some (.int .i64 L.c.m) := cc 4 _ rfl
  have cc_13 : w8.cell? ⟨w.heap.size, 13, none⟩ = some (.int .i64 me) := cc 13 _ rfl
  have cc_14 : w8.cell? ⟨w.heap.size, 14, none⟩ = some (.int .i64 other) := cc 14 _ rfl
  have cc_15 : w8.cell? ⟨w.heap.size, 15, none⟩ = some (.bool false) := cc 15 _ rfl
  have cc_16 : w8.cell? ⟨w.heap.size, 16, none⟩ = some (.int .i64 m.s) := cc 16 _ rfl
  have cc_17 : w8.cell? ⟨w.heap.size, 17, none⟩ = some (.int .i64 m.k) := cc 17 _ rfl
  have cc_18 : w8.cell? ⟨w.heap.size, 18, none⟩ = some (.int .i64 m.a) := cc 18 _ rfl
  have cc_19 : w8.cell? ⟨w.heap.size, 19, none⟩ = some (.func (.func 30) #[] #[]) := cc 19 _ rfl
  have cc13 : CellsAt w8 (w.heap.size) [.int .i64 L.c.t, .int .i64 L.c.l, .int .i64 L.c.k, .int .i64 L.c.s, .int .i64 L.c.m, .int .i64 L.clock, .int .i64 L.stamps, .int .i64 L.log, .int .i64 L.fin, .int .i64 L.thread, .int .i64 L.lock, .int .i64 L.loc, .int .i64 L.size] := cellsAt_take 13 cc
  have oq0 := oz.c0
  have oq1 := oz.c1
  have oq2 := oz.c2
  have oq3 := oz.c3
  have oq4 := oz.c4
  have oq5 := oz.c5
  have oq6 := oz.c6
  have of := oz.fr
  go_wp2_with (first | ((with_reducible refine wp_ld_lay ?hw13_113 ?x13_113 ?ho13_113 (w.heap.size) 0 ?hx13_113 [.int .i64 L.c.t, .int .i64 L.c.l, .int .i64 L.c.k, .int .i64 L.c.s, .int .i64 L.c.m, .int .i64 L.clock, .int .i64 L.stamps, .int .i64 L.log, .int .i64 L.fin, .int .i64 L.thread, .int .i64 L.lock, .int .i64 L.loc, .int .i64 L.size] rfl (rangeAt_of cc13) ?hh13_113); (case ho13_113 => exact rfl); (case hx13_113 => exact rfl); (case hw13_113 => exact rfl)) | ((with_reducible refine wp_ld_case ?hw20_114 ?x20_114 ?ho20_114 (w.heap.size) 0 ?hx20_114 [.int .i64 L.c.t, .int .i64 L.c.l, .int .i64 L.c.k, .int .i64 L.c.s, .int .i64 L.c.m, .int .i64 L.clock, .int .i64 L.stamps, .int .i64 L.log, .int .i64 L.fin, .int .i64 L.thread, .int .i64 L.lock, .int .i64 L.loc, .int .i64 L.size, .int .i64 me, .int .i64 other, .bool false, .int .i64 m.s, .int .i64 m.k, .int .i64 m.a, .func (.func 30) #[] #[]] rfl (rangeAt_of cc) ?hh20_114); (case ho20_114 => exact rfl); (case hx20_114 => exact rfl); (case hw20_114 => exact rfl)))
  obtain ⟨W, hW, k0, k1, k2, k3, k4, k5, k6⟩ := outs_at oz (.int .i64 (1)) (.int .i64 (0)) (.int .i64 (0)) (.int .i64 (0)) (.bool false) (.bool false) (.int .i64 (0))
  rw [← hW]
  simp [bodyPost, results, Try.results61, go_sem, k0, k1, k2, k3, k4, k5, k6, OutD.v]
  rw [hW]
  exact gb_outs G (by first | exact Nat.le_refl _ | omega) _ _ _ _ _ _ _

theorem res_fret (w : World) (g : Nat) (L : Ly) (hok : L.ok) (me other : Int) (m : Ct) (s t k : Int × Bool) (l : List (Int × Bool)) (o : OutD) (h0 : RunAt w g (s :: t :: k :: l)) (hi : I64 s.1) (hs : ¬s.1 % 4 = 0) (hc : chooseD L.c.m m ⟨t.1, k.1, s.1 / 4⟩ = 2) (hd : (doomT L other s.1).run l = .inr o) :
    Calls Try.prog 61 #[caseV L me other false m, .pointer (some ⟨g, 0, none⟩)] w fun e w' => e = .returned (OutD.v o) ∧ w.grownBy w' (some g) := by
  unfold caseV
  have HM : Hid (∀ w, Calls Try.prog 38 #[L.v, .int .i64 me] w fun e w' => e = .returned (.int .i64 (atStatus L me)) ∧ Below w.heap.size w w') := Lib.hid (fun w => status_any L me w hok)
  have HS : Hid (∀ w, Calls Try.prog 38 #[L.v, .int .i64 other] w fun e w' => e = .returned (.int .i64 (atStatus L other)) ∧ Below w.heap.size w w') := Lib.hid (fun w => status_any L other w hok)
  have HT : Hid (∀ w, Calls Try.prog 64 #[L.v, .int .i64 other] w fun e w' => e = .returned (.int .i64 (atStamp L other)) ∧ Below w.heap.size w w') := Lib.hid (fun w => stamp_any L other w hok)
  have HK : Hid (∀ w, Calls Try.prog 65 #[L.v, .int .i64 other] w fun e w' => e = .returned (.int .i64 (atKarma L other)) ∧ Below w.heap.size w w') := Lib.hid (fun w => karma_any L other w hok)
  unfold Ly.v at HM HS HT HK
  have hs0 : (s.1 % 4 == 0) = false := by simp [hs]
  have HC : Hid (∀ w, Calls Try.prog 30 #[.int .i64 L.c.m, m.v, Ct.v ⟨t.1, k.1, s.1 / 4⟩] w fun e w' => e = .returned (.int .i64 2) ∧ Below w.heap.size w w') := Lib.hid (fun w => by rw [← hc]; exact choose_any _ _ _ w)
  unfold Ct.v at HC
  have HD : Hid (∀ w, RunAt w g l → Calls Try.prog 91 #[caseV L me other false m, .pointer (some ⟨g, 0, none⟩), .int .i64 s.1] w fun e w' => e = .returned o.v ∧ w.grownBy w' (some g)) := Lib.hid (fun w h => by have := doom_any w g L hok me other false m s.1 hi l h; rw [hd] at this; exact this)
  unfold caseV at HD
  unfold OutD.v at HD
  have hg0 := runAt_lt h0
  have G : w.grownBy w (some g) := gb_refl _ _
  have hS0 : w.heap.size + 0 ≤ w.heap.size := Nat.le_refl _
  go_enter Try.func61, Try.ntmps61
  go_wp2_with fail
  obtain ⟨w1, hwr⟩ : ∃ W, W = ((w.alloc (.cells #[.int .i64 L.c.t, .int .i64 L.c.l, .int .i64 L.c.k, .int .i64 L.c.s, .int .i64 L.c.m, .int .i64 L.clock, .int .i64 L.stamps, .int .i64 L.log, .int .i64 L.fin, .int .i64 L.thread, .int .i64 L.lock, .int .i64 L.loc, .int .i64 L.size, .int .i64 me, .int .i64 other, .bool false, .int .i64 m.s, .int .i64 m.k, .int .i64 m.a, .func (.func 30) #[] #[]] 119)).alloc (.cells #[.int .i64 0, .int .i64 0, .int .i64 0, .int .i64 0, .bool false, .bool false, .int .i64 0] 35)) := ⟨_, rfl⟩
  rw [← hwr]
  have hb : Below w.heap.size w w1 := by rw [hwr]; exact (Below.alloc (Below.alloc (Below.refl _ _) (by first | exact Nat.le_refl _ | (simp; omega) | simp) _) (by first | exact Nat.le_refl _ | (simp; omega) | simp) _)
  have cc : CellsAt w1 (w.heap.size) [.int .i64 L.c.t, .int .i64 L.c.l, .int .i64 L.c.k, .int .i64 L.c.s, .int .i64 L.c.m, .int .i64 L.clock, .int .i64 L.stamps, .int .i64 L.log, .int .i64 L.fin, .int .i64 L.thread, .int .i64 L.lock, .int .i64 L.loc, .int .i64 L.size, .int .i64 me, .int .i64 other, .bool false, .int .i64 m.s, .int .i64 m.k, .int .i64 m.a, .func (.func 30) #[] #[]] := by rw [hwr]; exact (cellsAt_alloc (cellsAt_new' w _ _ (w.heap.size) (by simp)) _)
  have ccz : w.heap.size < w1.heap.size := World.block_lt_of_cell? _ _ (cc 0 _ rfl)
  have oz : OutZ w1 (w.heap.size + 1) := by rw [hwr]; exact (OutZ.new' (w.alloc (.cells #[.int .i64 L.c.t, .int .i64 L.c.l, .int .i64 L.c.k, .int .i64 L.c.s, .int .i64 L.c.m, .int .i64 L.clock, .int .i64 L.stamps, .int .i64 L.log, .int .i64 L.fin, .int .i64 L.thread, .int .i64 L.lock, .int .i64 L.loc, .int .i64 L.size, .int .i64 me, .int .i64 other, .bool false, .int .i64 m.s, .int .i64 m.k, .int .i64 m.a, .func (.func 30) #[] #[]] 119)) _ (w.heap.size + 1) (by simp))
  have ozz : w.heap.size + 1 < w1.heap.size := OutZ.lt oz
  have h1 := runAt_keep h0 hb
  replace G := gb_trans G (gb_of_below (some g) hb)
  clear hb hwr
  replace hS0 := G.size
  have cc_4 : w1.cell? ⟨w.heap.size, 4, none⟩ = some (.int .i64 L.c.m) := cc 4 _ rfl
  have cc_13 : w1.cell? ⟨w.heap.size, 13, none⟩ = some (.int .i64 me) := cc 13 _ rfl
  have cc_14 : w1.cell? ⟨w.heap.size, 14, none⟩ = some (.int .i64 other) := cc 14 _ rfl
  have cc_15 : w1.cell? ⟨w.heap.size, 15, none⟩ = some (.bool false) := cc 15 _ rfl
  have cc_16 : w1.cell? ⟨w.heap.size, 16, none⟩ = some (.int .i64 m.s) := cc 16 _ rfl
  have cc_17 : w1.cell? ⟨w.heap.size, 17, none⟩ = some (.int .i64 m.k) := cc 17 _ rfl
  have cc_18 : w1.cell? ⟨w.heap.size, 18, none⟩ = some (.int .i64 m.a) := cc 18 _ rfl
  have cc_19 : w1.cell? ⟨w.heap.size, 19, none⟩ = some (.func (.func 30) #[] #[]) := cc 19 _ rfl
  have cc13 : CellsAt w1 (w.heap.size) [.int .i64 L.c.t, .int .i64 L.c.l, .int .i64 L.c.k, .int .i64 L.c.s, .int .i64 L.c.m, .int .i64 L.clock, .int .i64 L.stamps, .int .i64 L.log, .int .i64 L.fin, .int .i64 L.thread, .int .i64 L.lock, .int .i64 L.loc, .int .i64 L.size] := cellsAt_take 13 cc
  go_wp2_with (first | ((with_reducible refine wp_ld_lay ?hw13_115 ?x13_115 ?ho13_115 (w.heap.size) 0 ?hx13_115 [.int .i64 L.c.t, .int .i64 L.c.l, .int .i64 L.c.k, .int .i64 L.c.s, .int .i64 L.c.m, .int .i64 L.clock, .int .i64 L.stamps, .int .i64 L.log, .int .i64 L.fin, .int .i64 L.thread, .int .i64 L.lock, .int .i64 L.loc, .int .i64 L.size] rfl (rangeAt_of cc13) ?hh13_115); (case ho13_115 => exact rfl); (case hx13_115 => exact rfl); (case hw13_115 => exact rfl)) | ((with_reducible refine wp_ld_case ?hw20_116 ?x20_116 ?ho20_116 (w.heap.size) 0 ?hx20_116 [.int .i64 L.c.t, .int .i64 L.c.l, .int .i64 L.c.k, .int .i64 L.c.s, .int .i64 L.c.m, .int .i64 L.clock, .int .i64 L.stamps, .int .i64 L.log, .int .i64 L.fin, .int .i64 L.thread, .int .i64 L.lock, .int .i64 L.loc, .int .i64 L.size, .int .i64 me, .int .i64 other, .bool false, .int .i64 m.s, .int .i64 m.k, .int .i64 m.a, .func (.func 30) #[] #[]] rfl (rangeAt_of cc) ?hh20_116); (case ho20_116 => exact rfl); (case hx20_116 => exact rfl); (case hw20_116 => exact rfl)))
  ((with_reducible refine (HS.out _).mono ?_); rintro e w2 ⟨rfl, hb⟩)
  clear cc_4 cc_13 cc_14 cc_15 cc_16 cc_17 cc_18 cc_19
  clear cc13
  have hsz := hb.size
  (try simp at hsz)
  replace cc := cellsAt_keep cc hb
  replace oz := OutZ.below oz hb
  replace ccz : w.heap.size < w2.heap.size := by omega
  replace ozz : w.heap.size + 1 < w2.heap.size := by omega
  have h2 := runAt_keep h1 hb
  replace G := gb_trans G (gb_of_below (some g) hb)
  clear hb hsz
  replace hS0 := G.size
  have cc_4 : w2.cell? ⟨w.heap.size, 4, none⟩ = some (.int .i64 L.c.m) := cc 4 _ rfl
  have cc_13 : w2.cell? ⟨w.heap.size, 13, none⟩ = some (.int .i64 me) := cc 13 _ rfl
  have cc_14 : w2.cell? ⟨w.heap.size, 14, none⟩ = some (.int .i64 other) := cc 14 _ rfl
  have cc_15 : w2.cell? ⟨w.heap.size, 15, none⟩ = some (.bool false) := cc 15 _ rfl
  have cc_16 : w2.cell? ⟨w.heap.size, 16, none⟩ = some (.int .i64 m.s) := cc 16 _ rfl
  have cc_17 : w2.cell? ⟨w.heap.size, 17, none⟩ = some (.int .i64 m.k) := cc 17 _ rfl
  have cc_18 : w2.cell? ⟨w.heap.size, 18, none⟩ = some (.int .i64 m.a) := cc 18 _ rfl
  have cc_19 : w2.cell? ⟨w.heap.size, 19, none⟩ = some (.func (.func 30) #[] #[]) := cc 19 _ rfl
  have cc13 : CellsAt w2 (w.heap.size) [.int .i64 L.c.t, .int .i64 L.c.l, .int .i64 L.c.k, .int .i64 L.c.s, .int .i64 L.c.m, .int .i64 L.clock, .int .i64 L.stamps, .int .i64 L.log, .int .i64 L.fin, .int .i64 L.thread, .int .i64 L.lock, .int .i64 L.loc, .int .i64 L.size] := cellsAt_take 13 cc
  go_wp2_with (first | ((with_reducible refine wp_ld_lay ?hw13_117 ?x13_117 ?ho13_117 (w.heap.size) 0 ?hx13_117 [.int .i64 L.c.t, .int .i64 L.c.l, .int .i64 L.c.k, .int .i64 L.c.s, .int .i64 L.c.m, .int .i64 L.clock, .int .i64 L.stamps, .int .i64 L.log, .int .i64 L.fin, .int .i64 L.thread, .int .i64 L.lock, .int .i64 L.loc, .int .i64 L.size] rfl (rangeAt_of cc13) ?hh13_117); (case ho13_117 => exact rfl); (case hx13_117 => exact rfl); (case hw13_117 => exact rfl)) | ((with_reducible refine wp_ld_case ?hw20_118 ?x20_118 ?ho20_118 (w.heap.size) 0 ?hx20_118 [.int .i64 L.c.t, .int .i64 L.c.l, .int .i64 L.c.k, .int .i64 L.c.s, .int .i64 L.c.m, .int .i64 L.clock, .int .i64 L.stamps, .int .i64 L.log, .int .i64 L.fin, .int .i64 L.thread, .int .i64 L.lock, .int .i64 L.loc, .int .i64 L.size, .int .i64 me, .int .i64 other, .bool false, .int .i64 m.s, .int .i64 m.k, .int .i64 m.a, .func (.func 30) #[] #[]] rfl (rangeAt_of cc) ?hh20_118); (case ho20_118 => exact rfl); (case hx20_118 => exact rfl); (case hw20_118 => exact rfl)))
  ((with_reducible refine (load_some _ g _ _ _ h2).mono ?_); rintro e w3 ⟨rfl, h3, hb⟩)
  clear cc_4 cc_13 cc_14 cc_15 cc_16 cc_17 cc_18 cc_19
  clear cc13
  have hsz := hb.size
  (try simp at hsz)
  replace cc := cellsAt_gb cc hb (by omega)
  replace oz := OutZ.gb oz hb (by omega)
  replace ccz : w.heap.size < w3.heap.size := by omega
  replace ozz : w.heap.size + 1 < w3.heap.size := by omega
  replace G := gb_trans G hb
  clear hb hsz
  replace hS0 := G.size
  have cc_4 : w3.cell? ⟨w.heap.size, 4, none⟩ = some (.int .i64 L.c.m) := cc 4 _ rfl
  have cc_13 : w3.cell? ⟨w.heap.size, 13, none⟩ = some (.int .i64 me) := cc 13 _ rfl
  have cc_14 : w3.cell? ⟨w.heap.size, 14, none⟩ = some (.int .i64 other) := cc 14 _ rfl
  have cc_15 : w3.cell? ⟨w.heap.size, 15, none⟩ = some (.bool false) := cc 15 _ rfl
  have cc_16 : w3.cell? ⟨w.heap.size, 16, none⟩ = some (.int .i64 m.s) := cc 16 _ rfl
  have cc_17 : w3.cell? ⟨w.heap.size, 17, none⟩ = some (.int .i64 m.k) := cc 17 _ rfl
  have cc_18 : w3.cell? ⟨w.heap.size, 18, none⟩ = some (.int .i64 m.a) := cc 18 _ rfl
  have cc_19 : w3.cell? ⟨w.heap.size, 19, none⟩ = some (.func (.func 30) #[] #[]) := cc 19 _ rfl
  have cc13 : CellsAt w3 (w.heap.size) [.int .i64 L.c.t, .int .i64 L.c.l, .int .i64 L.c.k, .int .i64 L.c.s, .int .i64 L.c.m, .int .i64 L.clock, .int .i64 L.stamps, .int .i64 L.log, .int .i64 L.fin, .int .i64 L.thread, .int .i64 L.lock, .int .i64 L.loc, .int .i64 L.size] := cellsAt_take 13 cc
  go_wp2_with (first | ((with_reducible refine wp_ld_lay ?hw13_119 ?x13_119 ?ho13_119 (w.heap.size) 0 ?hx13_119 [.int .i64 L.c.t, .int .i64 L.c.l, .int .i64 L.c.k, .int .i64 L.c.s, .int .i64 L.c.m, .int .i64 L.clock, .int .i64 L.stamps, .int .i64 L.log, .int .i64 L.fin, .int .i64 L.thread, .int .i64 L.lock, .int .i64 L.loc, .int .i64 L.size] rfl (rangeAt_of cc13) ?hh13_119); (case ho13_119 => exact rfl); (case hx13_119 => exact rfl); (case hw13_119 => exact rfl)) | ((with_reducible refine wp_ld_case ?hw20_120 ?x20_120 ?ho20_120 (w.heap.size) 0 ?hx20_120 [.int .i64 L.c.t, .int .i64 L.c.l, .int .i64 L.c.k, .int .i64 L.c.s, .int .i64 L.c.m, .int .i64 L.clock, .int .i64 L.stamps, .int .i64 L.log, .int .i64 L.fin, .int .i64 L.thread, .int .i64 L.lock, .int .i64 L.loc, .int .i64 L.size, .int .i64 me, .int .i64 other, .bool false, .int .i64 m.s, .int .i64 m.k, .int .i64 m.a, .func (.func 30) #[] #[]] rfl (rangeAt_of cc) ?hh20_120); (case ho20_120 => exact rfl); (case hx20_120 => exact rfl); (case hw20_120 => exact rfl)))
  ((with_reducible refine (kind_any _ _).mono ?_); rintro e w' ⟨rfl, rfl⟩)
  clear cc13
  have cc13 : CellsAt w3 (w.heap.size) [.int .i64 L.c.t, .int .i64 L.c.l, .int .i64 L.c.k, .int .i64 L.c.s, .int .i64 L.c.m, .int .i64 L.clock, .int .i64 L.stamps, .int .i64 L.log, .int .i64 L.fin, .int .i64 L.thread, .int .i64 L.lock, .int .i64 L.loc, .int .i64 L.size] := cellsAt_take 13 cc
  go_wp2_with (first | ((with_reducible refine wp_ld_lay ?hw13_121 ?x13_121 ?ho13_121 (w.heap.size) 0 ?hx13_121 [.int .i64 L.c.t, .int .i64 L.c.l, .int .i64 L.c.k, .int .i64 L.c.s, .int .i64 L.c.m, .int .i64 L.clock, .int .i64 L.stamps, .int .i64 L.log, .int .i64 L.fin, .int .i64 L.thread, .int .i64 L.lock, .int .i64 L.loc, .int .i64 L.size] rfl (rangeAt_of cc13) ?hh13_121); (case ho13_121 => exact rfl); (case hx13_121 => exact rfl); (case hw13_121 => exact rfl)) | ((with_reducible refine wp_ld_case ?hw20_122 ?x20_122 ?ho20_122 (w.heap.size) 0 ?hx20_122 [.int .i64 L.c.t, .int .i64 L.c.l, .int .i64 L.c.k, .int .i64 L.c.s, .int .i64 L.c.m, .int .i64 L.clock, .int .i64 L.stamps, .int .i64 L.log, .int .i64 L.fin, .int .i64 L.thread, .int .i64 L.lock, .int .i64 L.loc, .int .i64 L.size, .int .i64 me, .int .i64 other, .bool false, .int .i64 m.s, .int .i64 m.k, .int .i64 m.a, .func (.func 30) #[] #[]] rfl (rangeAt_of cc) ?hh20_122); (case ho20_122 => exact rfl); (case hx20_122 => exact rfl); (case hw20_122 => exact rfl)))
  ((with_reducible refine (try_any _ hi _).mono ?_); rintro e w' ⟨rfl, rfl⟩)
  clear cc13
  have cc13 : CellsAt w3 (w.heap.size) [.int .i64 L.c.t, .int .i64 L.c.l, .int .i64 L.c.k, .int .i64 L.c.s, .int .i64 L.c.m, .int .i64 L.clock, .int .i64 L.stamps, .int .i64 L.log, .int .i64 L.fin, .int .i64 L.thread, .int .i64 L.lock, .int .i64 L.loc, .int .i64 L.size] := cellsAt_take 13 cc
  go_wp2_with (first | ((with_reducible refine wp_ld_lay ?hw13_123 ?x13_123 ?ho13_123 (w.heap.size) 0 ?hx13_123 [.int .i64 L.c.t, .int .i64 L.c.l, .int .i64 L.c.k, .int .i64 L.c.s, .int .i64 L.c.m, .int .i64 L.clock, .int .i64 L.stamps, .int .i64 L.log, .int .i64 L.fin, .int .i64 L.thread, .int .i64 L.lock, .int .i64 L.loc, .int .i64 L.size] rfl (rangeAt_of (cellsAt_alloc cc13 _)) ?hh13_123); (case ho13_123 => exact rfl); (case hx13_123 => exact rfl); (case hw13_123 => exact rfl)) | ((with_reducible refine wp_ld_case ?hw20_124 ?x20_124 ?ho20_124 (w.heap.size) 0 ?hx20_124 [.int .i64 L.c.t, .int .i64 L.c.l, .int .i64 L.c.k, .int .i64 L.c.s, .int .i64 L.c.m, .int .i64 L.clock, .int .i64 L.stamps, .int .i64 L.log, .int .i64 L.fin, .int .i64 L.thread, .int .i64 L.lock, .int .i64 L.loc, .int .i64 L.size, .int .i64 me, .int .i64 other, .bool false, .int .i64 m.s, .int .i64 m.k, .int .i64 m.a, .func (.func 30) #[] #[]] rfl (rangeAt_of (cellsAt_alloc cc _)) ?hh20_124); (case ho20_124 => exact rfl); (case hx20_124 => exact rfl); (case hw20_124 => exact rfl)))
  ((with_reducible refine (HT.out _).mono ?_); rintro e w4 ⟨rfl, hb⟩)
  clear cc_4 cc_13 cc_14 cc_15 cc_16 cc_17 cc_18 cc_19
  clear cc13
  have hsz := hb.size
  (try simp at hsz)
  have xcczn : w.heap.size ≠ w3.heap.size := by omega
  have xozzn : w.heap.size + 1 ≠ w3.heap.size := by omega
  have xgn : w3.heap.size ≠ g := by omega
  have xlo : w.heap.size ≤ w3.heap.size := by omega
  replace cc := cellsAt_keep (cellsAt_alloc cc _) hb
  replace oz := OutZ.below (OutZ.alloc oz _) hb
  have xq0 : w4.cell? ⟨w3.heap.size, 0, none⟩ = some (.int .i64 0) := cel_below hb (by rw [World.cell?_alloc_at _ _ _ _ (by simp)]; rfl)
  have xq1 : w4.cell? ⟨w3.heap.size, 1, none⟩ = some (.int .i64 0) := cel_below hb (by rw [World.cell?_alloc_at _ _ _ _ (by simp)]; rfl)
  have xq2 : w4.cell? ⟨w3.heap.size, 2, none⟩ = some (.int .i64 (s.1 / 4)) := cel_below hb (by rw [World.cell?_alloc_at _ _ _ _ (by simp)]; rfl)
  have xf : ∀ o, w4.frozen? ⟨w3.heap.size, o, none⟩ = false := fun o => fro_below hb (by first | omega | (simp; done) | (simp; omega)) (World.frozen?_alloc_at _ _ _ _ (by simp))
  replace ccz : w.heap.size < w4.heap.size := by omega
  replace ozz : w.heap.size + 1 < w4.heap.size := by omega
  have xz : w3.heap.size < w4.heap.size := World.block_lt_of_cell? _ _ xq0
  have h4 := runAt_keep (runAt_alloc h3 _) hb
  replace G := gb_trans (gb_alloc G _) (gb_of_below (some g) hb)
  clear hb hsz
  replace hS0 := G.size
  have cc_4 : w4.cell? ⟨w.heap.size, 4, none⟩ = some (.int .i64 L.c.m) := cc 4 _ rfl
  have cc_13 : w4.cell? ⟨w.heap.size, 13, none⟩ = some (.int .i64 me) := cc 13 _ rfl
  have cc_14 : w4.cell? ⟨w.heap.size, 14, none⟩ = some (.int .i64 other) := cc 14 _ rfl
  have cc_15 : w4.cell? ⟨w.heap.size, 15, none⟩ = some (.bool false) := cc 15 _ rfl
  have cc_16 : w4.cell? ⟨w.heap.size, 16, none⟩ = some (.int .i64 m.s) := cc 16 _ rfl
  have cc_17 : w4.cell? ⟨w.heap.size, 17, none⟩ = some (.int .i64 m.k) := cc 17 _ rfl
  have cc_18 : w4.cell? ⟨w.heap.size, 18, none⟩ = some (.int .i64 m.a) := cc 18 _ rfl
  have cc_19 : w4.cell? ⟨w.heap.size, 19, none⟩ = some (.func (.func 30) #[] #[]) := cc 19 _ rfl
  have cc13 : CellsAt w4 (w.heap.size) [.int .i64 L.c.t, .int .i64 L.c.l, .int .i64 L.c.k, .int .i64 L.c.s, .int .i64 L.c.m, .int .i64 L.clock, .int .i64 L.stamps, .int .i64 L.log, .int .i64 L.fin, .int .i64 L.thread, .int .i64 L.lock, .int .i64 L.loc, .int .i64 L.size] := cellsAt_take 13 cc
  go_wp2_with (first | ((with_reducible refine wp_ld_lay ?hw13_125 ?x13_125 ?ho13_125 (w.heap.size) 0 ?hx13_125 [.int .i64 L.c.t, .int .i64 L.c.l, .int .i64 L.c.k, .int .i64 L.c.s, .int .i64 L.c.m, .int .i64 L.clock, .int .i64 L.stamps, .int .i64 L.log, .int .i64 L.fin, .int .i64 L.thread, .int .i64 L.lock, .int .i64 L.loc, .int .i64 L.size] rfl (rangeAt_of cc13) ?hh13_125); (case ho13_125 => exact rfl); (case hx13_125 => exact rfl); (case hw13_125 => exact rfl)) | ((with_reducible refine wp_ld_case ?hw20_126 ?x20_126 ?ho20_126 (w.heap.size) 0 ?hx20_126 [.int .i64 L.c.t, .int .i64 L.c.l, .int .i64 L.c.k, .int .i64 L.c.s, .int .i64 L.c.m, .int .i64 L.clock, .int .i64 L.stamps, .int .i64 L.log, .int .i64 L.fin, .int .i64 L.thread, .int .i64 L.lock, .int .i64 L.loc, .int .i64 L.size, .int .i64 me, .int .i64 other, .bool false, .int .i64 m.s, .int .i64 m.k, .int .i64 m.a, .func (.func 30) #[] #[]] rfl (rangeAt_of cc) ?hh20_126); (case ho20_126 => exact rfl); (case hx20_126 => exact rfl); (case hw20_126 => exact rfl)))
  ((with_reducible refine (load_some _ g _ _ _ h4).mono ?_); rintro e w5 ⟨rfl, h5, hb⟩)
  clear cc_4 cc_13 cc_14 cc_15 cc_16 cc_17 cc_18 cc_19
  clear cc13
  have hsz := hb.size
  (try simp at hsz)
  replace cc := cellsAt_gb cc hb (by omega)
  replace oz := OutZ.gb oz hb (by omega)
  replace xq0 : w5.cell? ⟨w3.heap.size, 0, none⟩ = some (.int .i64 0) := gbc hb xq0 (by omega)
  replace xq1 : w5.cell? ⟨w3.heap.size, 1, none⟩ = some (.int .i64 0) := gbc hb xq1 (by omega)
  replace xq2 : w5.cell? ⟨w3.heap.size, 2, none⟩ = some (.int .i64 (s.1 / 4)) := gbc hb xq2 (by omega)
  replace xf : ∀ o, w5.frozen? ⟨w3.heap.size, o, none⟩ = false := fun o => gbf hb (by first | omega | (simp; done) | (simp; omega)) (by omega) (xf o)
  replace ccz : w.heap.size < w5.heap.size := by omega
  replace ozz : w.heap.size + 1 < w5.heap.size := by omega
  replace xz : w3.heap.size < w5.heap.size := by omega
  replace G := gb_trans G hb
  clear hb hsz
  replace hS0 := G.size
  have cc_4 : w5.cell? ⟨w.heap.size, 4, none⟩ = some (.int .i64 L.c.m) := cc 4 _ rfl
  have cc_13 : w5.cell? ⟨w.heap.size, 13, none⟩ = some (.int .i64 me) := cc 13 _ rfl
  have cc_14 : w5.cell? ⟨w.heap.size, 14, none⟩ = some (.int .i64 other) := cc 14 _ rfl
  have cc_15 : w5.cell? ⟨w.heap.size, 15, none⟩ = some (.bool false) := cc 15 _ rfl
  have cc_16 : w5.cell? ⟨w.heap.size, 16, none⟩ = some (.int .i64 m.s) := cc 16 _ rfl
  have cc_17 : w5.cell? ⟨w.heap.size, 17, none⟩ = some (.int .i64 m.k) := cc 17 _ rfl
  have cc_18 : w5.cell? ⟨w.heap.size, 18, none⟩ = some (.int .i64 m.a) := cc 18 _ rfl
  have cc_19 : w5.cell? ⟨w.heap.size, 19, none⟩ = some (.func (.func 30) #[] #[]) := cc 19 _ rfl
  have cc13 : CellsAt w5 (w.heap.size) [.int .i64 L.c.t, .int .i64 L.c.l, .int .i64 L.c.k, .int .i64 L.c.s, .int .i64 L.c.m, .int .i64 L.clock, .int .i64 L.stamps, .int .i64 L.log, .int .i64 L.fin, .int .i64 L.thread, .int .i64 L.lock, .int .i64 L.loc, .int .i64 L.size] := cellsAt_take 13 cc
  go_wp2_with (first | ((with_reducible refine wp_ld_lay ?hw13_127 ?x13_127 ?ho13_127 (w.heap.size) 0 ?hx13_127 [.int .i64 L.c.t, .int .i64 L.c.l, .int .i64 L.c.k, .int .i64 L.c.s, .int .i64 L.c.m, .int .i64 L.clock, .int .i64 L.stamps, .int .i64 L.log, .int .i64 L.fin, .int .i64 L.thread, .int .i64 L.lock, .int .i64 L.loc, .int .i64 L.size] rfl (rangeAt_of (cellsAt_set cc13 (by omega) _)) ?hh13_127); (case ho13_127 => exact rfl); (case hx13_127 => exact rfl); (case hw13_127 => exact rfl)) | ((with_reducible refine wp_ld_case ?hw20_128 ?x20_128 ?ho20_128 (w.heap.size) 0 ?hx20_128 [.int .i64 L.c.t, .int .i64 L.c.l, .int .i64 L.c.k, .int .i64 L.c.s, .int .i64 L.c.m, .int .i64 L.clock, .int .i64 L.stamps, .int .i64 L.log, .int .i64 L.fin, .int .i64 L.thread, .int .i64 L.lock, .int .i64 L.loc, .int .i64 L.size, .int .i64 me, .int .i64 other, .bool false, .int .i64 m.s, .int .i64 m.k, .int .i64 m.a, .func (.func 30) #[] #[]] rfl (rangeAt_of (cellsAt_set cc (by omega) _)) ?hh20_128); (case ho20_128 => exact rfl); (case hx20_128 => exact rfl); (case hw20_128 => exact rfl)))
  ((with_reducible refine (HK.out _).mono ?_); rintro e w6 ⟨rfl, hb⟩)
  clear cc_4 cc_13 cc_14 cc_15 cc_16 cc_17 cc_18 cc_19
  clear cc13
  have hsz := hb.size
  (try simp at hsz)
  replace cc := cellsAt_keep (cellsAt_set cc (by omega) _) hb
  replace oz := OutZ.below (OutZ.set oz (by omega) _) hb
  replace xq0 : w6.cell? ⟨w3.heap.size, 0, none⟩ = some (.int .i64 t.1) := cel_below hb (World.cell?_setCell_same _ _ _ xq0)
  replace xq1 : w6.cell? ⟨w3.heap.size, 1, none⟩ = some (.int .i64 0) := cel_below hb (keepA_ xq1 (by omega))
  replace xq2 : w6.cell? ⟨w3.heap.size, 2, none⟩ = some (.int .i64 (s.1 / 4)) := cel_below hb (keepA_ xq2 (by omega))
  replace xf : ∀ o, w6.frozen? ⟨w3.heap.size, o, none⟩ = false := fun o => fro_below hb (by first | omega | (simp; done) | (simp; omega)) ((World.frozen?_setCell _ _ _ _).trans (xf o))
  replace ccz : w.heap.size < w6.heap.size := by omega
  replace ozz : w.heap.size + 1 < w6.heap.size := by omega
  replace xz : w3.heap.size < w6.heap.size := by omega
  have h6 := runAt_keep (runAt_set h5 (by omega) _) hb
  replace G := gb_trans (gb_set G (Or.inr (by first | exact Nat.le_refl _ | (dsimp only; omega))) _) (gb_of_below (some g) hb)
  clear hb hsz
  replace hS0 := G.size
  have cc_4 : w6.cell? ⟨w.heap.size, 4, none⟩ = some (.int .i64 L.c.m) := cc 4 _ rfl
  have cc_13 : w6.cell? ⟨w.heap.size, 13, none⟩ = some (.int .i64 me) := cc 13 _ rfl
  have cc_14 : w6.cell? ⟨w.heap.size, 14, none⟩ = some (.int .i64 other) := cc 14 _ rfl
  have cc_15 : w6.cell? ⟨w.heap.size, 15, none⟩ = some (.bool false) := cc 15 _ rfl
  have cc_16 : w6.cell? ⟨w.heap.size, 16, none⟩ = some (.int .i64 m.s) := cc 16 _ rfl
  have cc_17 : w6.cell? ⟨w.heap.size, 17, none⟩ = some (.int .i64 m.k) := cc 17 _ rfl
  have cc_18 : w6.cell? ⟨w.heap.size, 18, none⟩ = some (.int .i64 m.a) := cc 18 _ rfl
  have cc_19 : w6.cell? ⟨w.heap.size, 19, none⟩ = some (.func (.func 30) #[] #[]) := cc 19 _ rfl
  have cc13 : CellsAt w6 (w.heap.size) [.int .i64 L.c.t, .int .i64 L.c.l, .int .i64 L.c.k, .int .i64 L.c.s, .int .i64 L.c.m, .int .i64 L.clock, .int .i64 L.stamps, .int .i64 L.log, .int .i64 L.fin, .int .i64 L.thread, .int .i64 L.lock, .int .i64 L.loc, .int .i64 L.size] := cellsAt_take 13 cc
  go_wp2_with (first | ((with_reducible refine wp_ld_lay ?hw13_129 ?x13_129 ?ho13_129 (w.heap.size) 0 ?hx13_129 [.int .i64 L.c.t, .int .i64 L.c.l, .int .i64 L.c.k, .int .i64 L.c.s, .int .i64 L.c.m, .int .i64 L.clock, .int .i64 L.stamps, .int .i64 L.log, .int .i64 L.fin, .int .i64 L.thread, .int .i64 L.lock, .int .i64 L.loc, .int .i64 L.size] rfl (rangeAt_of cc13) ?hh13_129); (case ho13_129 => exact rfl); (case hx13_129 => exact rfl); (case hw13_129 => exact rfl)) | ((with_reducible refine wp_ld_case ?hw20_130 ?x20_130 ?ho20_130 (w.heap.size) 0 ?hx20_130 [.int .i64 L.c.t, .int .i64 L.c.l, .int .i64 L.c.k, .int .i64 L.c.s, .int .i64 L.c.m, .int .i64 L.clock, .int .i64 L.stamps, .int .i64 L.log, .int .i64 L.fin, .int .i64 L.thread, .int .i64 L.lock, .int .i64 L.loc, .int .i64 L.size, .int .i64 me, .int .i64 other, .bool false, .int .i64 m.s, .int .i64 m.k, .int .i64 m.a, .func (.func 30) #[] #[]] rfl (rangeAt_of cc) ?hh20_130); (case ho20_130 => exact rfl); (case hx20_130 => exact rfl); (case hw20_130 => exact rfl)))
  ((with_reducible refine (load_some _ g _ _ _ h6).mono ?_); rintro e w7 ⟨rfl, h7, hb⟩)
  clear cc_4 cc_13 cc_14 cc_15 cc_16 cc_17 cc_18 cc_19
  clear cc13
  have hsz := hb.size
  (try simp at hsz)
  replace cc := cellsAt_gb cc hb (by omega)
  replace oz := OutZ.gb oz hb (by omega)
  replace xq0 : w7.cell? ⟨w3.heap.size, 0, none⟩ = some (.int .i64 t.1) := gbc hb xq0 (by omega)
  replace xq1 : w7.cell? ⟨w3.heap.size, 1, none⟩ = some (.int .i64 0) := gbc hb xq1 (by omega)
  replace xq2 : w7.cell? ⟨w3.heap.size, 2, none⟩ = some (.int .i64 (s.1 / 4)) := gbc hb xq2 (by omega)
  replace xf : ∀ o, w7.frozen? ⟨w3.heap.size, o, none⟩ = false := fun o => gbf hb (by first | omega | (simp; done) | (simp; omega)) (by omega) (xf o)
  replace ccz : w.heap.size < w7.heap.size := by omega
  replace ozz : w.heap.size + 1 < w7.heap.size := by omega
  replace xz : w3.heap.size < w7.heap.size := by omega
  replace G := gb_trans G hb
  clear hb hsz
  replace hS0 := G.size
  have cc_4 : w7.cell? ⟨w.heap.size, 4, none⟩ = some (.int .i64 L.c.m) := cc 4 _ rfl
  have cc_13 : w7.cell? ⟨w.heap.size, 13, none⟩ = some (.int .i64 me) := cc 13 _ rfl
  have cc_14 : w7.cell? ⟨w.heap.size, 14, none⟩ = some (.int .i64 other) := cc 14 _ rfl
  have cc_15 : w7.cell? ⟨w.heap.size, 15, none⟩ = some (.bool false) := cc 15 _ rfl
  have cc_16 : w7.cell? ⟨w.heap.size, 16, none⟩ = some (.int .i64 m.s) := cc 16 _ rfl
  have cc_17 : w7.cell? ⟨w.heap.size, 17, none⟩ = some (.int .i64 m.k) := cc 17 _ rfl
  have cc_18 : w7.cell? ⟨w.heap.size, 18, none⟩ = some (.int .i64 m.a) := cc 18 _ rfl
  have cc_19 : w7.cell? ⟨w.heap.size, 19, none⟩ = some (.func (.func 30) #[] #[]) := cc 19 _ rfl
  have cc13 : CellsAt w7 (w.heap.size) [.int .i64 L.c.t, .int .i64 L.c.l, .int .i64 L.c.k, .int .i64 L.c.s, .int .i64 L.c.m, .int .i64 L.clock, .int .i64 L.stamps, .int .i64 L.log, .int .i64 L.fin, .int .i64 L.thread, .int .i64 L.lock, .int .i64 L.loc, .int .i64 L.size] := cellsAt_take 13 cc
  go_wp2_with (first | ((with_reducible refine wp_ld_lay ?hw13_131 ?x13_131 ?ho13_131 (w.heap.size) 0 ?hx13_131 [.int .i64 L.c.t, .int .i64 L.c.l, .int .i64 L.c.k, .int .i64 L.c.s, .int .i64 L.c.m, .int .i64 L.clock, .int .i64 L.stamps, .int .i64 L.log, .int .i64 L.fin, .int .i64 L.thread, .int .i64 L.lock, .int .i64 L.loc, .int .i64 L.size] rfl (rangeAt_of (cellsAt_set cc13 (by omega) _)) ?hh13_131); (case ho13_131 => exact rfl); (case hx13_131 => exact rfl); (case hw13_131 => exact rfl)) | ((with_reducible refine wp_ld_case ?hw20_132 ?x20_132 ?ho20_132 (w.heap.size) 0 ?hx20_132 [.int .i64 L.c.t, .int .i64 L.c.l, .int .i64 L.c.k, .int .i64 L.c.s, .int .i64 L.c.m, .int .i64 L.clock, .int .i64 L.stamps, .int .i64 L.log, .int .i64 L.fin, .int .i64 L.thread, .int .i64 L.lock, .int .i64 L.loc, .int .i64 L.size, .int .i64 me, .int .i64 other, .bool false, .int .i64 m.s, .int .i64 m.k, .int .i64 m.a, .func (.func 30) #[] #[]] rfl (rangeAt_of (cellsAt_set cc (by omega) _)) ?hh20_132); (case ho20_132 => exact rfl); (case hx20_132 => exact rfl); (case hw20_132 => exact rfl)))
  ((with_reducible refine (HC.out _).mono ?_); rintro e w8 ⟨rfl, hb⟩)
  clear cc_4 cc_13 cc_14 cc_15 cc_16 cc_17 cc_18 cc_19
  clear cc13
  have hsz := hb.size
  (try simp at hsz)
  replace cc := cellsAt_keep (cellsAt_set cc (by omega) _) hb
  replace oz := OutZ.below (OutZ.set oz (by omega) _) hb
  replace xq0 : w8.cell? ⟨w3.heap.size, 0, none⟩ = some (.int .i64 t.1) := cel_below hb (keepA_ xq0 (by omega))
  replace xq1 : w8.cell? ⟨w3.heap.size, 1, none⟩ = some (.int .i64 k.1) := cel_below hb (World.cell?_setCell_same _ _ _ xq1)
  replace xq2 : w8.cell? ⟨w3.heap.size, 2, none⟩ = some (.int .i64 (s.1 / 4)) := cel_below hb (keepA_ xq2 (by omega))
  replace xf : ∀ o, w8.frozen? ⟨w3.heap.size, o, none⟩ = false := fun o => fro_below hb (by first | omega | (simp; done) | (simp; omega)) ((World.frozen?_setCell _ _ _ _).trans (xf o))
  replace ccz : w.heap.size < w8.heap.size := by omega
  replace ozz : w.heap.size + 1 < w8.heap.size := by omega
  replace xz : w3.heap.size < w8.heap.size := by omega
  have h8 := runAt_keep (runAt_set h7 (by omega) _) hb
  replace G := gb_trans (gb_set G (Or.inr (by first | exact Nat.le_refl _ | (dsimp only; omega))) _) (gb_of_below (some g) hb)
  clear hb hsz
  replace hS0 := G.size
  have cc_4 : w8.cell? ⟨w.heap.size, 4, none⟩ = some (.int .i64 L.c.m) := cc 4 _ rfl
  have cc_13 : w8.cell? ⟨w.heap.size, 13, none⟩ = some (.int .i64 me) := cc 13 _ rfl
  have cc_14 : w8.cell? ⟨w.heap.size, 14, none⟩ = some (.int .i64 other) := cc 14 _ rfl
  have cc_15 : w8.cell? ⟨w.heap.size, 15, none⟩ = some (.bool false) := cc 15 _ rfl
  have cc_16 : w8.cell? ⟨w.heap.size, 16, none⟩ = some (.int .i64 m.s) := cc 16 _ rfl
  have cc_17 : w8.cell? ⟨w.heap.size, 17, none⟩ = some (.int .i64 m.k) := cc 17 _ rfl
  have cc_18 : w8.cell? ⟨w.heap.size, 18, none⟩ = some (.int .i64 m.a) := cc 18 _ rfl
  have cc_19 : w8.cell? ⟨w.heap.size, 19, none⟩ = some (.func (.func 30) #[] #[]) := cc 19 _ rfl
  have cc13 : CellsAt w8 (w.heap.size) [.int .i64 L.c.t, .int .i64 L.c.l, .int .i64 L.c.k, .int .i64 L.c.s, .int .i64 L.c.m, .int .i64 L.clock, .int .i64 L.stamps, .int .i64 L.log, .int .i64 L.fin, .int .i64 L.thread, .int .i64 L.lock, .int .i64 L.loc, .int .i64 L.size] := cellsAt_take 13 cc
  go_wp2_with (first | ((with_reducible refine wp_ld_lay ?hw13_133 ?x13_133 ?ho13_133 (w.heap.size) 0 ?hx13_133 [.int .i64 L.c.t, .int .i64 L.c.l, .int .i64 L.c.k, .int .i64 L.c.s, .int .i64 L.c.m, .int .i64 L.clock, .int .i64 L.stamps, .int .i64 L.log, .int .i64 L.fin, .int .i64 L.thread, .int .i64 L.lock, .int .i64 L.loc, .int .i64 L.size] rfl (rangeAt_of cc13) ?hh13_133); (case ho13_133 => exact rfl); (case hx13_133 => exact rfl); (case hw13_133 => exact rfl)) | ((with_reducible refine wp_ld_case ?hw20_134 ?x20_134 ?ho20_134 (w.heap.size) 0 ?hx20_134 [.int .i64 L.c.t, .int .i64 L.c.l, .int .i64 L.c.k, .int .i64 L.c.s, .int .i64 L.c.m, .int .i64 L.clock, .int .i64 L.stamps, .int .i64 L.log, .int .i64 L.fin, .int .i64 L.thread, .int .i64 L.lock, .int .i64 L.loc, .int .i64 L.size, .int .i64 me, .int .i64 other, .bool false, .int .i64 m.s, .int .i64 m.k, .int .i64 m.a, .func (.func 30) #[] #[]] rfl (rangeAt_of cc) ?hh20_134); (case ho20_134 => exact rfl); (case hx20_134 => exact rfl); (case hw20_134 => exact rfl)))
  ((with_reducible refine (HD.out _ h8).mono ?_); rintro e w9 ⟨rfl, hb⟩)
  clear cc_4 cc_13 cc_14 cc_15 cc_16 cc_17 cc_18 cc_19
  clear cc13
  have hsz := hb.size
  (try simp at hsz)
  replace cc := cellsAt_gb cc hb (by omega)
  replace oz := OutZ.gb oz hb (by omega)
  replace xq0 : w9.cell? ⟨w3.heap.size, 0, none⟩ = some (.int .i64 t.1) := gbc hb xq0 (by omega)
  replace xq1 : w9.cell? ⟨w3.heap.size, 1, none⟩ = some (.int .i64 k.1) := gbc hb xq1 (by omega)
  replace xq2 : w9.cell? ⟨w3.heap.size, 2, none⟩ = some (.int .i64 (s.1 / 4)) := gbc hb xq2 (by omega)
  replace xf : ∀ o, w9.frozen? ⟨w3.heap.size, o, none⟩ = false := fun o => gbf hb (by first | omega | (simp; done) | (simp; omega)) (by omega) (xf o)
  replace ccz : w.heap.size < w9.heap.size := by omega
  replace ozz : w.heap.size + 1 < w9.heap.size := by omega
  replace xz : w3.heap.size < w9.heap.size := by omega
  replace G := gb_trans G hb
  clear hb hsz
  replace hS0 := G.size
  have cc_4 : w9.cell? ⟨w.heap.size, 4, none⟩ = some (.int .i64 L.c.m) := cc 4 _ rfl
  have cc_13 : w9.cell? ⟨w.heap.size, 13, none⟩ = some (.int .i64 me) := cc 13 _ rfl
  have cc_14 : w9.cell? ⟨w.heap.size, 14, none⟩ = some (.int .i64 other) := cc 14 _ rfl
  have cc_15 : w9.cell? ⟨w.heap.size, 15, none⟩ = some (.bool false) := cc 15 _ rfl
  have cc_16 : w9.cell? ⟨w.heap.size, 16, none⟩ = some (.int .i64 m.s) := cc 16 _ rfl
  have cc_17 : w9.cell? ⟨w.heap.size, 17, none⟩ = some (.int .i64 m.k) := cc 17 _ rfl
  have cc_18 : w9.cell? ⟨w.heap.size, 18, none⟩ = some (.int .i64 m.a) := cc 18 _ rfl
  have cc_19 : w9.cell? ⟨w.heap.size, 19, none⟩ = some (.func (.func 30) #[] #[]) := cc 19 _ rfl
  have cc13 : CellsAt w9 (w.heap.size) [.int .i64 L.c.t, .int .i64 L.c.l, .int .i64 L.c.k, .int .i64 L.c.s, .int .i64 L.c.m, .int .i64 L.clock, .int .i64 L.stamps, .int .i64 L.log, .int .i64 L.fin, .int .i64 L.thread, .int .i64 L.lock, .int .i64 L.loc, .int .i64 L.size] := cellsAt_take 13 cc
  have oq0 := oz.c0
  have oq1 := oz.c1
  have oq2 := oz.c2
  have oq3 := oz.c3
  have oq4 := oz.c4
  have oq5 := oz.c5
  have oq6 := oz.c6
  have of := oz.fr
  go_wp2_with (first | ((with_reducible refine wp_ld_lay ?hw13_135 ?x13_135 ?ho13_135 (w.heap.size) 0 ?hx13_135 [.int .i64 L.c.t, .int .i64 L.c.l, .int .i64 L.c.k, .int .i64 L.c.s, .int .i64 L.c.m, .int .i64 L.clock, .int .i64 L.stamps, .int .i64 L.log, .int .i64 L.fin, .int .i64 L.thread, .int .i64 L.lock, .int .i64 L.loc, .int .i64 L.size] rfl (rangeAt_of cc13) ?hh13_135); (case ho13_135 => exact rfl); (case hx13_135 => exact rfl); (case hw13_135 => exact rfl)) | ((with_reducible refine wp_ld_case ?hw20_136 ?x20_136 ?ho20_136 (w.heap.size) 0 ?hx20_136 [.int .i64 L.c.t, .int .i64 L.c.l, .int .i64 L.c.k, .int .i64 L.c.s, .int .i64 L.c.m, .int .i64 L.clock, .int .i64 L.stamps, .int .i64 L.log, .int .i64 L.fin, .int .i64 L.thread, .int .i64 L.lock, .int .i64 L.loc, .int .i64 L.size, .int .i64 me, .int .i64 other, .bool false, .int .i64 m.s, .int .i64 m.k, .int .i64 m.a, .func (.func 30) #[] #[]] rfl (rangeAt_of cc) ?hh20_136); (case ho20_136 => exact rfl); (case hx20_136 => exact rfl); (case hw20_136 => exact rfl)))
  obtain ⟨W, hW, k0, k1, k2, k3, k4, k5, k6⟩ := outs_at oz (.int .i64 o.val) (.int .i64 o.ver) (.int .i64 o.rv) (.int .i64 o.st) (.bool o.ok) (.bool o.lost) (.int .i64 o.err)
  rw [← hW]
  simp [bodyPost, results, Try.results61, go_sem, k0, k1, k2, k3, k4, k5, k6, OutD.v]
  rw [hW]
  exact gb_outs G (by first | exact Nat.le_refl _ | omega) _ _ _ _ _ _ _

theorem res_fpend (w : World) (g : Nat) (L : Ly) (hok : L.ok) (me other : Int) (m : Ct) (s t k : Int × Bool) (l : List (Int × Bool)) (a : Ask) (h0 : RunAt w g (s :: t :: k :: l)) (hi : I64 s.1) (hs : ¬s.1 % 4 = 0) (hc : chooseD L.c.m m ⟨t.1, k.1, s.1 / 4⟩ = 2) (hd : (doomT L other s.1).run l = .inl a) :
    Calls Try.prog 61 #[caseV L me other false m, .pointer (some ⟨g, 0, none⟩)] w fun e w' => e = .panicked [{ v := .iface 124 a.v, recovered := false }] ∧ w.grownBy w' (some g) := by
  unfold caseV
  have HM : Hid (∀ w, Calls Try.prog 38 #[L.v, .int .i64 me] w fun e w' => e = .returned (.int .i64 (atStatus L me)) ∧ Below w.heap.size w w') := Lib.hid (fun w => status_any L me w hok)
  have HS : Hid (∀ w, Calls Try.prog 38 #[L.v, .int .i64 other] w fun e w' => e = .returned (.int .i64 (atStatus L other)) ∧ Below w.heap.size w w') := Lib.hid (fun w => status_any L other w hok)
  have HT : Hid (∀ w, Calls Try.prog 64 #[L.v, .int .i64 other] w fun e w' => e = .returned (.int .i64 (atStamp L other)) ∧ Below w.heap.size w w') := Lib.hid (fun w => stamp_any L other w hok)
  have HK : Hid (∀ w, Calls Try.prog 65 #[L.v, .int .i64 other] w fun e w' => e = .returned (.int .i64 (atKarma L other)) ∧ Below w.heap.size w w') := Lib.hid (fun w => karma_any L other w hok)
  unfold Ly.v at HM HS HT HK
  have hs0 : (s.1 % 4 == 0) = false := by simp [hs]
  have HC : Hid (∀ w, Calls Try.prog 30 #[.int .i64 L.c.m, m.v, Ct.v ⟨t.1, k.1, s.1 / 4⟩] w fun e w' => e = .returned (.int .i64 2) ∧ Below w.heap.size w w') := Lib.hid (fun w => by rw [← hc]; exact choose_any _ _ _ w)
  unfold Ct.v at HC
  have HD : Hid (∀ w, RunAt w g l → Calls Try.prog 91 #[caseV L me other false m, .pointer (some ⟨g, 0, none⟩), .int .i64 s.1] w fun e w' => e = .panicked [{ v := .iface 124 a.v, recovered := false }] ∧ w.grownBy w' (some g)) := Lib.hid (fun w h => by have := doom_any w g L hok me other false m s.1 hi l h; rw [hd] at this; exact this)
  unfold caseV at HD
  have hg0 := runAt_lt h0
  have G : w.grownBy w (some g) := gb_refl _ _
  have hS0 : w.heap.size + 0 ≤ w.heap.size := Nat.le_refl _
  go_enter Try.func61, Try.ntmps61
  go_wp2_with fail
  obtain ⟨w1, hwr⟩ : ∃ W, W = ((w.alloc (.cells #[.int .i64 L.c.t, .int .i64 L.c.l, .int .i64 L.c.k, .int .i64 L.c.s, .int .i64 L.c.m, .int .i64 L.clock, .int .i64 L.stamps, .int .i64 L.log, .int .i64 L.fin, .int .i64 L.thread, .int .i64 L.lock, .int .i64 L.loc, .int .i64 L.size, .int .i64 me, .int .i64 other, .bool false, .int .i64 m.s, .int .i64 m.k, .int .i64 m.a, .func (.func 30) #[] #[]] 119)).alloc (.cells #[.int .i64 0, .int .i64 0, .int .i64 0, .int .i64 0, .bool false, .bool false, .int .i64 0] 35)) := ⟨_, rfl⟩
  rw [← hwr]
  have hb : Below w.heap.size w w1 := by rw [hwr]; exact (Below.alloc (Below.alloc (Below.refl _ _) (by first | exact Nat.le_refl _ | (simp; omega) | simp) _) (by first | exact Nat.le_refl _ | (simp; omega) | simp) _)
  have cc : CellsAt w1 (w.heap.size) [.int .i64 L.c.t, .int .i64 L.c.l, .int .i64 L.c.k, .int .i64 L.c.s, .int .i64 L.c.m, .int .i64 L.clock, .int .i64 L.stamps, .int .i64 L.log, .int .i64 L.fin, .int .i64 L.thread, .int .i64 L.lock, .int .i64 L.loc, .int .i64 L.size, .int .i64 me, .int .i64 other, .bool false, .int .i64 m.s, .int .i64 m.k, .int .i64 m.a, .func (.func 30) #[] #[]] := by rw [hwr]; exact (cellsAt_alloc (cellsAt_new' w _ _ (w.heap.size) (by simp)) _)
  have ccz : w.heap.size < w1.heap.size := World.block_lt_of_cell? _ _ (cc 0 _ rfl)
  have oz : OutZ w1 (w.heap.size + 1) := by rw [hwr]; exact (OutZ.new' (w.alloc (.cells #[.int .i64 L.c.t, .int .i64 L.c.l, .int .i64 L.c.k, .int .i64 L.c.s, .int .i64 L.c.m, .int .i64 L.clock, .int .i64 L.stamps, .int .i64 L.log, .int .i64 L.fin, .int .i64 L.thread, .int .i64 L.lock, .int .i64 L.loc, .int .i64 L.size, .int .i64 me, .int .i64 other, .bool false, .int .i64 m.s, .int .i64 m.k, .int .i64 m.a, .func (.func 30) #[] #[]] 119)) _ (w.heap.size + 1) (by simp))
  have ozz : w.heap.size + 1 < w1.heap.size := OutZ.lt oz
  have h1 := runAt_keep h0 hb
  replace G := gb_trans G (gb_of_below (some g) hb)
  clear hb hwr
  replace hS0 := G.size
  have cc_4 : w1.cell? ⟨w.heap.size, 4, none⟩ = some (.int .i64 L.c.m) := cc 4 _ rfl
  have cc_13 : w1.cell? ⟨w.heap.size, 13, none⟩ = some (.int .i64 me) := cc 13 _ rfl
  have cc_14 : w1.cell? ⟨w.heap.size, 14, none⟩ = some (.int .i64 other) := cc 14 _ rfl
  have cc_15 : w1.cell? ⟨w.heap.size, 15, none⟩ = some (.bool false) := cc 15 _ rfl
  have cc_16 : w1.cell? ⟨w.heap.size, 16, none⟩ = some (.int .i64 m.s) := cc 16 _ rfl
  have cc_17 : w1.cell? ⟨w.heap.size, 17, none⟩ = some (.int .i64 m.k) := cc 17 _ rfl
  have cc_18 : w1.cell? ⟨w.heap.size, 18, none⟩ = some (.int .i64 m.a) := cc 18 _ rfl
  have cc_19 : w1.cell? ⟨w.heap.size, 19, none⟩ = some (.func (.func 30) #[] #[]) := cc 19 _ rfl
  have cc13 : CellsAt w1 (w.heap.size) [.int .i64 L.c.t, .int .i64 L.c.l, .int .i64 L.c.k, .int .i64 L.c.s, .int .i64 L.c.m, .int .i64 L.clock, .int .i64 L.stamps, .int .i64 L.log, .int .i64 L.fin, .int .i64 L.thread, .int .i64 L.lock, .int .i64 L.loc, .int .i64 L.size] := cellsAt_take 13 cc
  go_wp2_with (first | ((with_reducible refine wp_ld_lay ?hw13_137 ?x13_137 ?ho13_137 (w.heap.size) 0 ?hx13_137 [.int .i64 L.c.t, .int .i64 L.c.l, .int .i64 L.c.k, .int .i64 L.c.s, .int .i64 L.c.m, .int .i64 L.clock, .int .i64 L.stamps, .int .i64 L.log, .int .i64 L.fin, .int .i64 L.thread, .int .i64 L.lock, .int .i64 L.loc, .int .i64 L.size] rfl (rangeAt_of cc13) ?hh13_137); (case ho13_137 => exact rfl); (case hx13_137 => exact rfl); (case hw13_137 => exact rfl)) | ((with_reducible refine wp_ld_case ?hw20_138 ?x20_138 ?ho20_138 (w.heap.size) 0 ?hx20_138 [.int .i64 L.c.t, .int .i64 L.c.l, .int .i64 L.c.k, .int .i64 L.c.s, .int .i64 L.c.m, .int .i64 L.clock, .int .i64 L.stamps, .int .i64 L.log, .int .i64 L.fin, .int .i64 L.thread, .int .i64 L.lock, .int .i64 L.loc, .int .i64 L.size, .int .i64 me, .int .i64 other, .bool false, .int .i64 m.s, .int .i64 m.k, .int .i64 m.a, .func (.func 30) #[] #[]] rfl (rangeAt_of cc) ?hh20_138); (case ho20_138 => exact rfl); (case hx20_138 => exact rfl); (case hw20_138 => exact rfl)))
  ((with_reducible refine (HS.out _).mono ?_); rintro e w2 ⟨rfl, hb⟩)
  clear cc_4 cc_13 cc_14 cc_15 cc_16 cc_17 cc_18 cc_19
  clear cc13
  have hsz := hb.size
  (try simp at hsz)
  replace cc := cellsAt_keep cc hb
  replace oz := OutZ.below oz hb
  replace ccz : w.heap.size < w2.heap.size := by omega
  replace ozz : w.heap.size + 1 < w2.heap.size := by omega
  have h2 := runAt_keep h1 hb
  replace G := gb_trans G (gb_of_below (some g) hb)
  clear hb hsz
  replace hS0 := G.size
  have cc_4 : w2.cell? ⟨w.heap.size, 4, none⟩ = some (.int .i64 L.c.m) := cc 4 _ rfl
  have cc_13 : w2.cell? ⟨w.heap.size, 13, none⟩ = some (.int .i64 me) := cc 13 _ rfl
  have cc_14 : w2.cell? ⟨w.heap.size, 14, none⟩ = some (.int .i64 other) := cc 14 _ rfl
  have cc_15 : w2.cell? ⟨w.heap.size, 15, none⟩ = some (.bool false) := cc 15 _ rfl
  have cc_16 : w2.cell? ⟨w.heap.size, 16, none⟩ = some (.int .i64 m.s) := cc 16 _ rfl
  have cc_17 : w2.cell? ⟨w.heap.size, 17, none⟩ = some (.int .i64 m.k) := cc 17 _ rfl
  have cc_18 : w2.cell? ⟨w.heap.size, 18, none⟩ = some (.int .i64 m.a) := cc 18 _ rfl
  have cc_19 : w2.cell? ⟨w.heap.size, 19, none⟩ = some (.func (.func 30) #[] #[]) := cc 19 _ rfl
  have cc13 : CellsAt w2 (w.heap.size) [.int .i64 L.c.t, .int .i64 L.c.l, .int .i64 L.c.k, .int .i64 L.c.s, .int .i64 L.c.m, .int .i64 L.clock, .int .i64 L.stamps, .int .i64 L.log, .int .i64 L.fin, .int .i64 L.thread, .int .i64 L.lock, .int .i64 L.loc, .int .i64 L.size] := cellsAt_take 13 cc
  go_wp2_with (first | ((with_reducible refine wp_ld_lay ?hw13_139 ?x13_139 ?ho13_139 (w.heap.size) 0 ?hx13_139 [.int .i64 L.c.t, .int .i64 L.c.l, .int .i64 L.c.k, .int .i64 L.c.s, .int .i64 L.c.m, .int .i64 L.clock, .int .i64 L.stamps, .int .i64 L.log, .int .i64 L.fin, .int .i64 L.thread, .int .i64 L.lock, .int .i64 L.loc, .int .i64 L.size] rfl (rangeAt_of cc13) ?hh13_139); (case ho13_139 => exact rfl); (case hx13_139 => exact rfl); (case hw13_139 => exact rfl)) | ((with_reducible refine wp_ld_case ?hw20_140 ?x20_140 ?ho20_140 (w.heap.size) 0 ?hx20_140 [.int .i64 L.c.t, .int .i64 L.c.l, .int .i64 L.c.k, .int .i64 L.c.s, .int .i64 L.c.m, .int .i64 L.clock, .int .i64 L.stamps, .int .i64 L.log, .int .i64 L.fin, .int .i64 L.thread, .int .i64 L.lock, .int .i64 L.loc, .int .i64 L.size, .int .i64 me, .int .i64 other, .bool false, .int .i64 m.s, .int .i64 m.k, .int .i64 m.a, .func (.func 30) #[] #[]] rfl (rangeAt_of cc) ?hh20_140); (case ho20_140 => exact rfl); (case hx20_140 => exact rfl); (case hw20_140 => exact rfl)))
  ((with_reducible refine (load_some _ g _ _ _ h2).mono ?_); rintro e w3 ⟨rfl, h3, hb⟩)
  clear cc_4 cc_13 cc_14 cc_15 cc_16 cc_17 cc_18 cc_19
  clear cc13
  have hsz := hb.size
  (try simp at hsz)
  replace cc := cellsAt_gb cc hb (by omega)
  replace oz := OutZ.gb oz hb (by omega)
  replace ccz : w.heap.size < w3.heap.size := by omega
  replace ozz : w.heap.size + 1 < w3.heap.size := by omega
  replace G := gb_trans G hb
  clear hb hsz
  replace hS0 := G.size
  have cc_4 : w3.cell? ⟨w.heap.size, 4, none⟩ = some (.int .i64 L.c.m) := cc 4 _ rfl
  have cc_13 : w3.cell? ⟨w.heap.size, 13, none⟩ = some (.int .i64 me) := cc 13 _ rfl
  have cc_14 : w3.cell? ⟨w.heap.size, 14, none⟩ = some (.int .i64 other) := cc 14 _ rfl
  have cc_15 : w3.cell? ⟨w.heap.size, 15, none⟩ = some (.bool false) := cc 15 _ rfl
  have cc_16 : w3.cell? ⟨w.heap.size, 16, none⟩ = some (.int .i64 m.s) := cc 16 _ rfl
  have cc_17 : w3.cell? ⟨w.heap.size, 17, none⟩ = some (.int .i64 m.k) := cc 17 _ rfl
  have cc_18 : w3.cell? ⟨w.heap.size, 18, none⟩ = some (.int .i64 m.a) := cc 18 _ rfl
  have cc_19 : w3.cell? ⟨w.heap.size, 19, none⟩ = some (.func (.func 30) #[] #[]) := cc 19 _ rfl
  have cc13 : CellsAt w3 (w.heap.size) [.int .i64 L.c.t, .int .i64 L.c.l, .int .i64 L.c.k, .int .i64 L.c.s, .int .i64 L.c.m, .int .i64 L.clock, .int .i64 L.stamps, .int .i64 L.log, .int .i64 L.fin, .int .i64 L.thread, .int .i64 L.lock, .int .i64 L.loc, .int .i64 L.size] := cellsAt_take 13 cc
  go_wp2_with (first | ((with_reducible refine wp_ld_lay ?hw13_141 ?x13_141 ?ho13_141 (w.heap.size) 0 ?hx13_141 [.int .i64 L.c.t, .int .i64 L.c.l, .int .i64 L.c.k, .int .i64 L.c.s, .int .i64 L.c.m, .int .i64 L.clock, .int .i64 L.stamps, .int .i64 L.log, .int .i64 L.fin, .int .i64 L.thread, .int .i64 L.lock, .int .i64 L.loc, .int .i64 L.size] rfl (rangeAt_of cc13) ?hh13_141); (case ho13_141 => exact rfl); (case hx13_141 => exact rfl); (case hw13_141 => exact rfl)) | ((with_reducible refine wp_ld_case ?hw20_142 ?x20_142 ?ho20_142 (w.heap.size) 0 ?hx20_142 [.int .i64 L.c.t, .int .i64 L.c.l, .int .i64 L.c.k, .int .i64 L.c.s, .int .i64 L.c.m, .int .i64 L.clock, .int .i64 L.stamps, .int .i64 L.log, .int .i64 L.fin, .int .i64 L.thread, .int .i64 L.lock, .int .i64 L.loc, .int .i64 L.size, .int .i64 me, .int .i64 other, .bool false, .int .i64 m.s, .int .i64 m.k, .int .i64 m.a, .func (.func 30) #[] #[]] rfl (rangeAt_of cc) ?hh20_142); (case ho20_142 => exact rfl); (case hx20_142 => exact rfl); (case hw20_142 => exact rfl)))
  ((with_reducible refine (kind_any _ _).mono ?_); rintro e w' ⟨rfl, rfl⟩)
  clear cc13
  have cc13 : CellsAt w3 (w.heap.size) [.int .i64 L.c.t, .int .i64 L.c.l, .int .i64 L.c.k, .int .i64 L.c.s, .int .i64 L.c.m, .int .i64 L.clock, .int .i64 L.stamps, .int .i64 L.log, .int .i64 L.fin, .int .i64 L.thread, .int .i64 L.lock, .int .i64 L.loc, .int .i64 L.size] := cellsAt_take 13 cc
  go_wp2_with (first | ((with_reducible refine wp_ld_lay ?hw13_143 ?x13_143 ?ho13_143 (w.heap.size) 0 ?hx13_143 [.int .i64 L.c.t, .int .i64 L.c.l, .int .i64 L.c.k, .int .i64 L.c.s, .int .i64 L.c.m, .int .i64 L.clock, .int .i64 L.stamps, .int .i64 L.log, .int .i64 L.fin, .int .i64 L.thread, .int .i64 L.lock, .int .i64 L.loc, .int .i64 L.size] rfl (rangeAt_of cc13) ?hh13_143); (case ho13_143 => exact rfl); (case hx13_143 => exact rfl); (case hw13_143 => exact rfl)) | ((with_reducible refine wp_ld_case ?hw20_144 ?x20_144 ?ho20_144 (w.heap.size) 0 ?hx20_144 [.int .i64 L.c.t, .int .i64 L.c.l, .int .i64 L.c.k, .int .i64 L.c.s, .int .i64 L.c.m, .int .i64 L.clock, .int .i64 L.stamps, .int .i64 L.log, .int .i64 L.fin, .int .i64 L.thread, .int .i64 L.lock, .int .i64 L.loc, .int .i64 L.size, .int .i64 me, .int .i64 other, .bool false, .int .i64 m.s, .int .i64 m.k, .int .i64 m.a, .func (.func 30) #[] #[]] rfl (rangeAt_of cc) ?hh20_144); (case ho20_144 => exact rfl); (case hx20_144 => exact rfl); (case hw20_144 => exact rfl)))
  ((with_reducible refine (try_any _ hi _).mono ?_); rintro e w' ⟨rfl, rfl⟩)
  clear cc13
  have cc13 : CellsAt w3 (w.heap.size) [.int .i64 L.c.t, .int .i64 L.c.l, .int .i64 L.c.k, .int .i64 L.c.s, .int .i64 L.c.m, .int .i64 L.clock, .int .i64 L.stamps, .int .i64 L.log, .int .i64 L.fin, .int .i64 L.thread, .int .i64 L.lock, .int .i64 L.loc, .int .i64 L.size] := cellsAt_take 13 cc
  go_wp2_with (first | ((with_reducible refine wp_ld_lay ?hw13_145 ?x13_145 ?ho13_145 (w.heap.size) 0 ?hx13_145 [.int .i64 L.c.t, .int .i64 L.c.l, .int .i64 L.c.k, .int .i64 L.c.s, .int .i64 L.c.m, .int .i64 L.clock, .int .i64 L.stamps, .int .i64 L.log, .int .i64 L.fin, .int .i64 L.thread, .int .i64 L.lock, .int .i64 L.loc, .int .i64 L.size] rfl (rangeAt_of (cellsAt_alloc cc13 _)) ?hh13_145); (case ho13_145 => exact rfl); (case hx13_145 => exact rfl); (case hw13_145 => exact rfl)) | ((with_reducible refine wp_ld_case ?hw20_146 ?x20_146 ?ho20_146 (w.heap.size) 0 ?hx20_146 [.int .i64 L.c.t, .int .i64 L.c.l, .int .i64 L.c.k, .int .i64 L.c.s, .int .i64 L.c.m, .int .i64 L.clock, .int .i64 L.stamps, .int .i64 L.log, .int .i64 L.fin, .int .i64 L.thread, .int .i64 L.lock, .int .i64 L.loc, .int .i64 L.size, .int .i64 me, .int .i64 other, .bool false, .int .i64 m.s, .int .i64 m.k, .int .i64 m.a, .func (.func 30) #[] #[]] rfl (rangeAt_of (cellsAt_alloc cc _)) ?hh20_146); (case ho20_146 => exact rfl); (case hx20_146 => exact rfl); (case hw20_146 => exact rfl)))
  ((with_reducible refine (HT.out _).mono ?_); rintro e w4 ⟨rfl, hb⟩)
  clear cc_4 cc_13 cc_14 cc_15 cc_16 cc_17 cc_18 cc_19
  clear cc13
  have hsz := hb.size
  (try simp at hsz)
  have xcczn : w.heap.size ≠ w3.heap.size := by omega
  have xozzn : w.heap.size + 1 ≠ w3.heap.size := by omega
  have xgn : w3.heap.size ≠ g := by omega
  have xlo : w.heap.size ≤ w3.heap.size := by omega
  replace cc := cellsAt_keep (cellsAt_alloc cc _) hb
  replace oz := OutZ.below (OutZ.alloc oz _) hb
  have xq0 : w4.cell? ⟨w3.heap.size, 0, none⟩ = some (.int .i64 0) := cel_below hb (by rw [World.cell?_alloc_at _ _ _ _ (by simp)]; rfl)
  have xq1 : w4.cell? ⟨w3.heap.size, 1, none⟩ = some (.int .i64 0) := cel_below hb (by rw [World.cell?_alloc_at _ _ _ _ (by simp)]; rfl)
  have xq2 : w4.cell? ⟨w3.heap.size, 2, none⟩ = some (.int .i64 (s.1 / 4)) := cel_below hb (by rw [World.cell?_alloc_at _ _ _ _ (by simp)]; rfl)
  have xf : ∀ o, w4.frozen? ⟨w3.heap.size, o, none⟩ = false := fun o => fro_below hb (by first | omega | (simp; done) | (simp; omega)) (World.frozen?_alloc_at _ _ _ _ (by simp))
  replace ccz : w.heap.size < w4.heap.size := by omega
  replace ozz : w.heap.size + 1 < w4.heap.size := by omega
  have xz : w3.heap.size < w4.heap.size := World.block_lt_of_cell? _ _ xq0
  have h4 := runAt_keep (runAt_alloc h3 _) hb
  replace G := gb_trans (gb_alloc G _) (gb_of_below (some g) hb)
  clear hb hsz
  replace hS0 := G.size
  have cc_4 : w4.cell? ⟨w.heap.size, 4, none⟩ = some (.int .i64 L.c.m) := cc 4 _ rfl
  have cc_13 : w4.cell? ⟨w.heap.size, 13, none⟩ = some (.int .i64 me) := cc 13 _ rfl
  have cc_14 : w4.cell? ⟨w.heap.size, 14, none⟩ = some (.int .i64 other) := cc 14 _ rfl
  have cc_15 : w4.cell? ⟨w.heap.size, 15, none⟩ = some (.bool false) := cc 15 _ rfl
  have cc_16 : w4.cell? ⟨w.heap.size, 16, none⟩ = some (.int .i64 m.s) := cc 16 _ rfl
  have cc_17 : w4.cell? ⟨w.heap.size, 17, none⟩ = some (.int .i64 m.k) := cc 17 _ rfl
  have cc_18 : w4.cell? ⟨w.heap.size, 18, none⟩ = some (.int .i64 m.a) := cc 18 _ rfl
  have cc_19 : w4.cell? ⟨w.heap.size, 19, none⟩ = some (.func (.func 30) #[] #[]) := cc 19 _ rfl
  have cc13 : CellsAt w4 (w.heap.size) [.int .i64 L.c.t, .int .i64 L.c.l, .int .i64 L.c.k, .int .i64 L.c.s, .int .i64 L.c.m, .int .i64 L.clock, .int .i64 L.stamps, .int .i64 L.log, .int .i64 L.fin, .int .i64 L.thread, .int .i64 L.lock, .int .i64 L.loc, .int .i64 L.size] := cellsAt_take 13 cc
  go_wp2_with (first | ((with_reducible refine wp_ld_lay ?hw13_147 ?x13_147 ?ho13_147 (w.heap.size) 0 ?hx13_147 [.int .i64 L.c.t, .int .i64 L.c.l, .int .i64 L.c.k, .int .i64 L.c.s, .int .i64 L.c.m, .int .i64 L.clock, .int .i64 L.stamps, .int .i64 L.log, .int .i64 L.fin, .int .i64 L.thread, .int .i64 L.lock, .int .i64 L.loc, .int .i64 L.size] rfl (rangeAt_of cc13) ?hh13_147); (case ho13_147 => exact rfl); (case hx13_147 => exact rfl); (case hw13_147 => exact rfl)) | ((with_reducible refine wp_ld_case ?hw20_148 ?x20_148 ?ho20_148 (w.heap.size) 0 ?hx20_148 [.int .i64 L.c.t, .int .i64 L.c.l, .int .i64 L.c.k, .int .i64 L.c.s, .int .i64 L.c.m, .int .i64 L.clock, .int .i64 L.stamps, .int .i64 L.log, .int .i64 L.fin, .int .i64 L.thread, .int .i64 L.lock, .int .i64 L.loc, .int .i64 L.size, .int .i64 me, .int .i64 other, .bool false, .int .i64 m.s, .int .i64 m.k, .int .i64 m.a, .func (.func 30) #[] #[]] rfl (rangeAt_of cc) ?hh20_148); (case ho20_148 => exact rfl); (case hx20_148 => exact rfl); (case hw20_148 => exact rfl)))
  ((with_reducible refine (load_some _ g _ _ _ h4).mono ?_); rintro e w5 ⟨rfl, h5, hb⟩)
  clear cc_4 cc_13 cc_14 cc_15 cc_16 cc_17 cc_18 cc_19
  clear cc13
  have hsz := hb.size
  (try simp at hsz)
  replace cc := cellsAt_gb cc hb (by omega)
  replace oz := OutZ.gb oz hb (by omega)
  replace xq0 : w5.cell? ⟨w3.heap.size, 0, none⟩ = some (.int .i64 0) := gbc hb xq0 (by omega)
  replace xq1 : w5.cell? ⟨w3.heap.size, 1, none⟩ = some (.int .i64 0) := gbc hb xq1 (by omega)
  replace xq2 : w5.cell? ⟨w3.heap.size, 2, none⟩ = some (.int .i64 (s.1 / 4)) := gbc hb xq2 (by omega)
  replace xf : ∀ o, w5.frozen? ⟨w3.heap.size, o, none⟩ = false := fun o => gbf hb (by first | omega | (simp; done) | (simp; omega)) (by omega) (xf o)
  replace ccz : w.heap.size < w5.heap.size := by omega
  replace ozz : w.heap.size + 1 < w5.heap.size := by omega
  replace xz : w3.heap.size < w5.heap.size := by omega
  replace G := gb_trans G hb
  clear hb hsz
  replace hS0 := G.size
  have cc_4 : w5.cell? ⟨w.heap.size, 4, none⟩ = some (.int .i64 L.c.m) := cc 4 _ rfl
  have cc_13 : w5.cell? ⟨w.heap.size, 13, none⟩ = some (.int .i64 me) := cc 13 _ rfl
  have cc_14 : w5.cell? ⟨w.heap.size, 14, none⟩ = some (.int .i64 other) := cc 14 _ rfl
  have cc_15 : w5.cell? ⟨w.heap.size, 15, none⟩ = some (.bool false) := cc 15 _ rfl
  have cc_16 : w5.cell? ⟨w.heap.size, 16, none⟩ = some (.int .i64 m.s) := cc 16 _ rfl
  have cc_17 : w5.cell? ⟨w.heap.size, 17, none⟩ = some (.int .i64 m.k) := cc 17 _ rfl
  have cc_18 : w5.cell? ⟨w.heap.size, 18, none⟩ = some (.int .i64 m.a) := cc 18 _ rfl
  have cc_19 : w5.cell? ⟨w.heap.size, 19, none⟩ = some (.func (.func 30) #[] #[]) := cc 19 _ rfl
  have cc13 : CellsAt w5 (w.heap.size) [.int .i64 L.c.t, .int .i64 L.c.l, .int .i64 L.c.k, .int .i64 L.c.s, .int .i64 L.c.m, .int .i64 L.clock, .int .i64 L.stamps, .int .i64 L.log, .int .i64 L.fin, .int .i64 L.thread, .int .i64 L.lock, .int .i64 L.loc, .int .i64 L.size] := cellsAt_take 13 cc
  go_wp2_with (first | ((with_reducible refine wp_ld_lay ?hw13_149 ?x13_149 ?ho13_149 (w.heap.size) 0 ?hx13_149 [.int .i64 L.c.t, .int .i64 L.c.l, .int .i64 L.c.k, .int .i64 L.c.s, .int .i64 L.c.m, .int .i64 L.clock, .int .i64 L.stamps, .int .i64 L.log, .int .i64 L.fin, .int .i64 L.thread, .int .i64 L.lock, .int .i64 L.loc, .int .i64 L.size] rfl (rangeAt_of (cellsAt_set cc13 (by omega) _)) ?hh13_149); (case ho13_149 => exact rfl); (case hx13_149 => exact rfl); (case hw13_149 => exact rfl)) | ((with_reducible refine wp_ld_case ?hw20_150 ?x20_150 ?ho20_150 (w.heap.size) 0 ?hx20_150 [.int .i64 L.c.t, .int .i64 L.c.l, .int .i64 L.c.k, .int .i64 L.c.s, .int .i64 L.c.m, .int .i64 L.clock, .int .i64 L.stamps, .int .i64 L.log, .int .i64 L.fin, .int .i64 L.thread, .int .i64 L.lock, .int .i64 L.loc, .int .i64 L.size, .int .i64 me, .int .i64 other, .bool false, .int .i64 m.s, .int .i64 m.k, .int .i64 m.a, .func (.func 30) #[] #[]] rfl (rangeAt_of (cellsAt_set cc (by omega) _)) ?hh20_150); (case ho20_150 => exact rfl); (case hx20_150 => exact rfl); (case hw20_150 => exact rfl)))
  ((with_reducible refine (HK.out _).mono ?_); rintro e w6 ⟨rfl, hb⟩)
  clear cc_4 cc_13 cc_14 cc_15 cc_16 cc_17 cc_18 cc_19
  clear cc13
  have hsz := hb.size
  (try simp at hsz)
  replace cc := cellsAt_keep (cellsAt_set cc (by omega) _) hb
  replace oz := OutZ.below (OutZ.set oz (by omega) _) hb
  replace xq0 : w6.cell? ⟨w3.heap.size, 0, none⟩ = some (.int .i64 t.1) := cel_below hb (World.cell?_setCell_same _ _ _ xq0)
  replace xq1 : w6.cell? ⟨w3.heap.size, 1, none⟩ = some (.int .i64 0) := cel_below hb (keepA_ xq1 (by omega))
  replace xq2 : w6.cell? ⟨w3.heap.size, 2, none⟩ = some (.int .i64 (s.1 / 4)) := cel_below hb (keepA_ xq2 (by omega))
  replace xf : ∀ o, w6.frozen? ⟨w3.heap.size, o, none⟩ = false := fun o => fro_below hb (by first | omega | (simp; done) | (simp; omega)) ((World.frozen?_setCell _ _ _ _).trans (xf o))
  replace ccz : w.heap.size < w6.heap.size := by omega
  replace ozz : w.heap.size + 1 < w6.heap.size := by omega
  replace xz : w3.heap.size < w6.heap.size := by omega
  have h6 := runAt_keep (runAt_set h5 (by omega) _) hb
  replace G := gb_trans (gb_set G (Or.inr (by first | exact Nat.le_refl _ | (dsimp only; omega))) _) (gb_of_below (some g) hb)
  clear hb hsz
  replace hS0 := G.size
  have cc_4 : w6.cell? ⟨w.heap.size, 4, none⟩ = some (.int .i64 L.c.m) := cc 4 _ rfl
  have cc_13 : w6.cell? ⟨w.heap.size, 13, none⟩ = some (.int .i64 me) := cc 13 _ rfl
  have cc_14 : w6.cell? ⟨w.heap.size, 14, none⟩ = some (.int .i64 other) := cc 14 _ rfl
  have cc_15 : w6.cell? ⟨w.heap.size, 15, none⟩ = some (.bool false) := cc 15 _ rfl
  have cc_16 : w6.cell? ⟨w.heap.size, 16, none⟩ = some (.int .i64 m.s) := cc 16 _ rfl
  have cc_17 : w6.cell? ⟨w.heap.size, 17, none⟩ = some (.int .i64 m.k) := cc 17 _ rfl
  have cc_18 : w6.cell? ⟨w.heap.size, 18, none⟩ = some (.int .i64 m.a) := cc 18 _ rfl
  have cc_19 : w6.cell? ⟨w.heap.size, 19, none⟩ = some (.func (.func 30) #[] #[]) := cc 19 _ rfl
  have cc13 : CellsAt w6 (w.heap.size) [.int .i64 L.c.t, .int .i64 L.c.l, .int .i64 L.c.k, .int .i64 L.c.s, .int .i64 L.c.m, .int .i64 L.clock, .int .i64 L.stamps, .int .i64 L.log, .int .i64 L.fin, .int .i64 L.thread, .int .i64 L.lock, .int .i64 L.loc, .int .i64 L.size] := cellsAt_take 13 cc
  go_wp2_with (first | ((with_reducible refine wp_ld_lay ?hw13_151 ?x13_151 ?ho13_151 (w.heap.size) 0 ?hx13_151 [.int .i64 L.c.t, .int .i64 L.c.l, .int .i64 L.c.k, .int .i64 L.c.s, .int .i64 L.c.m, .int .i64 L.clock, .int .i64 L.stamps, .int .i64 L.log, .int .i64 L.fin, .int .i64 L.thread, .int .i64 L.lock, .int .i64 L.loc, .int .i64 L.size] rfl (rangeAt_of cc13) ?hh13_151); (case ho13_151 => exact rfl); (case hx13_151 => exact rfl); (case hw13_151 => exact rfl)) | ((with_reducible refine wp_ld_case ?hw20_152 ?x20_152 ?ho20_152 (w.heap.size) 0 ?hx20_152 [.int .i64 L.c.t, .int .i64 L.c.l, .int .i64 L.c.k, .int .i64 L.c.s, .int .i64 L.c.m, .int .i64 L.clock, .int .i64 L.stamps, .int .i64 L.log, .int .i64 L.fin, .int .i64 L.thread, .int .i64 L.lock, .int .i64 L.loc, .int .i64 L.size, .int .i64 me, .int .i64 other, .bool false, .int .i64 m.s, .int .i64 m.k, .int .i64 m.a, .func (.func 30) #[] #[]] rfl (rangeAt_of cc) ?hh20_152); (case ho20_152 => exact rfl); (case hx20_152 => exact rfl); (case hw20_152 => exact rfl)))
  ((with_reducible refine (load_some _ g _ _ _ h6).mono ?_); rintro e w7 ⟨rfl, h7, hb⟩)
  clear cc_4 cc_13 cc_14 cc_15 cc_16 cc_17 cc_18 cc_19
  clear cc13
  have hsz := hb.size
  (try simp at hsz)
  replace cc := cellsAt_gb cc hb (by omega)
  replace oz := OutZ.gb oz hb (by omega)
  replace xq0 : w7.cell? ⟨w3.heap.size, 0, none⟩ = some (.int .i64 t.1) := gbc hb xq0 (by omega)
  replace xq1 : w7.cell? ⟨w3.heap.size, 1, none⟩ = some (.int .i64 0) := gbc hb xq1 (by omega)
  replace xq2 : w7.cell? ⟨w3.heap.size, 2, none⟩ = some (.int .i64 (s.1 / 4)) := gbc hb xq2 (by omega)
  replace xf : ∀ o, w7.frozen? ⟨w3.heap.size, o, none⟩ = false := fun o => gbf hb (by first | omega | (simp; done) | (simp; omega)) (by omega) (xf o)
  replace ccz : w.heap.size < w7.heap.size := by omega
  replace ozz : w.heap.size + 1 < w7.heap.size := by omega
  replace xz : w3.heap.size < w7.heap.size := by omega
  replace G := gb_trans G hb
  clear hb hsz
  replace hS0 := G.size
  have cc_4 : w7.cell? ⟨w.heap.size, 4, none⟩ = some (.int .i64 L.c.m) := cc 4 _ rfl
  have cc_13 : w7.cell? ⟨w.heap.size, 13, none⟩ = some (.int .i64 me) := cc 13 _ rfl
  have cc_14 : w7.cell? ⟨w.heap.size, 14, none⟩ = some (.int .i64 other) := cc 14 _ rfl
  have cc_15 : w7.cell? ⟨w.heap.size, 15, none⟩ = some (.bool false) := cc 15 _ rfl
  have cc_16 : w7.cell? ⟨w.heap.size, 16, none⟩ = some (.int .i64 m.s) := cc 16 _ rfl
  have cc_17 : w7.cell? ⟨w.heap.size, 17, none⟩ = some (.int .i64 m.k) := cc 17 _ rfl
  have cc_18 : w7.cell? ⟨w.heap.size, 18, none⟩ = some (.int .i64 m.a) := cc 18 _ rfl
  have cc_19 : w7.cell? ⟨w.heap.size, 19, none⟩ = some (.func (.func 30) #[] #[]) := cc 19 _ rfl
  have cc13 : CellsAt w7 (w.heap.size) [.int .i64 L.c.t, .int .i64 L.c.l, .int .i64 L.c.k, .int .i64 L.c.s, .int .i64 L.c.m, .int .i64 L.clock, .int .i64 L.stamps, .int .i64 L.log, .int .i64 L.fin, .int .i64 L.thread, .int .i64 L.lock, .int .i64 L.loc, .int .i64 L.size] := cellsAt_take 13 cc
  go_wp2_with (first | ((with_reducible refine wp_ld_lay ?hw13_153 ?x13_153 ?ho13_153 (w.heap.size) 0 ?hx13_153 [.int .i64 L.c.t, .int .i64 L.c.l, .int .i64 L.c.k, .int .i64 L.c.s, .int .i64 L.c.m, .int .i64 L.clock, .int .i64 L.stamps, .int .i64 L.log, .int .i64 L.fin, .int .i64 L.thread, .int .i64 L.lock, .int .i64 L.loc, .int .i64 L.size] rfl (rangeAt_of (cellsAt_set cc13 (by omega) _)) ?hh13_153); (case ho13_153 => exact rfl); (case hx13_153 => exact rfl); (case hw13_153 => exact rfl)) | ((with_reducible refine wp_ld_case ?hw20_154 ?x20_154 ?ho20_154 (w.heap.size) 0 ?hx20_154 [.int .i64 L.c.t, .int .i64 L.c.l, .int .i64 L.c.k, .int .i64 L.c.s, .int .i64 L.c.m, .int .i64 L.clock, .int .i64 L.stamps, .int .i64 L.log, .int .i64 L.fin, .int .i64 L.thread, .int .i64 L.lock, .int .i64 L.loc, .int .i64 L.size, .int .i64 me, .int .i64 other, .bool false, .int .i64 m.s, .int .i64 m.k, .int .i64 m.a, .func (.func 30) #[] #[]] rfl (rangeAt_of (cellsAt_set cc (by omega) _)) ?hh20_154); (case ho20_154 => exact rfl); (case hx20_154 => exact rfl); (case hw20_154 => exact rfl)))
  ((with_reducible refine (HC.out _).mono ?_); rintro e w8 ⟨rfl, hb⟩)
  clear cc_4 cc_13 cc_14 cc_15 cc_16 cc_17 cc_18 cc_19
  clear cc13
  have hsz := hb.size
  (try simp at hsz)
  replace cc := cellsAt_keep (cellsAt_set cc (by omega) _) hb
  replace oz := OutZ.below (OutZ.set oz (by omega) _) hb
  replace xq0 : w8.cell? ⟨w3.heap.size, 0, none⟩ = some (.int .i64 t.1) := cel_below hb (keepA_ xq0 (by omega))
  replace xq1 : w8.cell? ⟨w3.heap.size, 1, none⟩ = some (.int .i64 k.1) := cel_below hb (World.cell?_setCell_same _ _ _ xq1)
  replace xq2 : w8.cell? ⟨w3.heap.size, 2, none⟩ = some (.int .i64 (s.1 / 4)) := cel_below hb (keepA_ xq2 (by omega))
  replace xf : ∀ o, w8.frozen? ⟨w3.heap.size, o, none⟩ = false := fun o => fro_below hb (by first | omega | (simp; done) | (simp; omega)) ((World.frozen?_setCell _ _ _ _).trans (xf o))
  replace ccz : w.heap.size < w8.heap.size := by omega
  replace ozz : w.heap.size + 1 < w8.heap.size := by omega
  replace xz : w3.heap.size < w8.heap.size := by omega
  have h8 := runAt_keep (runAt_set h7 (by omega) _) hb
  replace G := gb_trans (gb_set G (Or.inr (by first | exact Nat.le_refl _ | (dsimp only; omega))) _) (gb_of_below (some g) hb)
  clear hb hsz
  replace hS0 := G.size
  have cc_4 : w8.cell? ⟨w.heap.size, 4, none⟩ = some (.int .i64 L.c.m) := cc 4 _ rfl
  have cc_13 : w8.cell? ⟨w.heap.size, 13, none⟩ = some (.int .i64 me) := cc 13 _ rfl
  have cc_14 : w8.cell? ⟨w.heap.size, 14, none⟩ = some (.int .i64 other) := cc 14 _ rfl
  have cc_15 : w8.cell? ⟨w.heap.size, 15, none⟩ = some (.bool false) := cc 15 _ rfl
  have cc_16 : w8.cell? ⟨w.heap.size, 16, none⟩ = some (.int .i64 m.s) := cc 16 _ rfl
  have cc_17 : w8.cell? ⟨w.heap.size, 17, none⟩ = some (.int .i64 m.k) := cc 17 _ rfl
  have cc_18 : w8.cell? ⟨w.heap.size, 18, none⟩ = some (.int .i64 m.a) := cc 18 _ rfl
  have cc_19 : w8.cell? ⟨w.heap.size, 19, none⟩ = some (.func (.func 30) #[] #[]) := cc 19 _ rfl
  have cc13 : CellsAt w8 (w.heap.size) [.int .i64 L.c.t, .int .i64 L.c.l, .int .i64 L.c.k, .int .i64 L.c.s, .int .i64 L.c.m, .int .i64 L.clock, .int .i64 L.stamps, .int .i64 L.log, .int .i64 L.fin, .int .i64 L.thread, .int .i64 L.lock, .int .i64 L.loc, .int .i64 L.size] := cellsAt_take 13 cc
  go_wp2_with (first | ((with_reducible refine wp_ld_lay ?hw13_155 ?x13_155 ?ho13_155 (w.heap.size) 0 ?hx13_155 [.int .i64 L.c.t, .int .i64 L.c.l, .int .i64 L.c.k, .int .i64 L.c.s, .int .i64 L.c.m, .int .i64 L.clock, .int .i64 L.stamps, .int .i64 L.log, .int .i64 L.fin, .int .i64 L.thread, .int .i64 L.lock, .int .i64 L.loc, .int .i64 L.size] rfl (rangeAt_of cc13) ?hh13_155); (case ho13_155 => exact rfl); (case hx13_155 => exact rfl); (case hw13_155 => exact rfl)) | ((with_reducible refine wp_ld_case ?hw20_156 ?x20_156 ?ho20_156 (w.heap.size) 0 ?hx20_156 [.int .i64 L.c.t, .int .i64 L.c.l, .int .i64 L.c.k, .int .i64 L.c.s, .int .i64 L.c.m, .int .i64 L.clock, .int .i64 L.stamps, .int .i64 L.log, .int .i64 L.fin, .int .i64 L.thread, .int .i64 L.lock, .int .i64 L.loc, .int .i64 L.size, .int .i64 me, .int .i64 other, .bool false, .int .i64 m.s, .int .i64 m.k, .int .i64 m.a, .func (.func 30) #[] #[]] rfl (rangeAt_of cc) ?hh20_156); (case ho20_156 => exact rfl); (case hx20_156 => exact rfl); (case hw20_156 => exact rfl)))
  ((with_reducible refine (HD.out _ h8).mono ?_); rintro e w9 ⟨rfl, hb⟩)
  exact ⟨rfl, rfl, gb_trans G hb⟩

end Go.Proofs.Ytaclnaedinfhmaa
