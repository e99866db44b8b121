
/-
  Layer 17: the accesses by which a transaction resolves a conflict, as their tree.
-/
import Derived.Test.YtaclnaedinfhmaaRows
import Derived.Test.YtaclnaedinfhmaaBase
import Derived.Test.YtaclnaedinfhmaaAux
import Derived.Test.YtaclnaedinfhmaaWord2
import Derived.Test.YtaclnaedinfhmaaLayA
import Derived.Test.YtaclnaedinfhmaaStepC
import Derived.Test.YtaclnaedinfhmaaStepD
import Derived.Test.YtaclnaedinfhmaaMgrA
import Derived.WalkKit
import Derived.WalkLawsBesides
import Derived.Lib.Hide
namespace Go.Proofs.Ytaclnaedinfhmaa
set_option linter.unusedVariables false
set_option linter.unusedSimpArgs false
set_option maxRecDepth 100000
set_option maxHeartbeats 4000000
open Go.ChangeShapes Go.WideShapes Go.ChangeAt Go.RowKit

def doomT (L : Ly) (other s : Int) : Tree :=
  if s % 4 = 1 then .ask ⟨3, atStatus L other, s, wrap64 (4 * (s / 4) + 3)⟩ fun u => if u.2 = true then .ret { val := 2 } else .ret { val := 0 }
  else if s % 4 = 3 then .ret { val := 2 } else .ret { val := 3 }
def asksT (L : Ly) (other : Int) (m : Ct) : Tree :=
  .ask ⟨1, atStatus L other, 0, 0⟩ fun s => if s.1 % 4 = 0 then .ret { val := 0 } else .ask ⟨1, atStamp L other, 0, 0⟩ fun t => .ask ⟨1, atKarma L other, 0, 0⟩ fun k =>
    if chooseD L.c.m m ⟨t.1, k.1, s.1 / 4⟩ = 1 then .ret { val := 1 } else doomT L other s.1
def resolveT (L : Ly) (me other : Int) (own : Bool) (m : Ct) : Tree :=
  if own = true then .ask ⟨1, atStatus L me, 0, 0⟩ fun r => if r.1 % 4 = 3 then .ret { val := 1, lost := true } else asksT L other m
  else asksT L other m
def caseV (L : Ly) (me other : Int) (own : Bool) (m : Ct) : Value := .agg #[.int .i64 L.c.t, .int .i64 L.c.l, .int .i64 L.c.k, .int .i64 L.c.s, .int .i64 L.c.m, .int .i64 L.clock, .int .i64 L.stamps, .int .i64 L.log, .int .i64 L.fin, .int .i64 L.thread, .int .i64 L.lock, .int .i64 L.loc, .int .i64 L.size, .int .i64 me, .int .i64 other, .bool own, .int .i64 m.s, .int .i64 m.k, .int .i64 m.a, .func (.func 30) #[] #[]]

theorem doom_1 (w : World) (g : Nat) (L : Ly) (hok : L.ok) (me other : Int) (own : Bool) (m : Ct) (s : Int) (h0 : RunAt w g []) (hs : I64 s) (hk : s % 4 = 1) :
    Calls Try.prog 91 #[caseV L me other own m, .pointer (some ⟨g, 0, none⟩), .int .i64 s] w fun e w' => e = .panicked [{ v := .iface 124 (Ask.v ⟨3, atStatus L other, s, wrap64 (4 * (s / 4) + 3)⟩), recovered := false }] ∧ w.grownBy w' (some g) := by
  unfold caseV
  have HS : Hid (∀ w, Calls Try.prog 38 #[L.v, .int .i64 other] w fun e w' => e = .returned (.int .i64 (atStatus L other)) ∧ Below w.heap.size w w') := Lib.hid (fun w => status_any L other w hok)
  unfold Ly.v at HS
  have hk1 : (s % 4 == 1) = true := by simp; omega
  have hg0 := runAt_lt h0
  have G : w.grownBy w (some g) := gb_refl _ _
  have hS0 : w.heap.size + 0 ≤ w.heap.size := Nat.le_refl _
  go_enter Try.func91, Try.ntmps91
  go_wp2_with fail
  obtain ⟨w1, hwr⟩ : ∃ W, W = ((w.alloc (.cells #[.int .i64 L.c.t, .int .i64 L.c.l, .int .i64 L.c.k, .int .i64 L.c.s, .int .i64 L.c.m, .int .i64 L.clock, .int .i64 L.stamps, .int .i64 L.log, .int .i64 L.fin, .int .i64 L.thread, .int .i64 L.lock, .int .i64 L.loc, .int .i64 L.size, .int .i64 me, .int .i64 other, .bool own, .int .i64 m.s, .int .i64 m.k, .int .i64 m.a, .func (.func 30) #[] #[]] 119)).alloc (.cells #[.int .i64 0, .int .i64 0, .int .i64 0, .int .i64 0, .bool false, .bool false, .int .i64 0] 35)) := ⟨_, rfl⟩
  rw [← hwr]
  have hb : Below w.heap.size w w1 := by rw [hwr]; exact (Below.alloc (Below.alloc (Below.refl _ _) (by first | exact Nat.le_refl _ | (simp; omega) | simp) _) (by first | exact Nat.le_refl _ | (simp; omega) | simp) _)
  have cc : CellsAt w1 (w.heap.size) [.int .i64 L.c.t, .int .i64 L.c.l, .int .i64 L.c.k, .int .i64 L.c.s, .int .i64 L.c.m, .int .i64 L.clock, .int .i64 L.stamps, .int .i64 L.log, .int .i64 L.fin, .int .i64 L.thread, .int .i64 L.lock, .int .i64 L.loc, .int .i64 L.size, .int .i64 me, .int .i64 other, .bool own, .int .i64 m.s, .int .i64 m.k, .int .i64 m.a, .func (.func 30) #[] #[]] := by rw [hwr]; exact (cellsAt_alloc (cellsAt_new' w _ _ (w.heap.size) (by simp)) _)
  have ccz : w.heap.size < w1.heap.size := World.block_lt_of_cell? _ _ (cc 0 _ rfl)
  have oz : OutZ w1 (w.heap.size + 1) := by rw [hwr]; exact (OutZ.new' (w.alloc (.cells #[.int .i64 L.c.t, .int .i64 L.c.l, .int .i64 L.c.k, .int .i64 L.c.s, .int .i64 L.c.m, .int .i64 L.clock, .int .i64 L.stamps, .int .i64 L.log, .int .i64 L.fin, .int .i64 L.thread, .int .i64 L.lock, .int .i64 L.loc, .int .i64 L.size, .int .i64 me, .int .i64 other, .bool own, .int .i64 m.s, .int .i64 m.k, .int .i64 m.a, .func (.func 30) #[] #[]] 119)) _ (w.heap.size + 1) (by simp))
  have ozz : w.heap.size + 1 < w1.heap.size := OutZ.lt oz
  have h1 := runAt_keep h0 hb
  replace G := gb_trans G (gb_of_below (some g) hb)
  clear hb hwr
  replace hS0 := G.size
  have cc_4 : w1.cell? ⟨w.heap.size, 4, none⟩ = some (.int .i64 L.c.m) := cc 4 _ rfl
  have cc_13 : w1.cell? ⟨w.heap.size, 13, none⟩ = some (.int .i64 me) := cc 13 _ rfl
  have cc_14 : w1.cell? ⟨w.heap.size, 14, none⟩ = some (.int .i64 other) := cc 14 _ rfl
  have cc_15 : w1.cell? ⟨w.heap.size, 15, none⟩ = some (.bool own) := cc 15 _ rfl
  have cc_16 : w1.cell? ⟨w.heap.size, 16, none⟩ = some (.int .i64 m.s) := cc 16 _ rfl
  have cc_17 : w1.cell? ⟨w.heap.size, 17, none⟩ = some (.int .i64 m.k) := cc 17 _ rfl
  have cc_18 : w1.cell? ⟨w.heap.size, 18, none⟩ = some (.int .i64 m.a) := cc 18 _ rfl
  have cc_19 : w1.cell? ⟨w.heap.size, 19, none⟩ = some (.func (.func 30) #[] #[]) := cc 19 _ rfl
  have cc13 : CellsAt w1 (w.heap.size) [.int .i64 L.c.t, .int .i64 L.c.l, .int .i64 L.c.k, .int .i64 L.c.s, .int .i64 L.c.m, .int .i64 L.clock, .int .i64 L.stamps, .int .i64 L.log, .int .i64 L.fin, .int .i64 L.thread, .int .i64 L.lock, .int .i64 L.loc, .int .i64 L.size] := cellsAt_take 13 cc
  go_wp2_with (first | ((with_reducible refine wp_ld_lay ?hw13_1 ?x13_1 ?ho13_1 (w.heap.size) 0 ?hx13_1 [.int .i64 L.c.t, .int .i64 L.c.l, .int .i64 L.c.k, .int .i64 L.c.s, .int .i64 L.c.m, .int .i64 L.clock, .int .i64 L.stamps, .int .i64 L.log, .int .i64 L.fin, .int .i64 L.thread, .int .i64 L.lock, .int .i64 L.loc, .int .i64 L.size] rfl (rangeAt_of cc13) ?hh13_1); (case ho13_1 => exact rfl); (case hx13_1 => exact rfl); (case hw13_1 => exact rfl)) | ((with_reducible refine wp_ld_case ?hw20_2 ?x20_2 ?ho20_2 (w.heap.size) 0 ?hx20_2 [.int .i64 L.c.t, .int .i64 L.c.l, .int .i64 L.c.k, .int .i64 L.c.s, .int .i64 L.c.m, .int .i64 L.clock, .int .i64 L.stamps, .int .i64 L.log, .int .i64 L.fin, .int .i64 L.thread, .int .i64 L.lock, .int .i64 L.loc, .int .i64 L.size, .int .i64 me, .int .i64 other, .bool own, .int .i64 m.s, .int .i64 m.k, .int .i64 m.a, .func (.func 30) #[] #[]] rfl (rangeAt_of cc) ?hh20_2); (case ho20_2 => exact rfl); (case hx20_2 => exact rfl); (case hw20_2 => exact rfl)))
  ((with_reducible refine (kind_any _ _).mono ?_); rintro e w' ⟨rfl, rfl⟩)
  clear cc13
  have cc13 : CellsAt w1 (w.heap.size) [.int .i64 L.c.t, .int .i64 L.c.l, .int .i64 L.c.k, .int .i64 L.c.s, .int .i64 L.c.m, .int .i64 L.clock, .int .i64 L.stamps, .int .i64 L.log, .int .i64 L.fin, .int .i64 L.thread, .int .i64 L.lock, .int .i64 L.loc, .int .i64 L.size] := cellsAt_take 13 cc
  go_wp2_with (first | ((with_reducible refine wp_ld_lay ?hw13_3 ?x13_3 ?ho13_3 (w.heap.size) 0 ?hx13_3 [.int .i64 L.c.t, .int .i64 L.c.l, .int .i64 L.c.k, .int .i64 L.c.s, .int .i64 L.c.m, .int .i64 L.clock, .int .i64 L.stamps, .int .i64 L.log, .int .i64 L.fin, .int .i64 L.thread, .int .i64 L.lock, .int .i64 L.loc, .int .i64 L.size] rfl (rangeAt_of cc13) ?hh13_3); (case ho13_3 => exact rfl); (case hx13_3 => exact rfl); (case hw13_3 => exact rfl)) | ((with_reducible refine wp_ld_case ?hw20_4 ?x20_4 ?ho20_4 (w.heap.size) 0 ?hx20_4 [.int .i64 L.c.t, .int .i64 L.c.l, .int .i64 L.c.k, .int .i64 L.c.s, .int .i64 L.c.m, .int .i64 L.clock, .int .i64 L.stamps, .int .i64 L.log, .int .i64 L.fin, .int .i64 L.thread, .int .i64 L.lock, .int .i64 L.loc, .int .i64 L.size, .int .i64 me, .int .i64 other, .bool own, .int .i64 m.s, .int .i64 m.k, .int .i64 m.a, .func (.func 30) #[] #[]] rfl (rangeAt_of cc) ?hh20_4); (case ho20_4 => exact rfl); (case hx20_4 => exact rfl); (case hw20_4 => exact rfl)))
  ((with_reducible refine (try_any _ hs _).mono ?_); rintro e w' ⟨rfl, rfl⟩)
  clear cc13
  have cc13 : CellsAt w1 (w.heap.size) [.int .i64 L.c.t, .int .i64 L.c.l, .int .i64 L.c.k, .int .i64 L.c.s, .int .i64 L.c.m, .int .i64 L.clock, .int .i64 L.stamps, .int .i64 L.log, .int .i64 L.fin, .int .i64 L.thread, .int .i64 L.lock, .int .i64 L.loc, .int .i64 L.size] := cellsAt_take 13 cc
  go_wp2_with (first | ((with_reducible refine wp_ld_lay ?hw13_5 ?x13_5 ?ho13_5 (w.heap.size) 0 ?hx13_5 [.int .i64 L.c.t, .int .i64 L.c.l, .int .i64 L.c.k, .int .i64 L.c.s, .int .i64 L.c.m, .int .i64 L.clock, .int .i64 L.stamps, .int .i64 L.log, .int .i64 L.fin, .int .i64 L.thread, .int .i64 L.lock, .int .i64 L.loc, .int .i64 L.size] rfl (rangeAt_of cc13) ?hh13_5); (case ho13_5 => exact rfl); (case hx13_5 => exact rfl); (case hw13_5 => exact rfl)) | ((with_reducible refine wp_ld_case ?hw20_6 ?x20_6 ?ho20_6 (w.heap.size) 0 ?hx20_6 [.int .i64 L.c.t, .int .i64 L.c.l, .int .i64 L.c.k, .int .i64 L.c.s, .int .i64 L.c.m, .int .i64 L.clock, .int .i64 L.stamps, .int .i64 L.log, .int .i64 L.fin, .int .i64 L.thread, .int .i64 L.lock, .int .i64 L.loc, .int .i64 L.size, .int .i64 me, .int .i64 other, .bool own, .int .i64 m.s, .int .i64 m.k, .int .i64 m.a, .func (.func 30) #[] #[]] rfl (rangeAt_of cc) ?hh20_6); (case ho20_6 => exact rfl); (case hx20_6 => exact rfl); (case hw20_6 => exact rfl)))
  ((with_reducible refine (wstatus_any _ _ _).mono ?_); rintro e w' ⟨rfl, rfl⟩)
  clear cc13
  have cc13 : CellsAt w1 (w.heap.size) [.int .i64 L.c.t, .int .i64 L.c.l, .int .i64 L.c.k, .int .i64 L.c.s, .int .i64 L.c.m, .int .i64 L.clock, .int .i64 L.stamps, .int .i64 L.log, .int .i64 L.fin, .int .i64 L.thread, .int .i64 L.lock, .int .i64 L.loc, .int .i64 L.size] := cellsAt_take 13 cc
  go_wp2_with (first | ((with_reducible refine wp_ld_lay ?hw13_7 ?x13_7 ?ho13_7 (w.heap.size) 0 ?hx13_7 [.int .i64 L.c.t, .int .i64 L.c.l, .int .i64 L.c.k, .int .i64 L.c.s, .int .i64 L.c.m, .int .i64 L.clock, .int .i64 L.stamps, .int .i64 L.log, .int .i64 L.fin, .int .i64 L.thread, .int .i64 L.lock, .int .i64 L.loc, .int .i64 L.size] rfl (rangeAt_of cc13) ?hh13_7); (case ho13_7 => exact rfl); (case hx13_7 => exact rfl); (case hw13_7 => exact rfl)) | ((with_reducible refine wp_ld_case ?hw20_8 ?x20_8 ?ho20_8 (w.heap.size) 0 ?hx20_8 [.int .i64 L.c.t, .int .i64 L.c.l, .int .i64 L.c.k, .int .i64 L.c.s, .int .i64 L.c.m, .int .i64 L.clock, .int .i64 L.stamps, .int .i64 L.log, .int .i64 L.fin, .int .i64 L.thread, .int .i64 L.lock, .int .i64 L.loc, .int .i64 L.size, .int .i64 me, .int .i64 other, .bool own, .int .i64 m.s, .int .i64 m.k, .int .i64 m.a, .func (.func 30) #[] #[]] rfl (rangeAt_of cc) ?hh20_8); (case ho20_8 => exact rfl); (case hx20_8 => exact rfl); (case hw20_8 => exact rfl)))
  ((with_reducible refine (HS.out _).mono ?_); rintro e w2 ⟨rfl, hb⟩)
  clear cc_4 cc_13 cc_14 cc_15 cc_16 cc_17 cc_18 cc_19
  clear cc13
  have hsz := hb.size
  (try simp at hsz)
  replace cc := cellsAt_keep cc hb
  replace oz := OutZ.below oz hb
  replace ccz : w.heap.size < w2.heap.size := by omega
  replace ozz : w.heap.size + 1 < w2.heap.size := by omega
  have h2 := runAt_keep h1 hb
  replace G := gb_trans G (gb_of_below (some g) hb)
  clear hb hsz
  replace hS0 := G.size
  have cc_4 : w2.cell? ⟨w.heap.size, 4, none⟩ = some (.int .i64 L.c.m) := cc 4 _ rfl
  have cc_13 : w2.cell? ⟨w.heap.size, 13, none⟩ = some (.int .i64 me) := cc 13 _ rfl
  have cc_14 : w2.cell? ⟨w.heap.size, 14, none⟩ = some (.int .i64 other) := cc 14 _ rfl
  have cc_15 : w2.cell? ⟨w.heap.size, 15, none⟩ = some (.bool own) := cc 15 _ rfl
  have cc_16 : w2.cell? ⟨w.heap.size, 16, none⟩ = some (.int .i64 m.s) := cc 16 _ rfl
  have cc_17 : w2.cell? ⟨w.heap.size, 17, none⟩ = some (.int .i64 m.k) := cc 17 _ rfl
  have cc_18 : w2.cell? ⟨w.heap.size, 18, none⟩ = some (.int .i64 m.a) := cc 18 _ rfl
  have cc_19 : w2.cell? ⟨w.heap.size, 19, none⟩ = some (.func (.func 30) #[] #[]) := cc 19 _ rfl
  have cc13 : CellsAt w2 (w.heap.size) [.int .i64 L.c.t, .int .i64 L.c.l, .int .i64 L.c.k, .int .i64 L.c.s, .int .i64 L.c.m, .int .i64 L.clock, .int .i64 L.stamps, .int .i64 L.log, .int .i64 L.fin, .int .i64 L.thread, .int .i64 L.lock, .int .i64 L.loc, .int .i64 L.size] := cellsAt_take 13 cc
  go_wp2_with (first | ((with_reducible refine wp_ld_lay ?hw13_9 ?x13_9 ?ho13_9 (w.heap.size) 0 ?hx13_9 [.int .i64 L.c.t, .int .i64 L.c.l, .int .i64 L.c.k, .int .i64 L.c.s, .int .i64 L.c.m, .int .i64 L.clock, .int .i64 L.stamps, .int .i64 L.log, .int .i64 L.fin, .int .i64 L.thread, .int .i64 L.lock, .int .i64 L.loc, .int .i64 L.size] rfl (rangeAt_of cc13) ?hh13_9); (case ho13_9 => exact rfl); (case hx13_9 => exact rfl); (case hw13_9 => exact rfl)) | ((with_reducible refine wp_ld_case ?hw20_10 ?x20_10 ?ho20_10 (w.heap.size) 0 ?hx20_10 [.int .i64 L.c.t, .int .i64 L.c.l, .int .i64 L.c.k, .int .i64 L.c.s, .int .i64 L.c.m, .int .i64 L.clock, .int .i64 L.stamps, .int .i64 L.log, .int .i64 L.fin, .int .i64 L.thread, .int .i64 L.lock, .int .i64 L.loc, .int .i64 L.size, .int .i64 me, .int .i64 other, .bool own, .int .i64 m.s, .int .i64 m.k, .int .i64 m.a, .func (.func 30) #[] #[]] rfl (rangeAt_of cc) ?hh20_10); (case ho20_10 => exact rfl); (case hx20_10 => exact rfl); (case hw20_10 => exact rfl)))
  ((with_reducible refine (swap_none _ g _ _ _ h2).mono ?_); rintro e w3 ⟨rfl, hb⟩)
  exact ⟨rfl, rfl, gb_trans G (gb_of_below (some g) hb)⟩

theorem doom_t (w : World) (g : Nat) (L : Ly) (hok : L.ok) (me other : Int) (own : Bool) (m : Ct) (s n : Int) (l : List (Int × Bool)) (h0 : RunAt w g ((n, true) :: l)) (hs : I64 s) (hk : s % 4 = 1) :
    Calls Try.prog 91 #[caseV L me other own m, .pointer (some ⟨g, 0, none⟩), .int .i64 s] w fun e w' => e = .returned (OutD.v { val := 2 }) ∧ w.grownBy w' (some g) := by
  unfold caseV
  have HS : Hid (∀ w, Calls Try.prog 38 #[L.v, .int .i64 other] w fun e w' => e = .returned (.int .i64 (atStatus L other)) ∧ Below w.heap.size w w') := Lib.hid (fun w => status_any L other w hok)
  unfold Ly.v at HS
  have hk1 : (s % 4 == 1) = true := by simp; omega
  have hg0 := runAt_lt h0
  have G : w.grownBy w (some g) := gb_refl _ _
  have hS0 : w.heap.size + 0 ≤ w.heap.size := Nat.le_refl _
  go_enter Try.func91, Try.ntmps91
  go_wp2_with fail
  obtain ⟨w1, hwr⟩ : ∃ W, W = ((w.alloc (.cells #[.int .i64 L.c.t, .int .i64 L.c.l, .int .i64 L.c.k, .int .i64 L.c.s, .int .i64 L.c.m, .int .i64 L.clock, .int .i64 L.stamps, .int .i64 L.log, .int .i64 L.fin, .int .i64 L.thread, .int .i64 L.lock, .int .i64 L.loc, .int .i64 L.size, .int .i64 me, .int .i64 other, .bool own, .int .i64 m.s, .int .i64 m.k, .int .i64 m.a, .func (.func 30) #[] #[]] 119)).alloc (.cells #[.int .i64 0, .int .i64 0, .int .i64 0, .int .i64 0, .bool false, .bool false, .int .i64 0] 35)) := ⟨_, rfl⟩
  rw [← hwr]
  have hb : Below w.heap.size w w1 := by rw [hwr]; exact (Below.alloc (Below.alloc (Below.refl _ _) (by first | exact Nat.le_refl _ | (simp; omega) | simp) _) (by first | exact Nat.le_refl _ | (simp; omega) | simp) _)
  have cc : CellsAt w1 (w.heap.size) [.int .i64 L.c.t, .int .i64 L.c.l, .int .i64 L.c.k, .int .i64 L.c.s, .int .i64 L.c.m, .int .i64 L.clock, .int .i64 L.stamps, .int .i64 L.log, .int .i64 L.fin, .int .i64 L.thread, .int .i64 L.lock, .int .i64 L.loc, .int .i64 L.size, .int .i64 me, .int .i64 other, .bool own, .int .i64 m.s, .int .i64 m.k, .int .i64 m.a, .func (.func 30) #[] #[]] := by rw [hwr]; exact (cellsAt_alloc (cellsAt_new' w _ _ (w.heap.size) (by simp)) _)
  have ccz : w.heap.size < w1.heap.size := World.block_lt_of_cell? _ _ (cc 0 _ rfl)
  have oz : OutZ w1 (w.heap.size + 1) := by rw [hwr]; exact (OutZ.new' (w.alloc (.cells #[.int .i64 L.c.t, .int .i64 L.c.l, .int .i64 L.c.k, .int .i64 L.c.s, .int .i64 L.c.m, .int .i64 L.clock, .int .i64 L.stamps, .int .i64 L.log, .int .i64 L.fin, .int .i64 L.thread, .int .i64 L.lock, .int .i64 L.loc, .int .i64 L.size, .int .i64 me, .int .i64 other, .bool own, .int .i64 m.s, .int .i64 m.k, .int .i64 m.a, .func (.func 30) #[] #[]] 119)) _ (w.heap.size + 1) (by simp))
  have ozz : w.heap.size + 1 < w1.heap.size := OutZ.lt oz
  have h1 := runAt_keep h0 hb
  replace G := gb_trans G (gb_of_below (some g) hb)
  clear hb hwr
  replace hS0 := G.size
  have cc_4 : w1.cell? ⟨w.heap.size, 4, none⟩ = some (.int .i64 L.c.m) := cc 4 _ rfl
  have cc_13 : w1.cell? ⟨w.heap.size, 13, none⟩ = some (.int .i64 me) := cc 13 _ rfl
  have cc_14 : w1.cell? ⟨w.heap.size, 14, none⟩ = some (.int .i64 other) := cc 14 _ rfl
  have cc_15 : w1.cell? ⟨w.heap.size, 15, none⟩ = some (.bool own) := cc 15 _ rfl
  have cc_16 : w1.cell? ⟨w.heap.size, 16, none⟩ = some (.int .i64 m.s) := cc 16 _ rfl
  have cc_17 : w1.cell? ⟨w.heap.size, 17, none⟩ = some (.int .i64 m.k) := cc 17 _ rfl
  have cc_18 : w1.cell? ⟨w.heap.size, 18, none⟩ = some (.int .i64 m.a) := cc 18 _ rfl
  have cc_19 : w1.cell? ⟨w.heap.size, 19, none⟩ = some (.func (.func 30) #[] #[]) := cc 19 _ rfl
  have cc13 : CellsAt w1 (w.heap.size) [.int .i64 L.c.t, .int .i64 L.c.l, .int .i64 L.c.k, .int .i64 L.c.s, .int .i64 L.c.m, .int .i64 L.clock, .int .i64 L.stamps, .int .i64 L.log, .int .i64 L.fin, .int .i64 L.thread, .int .i64 L.lock, .int .i64 L.loc, .int .i64 L.size] := cellsAt_take 13 cc
  go_wp2_with (first | ((with_reducible refine wp_ld_lay ?hw13_11 ?x13_11 ?ho13_11 (w.heap.size) 0 ?hx13_11 [.int .i64 L.c.t, .int .i64 L.c.l, .int .i64 L.c.k, .int .i64 L.c.s, .int .i64 L.c.m, .int .i64 L.clock, .int .i64 L.stamps, .int .i64 L.log, .int .i64 L.fin, .int .i64 L.thread, .int .i64 L.lock, .int .i64 L.loc, .int .i64 L.size] rfl (rangeAt_of cc13) ?hh13_11); (case ho13_11 => exact rfl); (case hx13_11 => exact rfl); (case hw13_11 => exact rfl)) | ((with_reducible refine wp_ld_case ?hw20_12 ?x20_12 ?ho20_12 (w.heap.size) 0 ?hx20_12 [.int .i64 L.c.t, .int .i64 L.c.l, .int .i64 L.c.k, .int .i64 L.c.s, .int .i64 L.c.m, .int .i64 L.clock, .int .i64 L.stamps, .int .i64 L.log, .int .i64 L.fin, .int .i64 L.thread, .int .i64 L.lock, .int .i64 L.loc, .int .i64 L.size, .int .i64 me, .int .i64 other, .bool own, .int .i64 m.s, .int .i64 m.k, .int .i64 m.a, .func (.func 30) #[] #[]] rfl (rangeAt_of cc) ?hh20_12); (case ho20_12 => exact rfl); (case hx20_12 => exact rfl); (case hw20_12 => exact rfl)))
  ((with_reducible refine (kind_any _ _).mono ?_); rintro e w' ⟨rfl, rfl⟩)
  clear cc13
  have cc13 : CellsAt w1 (w.heap.size) [.int .i64 L.c.t, .int .i64 L.c.l, .int .i64 L.c.k, .int .i64 L.c.s, .int .i64 L.c.m, .int .i64 L.clock, .int .i64 L.stamps, .int .i64 L.log, .int .i64 L.fin, .int .i64 L.thread, .int .i64 L.lock, .int .i64 L.loc, .int .i64 L.size] := cellsAt_take 13 cc
  go_wp2_with (first | ((with_reducible refine wp_ld_lay ?hw13_13 ?x13_13 ?ho13_13 (w.heap.size) 0 ?hx13_13 [.int .i64 L.c.t, .int .i64 L.c.l, .int .i64 L.c.k, .int .i64 L.c.s, .int .i64 L.c.m, .int .i64 L.clock, .int .i64 L.stamps, .int .i64 L.log, .int .i64 L.fin, .int .i64 L.thread, .int .i64 L.lock, .int .i64 L.loc, .int .i64 L.size] rfl (rangeAt_of cc13) ?hh13_13); (case ho13_13 => exact rfl); (case hx13_13 => exact rfl); (case hw13_13 => exact rfl)) | ((with_reducible refine wp_ld_case ?hw20_14 ?x20_14 ?ho20_14 (w.heap.size) 0 ?hx20_14 [.int .i64 L.c.t, .int .i64 L.c.l, .int .i64 L.c.k, .int .i64 L.c.s, .int .i64 L.c.m, .int .i64 L.clock, .int .i64 L.stamps, .int .i64 L.log, .int .i64 L.fin, .int .i64 L.thread, .int .i64 L.lock, .int .i64 L.loc, .int .i64 L.size, .int .i64 me, .int .i64 other, .bool own, .int .i64 m.s, .int .i64 m.k, .int .i64 m.a, .func (.func 30) #[] #[]] rfl (rangeAt_of cc) ?hh20_14); (case ho20_14 => exact rfl); (case hx20_14 => exact rfl); (case hw20_14 => exact rfl)))
  ((with_reducible refine (try_any _ hs _).mono ?_); rintro e w' ⟨rfl, rfl⟩)
  clear cc13
  have cc13 : CellsAt w1 (w.heap.size) [.int .i64 L.c.t, .int .i64 L.c.l, .int .i64 L.c.k, .int .i64 L.c.s, .int .i64 L.c.m, .int .i64 L.clock, .int .i64 L.stamps, .int .i64 L.log, .int .i64 L.fin, .int .i64 L.thread, .int .i64 L.lock, .int .i64 L.loc, .int .i64 L.size] := cellsAt_take 13 cc
  go_wp2_with (first | ((with_reducible refine wp_ld_lay ?hw13_15 ?x13_15 ?ho13_15 (w.heap.size) 0 ?hx13_15 [.int .i64 L.c.t, .int .i64 L.c.l, .int .i64 L.c.k, .int .i64 L.c.s, .int .i64 L.c.m, .int .i64 L.clock, .int .i64 L.stamps, .int .i64 L.log, .int .i64 L.fin, .int .i64 L.thread, .int .i64 L.lock, .int .i64 L.loc, .int .i64 L.size] rfl (rangeAt_of cc13) ?hh13_15); (case ho13_15 => exact rfl); (case hx13_15 => exact rfl); (case hw13_15 => exact rfl)) | ((with_reducible refine wp_ld_case ?hw20_16 ?x20_16 ?ho20_16 (w.heap.size) 0 ?hx20_16 [.int .i64 L.c.t, .int .i64 L.c.l, .int .i64 L.c.k, .int .i64 L.c.s, .int .i64 L.c.m, .int .i64 L.clock, .int .i64 L.stamps, .int .i64 L.log, .int .i64 L.fin, .int .i64 L.thread, .int .i64 L.lock, .int .i64 L.loc, .int .i64 L.size, .int .i64 me, .int .i64 other, .bool own, .int .i64 m.s, .int .i64 m.k, .int .i64 m.a, .func (.func 30) #[] #[]] rfl (rangeAt_of cc) ?hh20_16); (case ho20_16 => exact rfl); (case hx20_16 => exact rfl); (case hw20_16 => exact rfl)))
  ((with_reducible refine (wstatus_any _ _ _).mono ?_); rintro e w' ⟨rfl, rfl⟩)
  clear cc13
  have cc13 : CellsAt w1 (w.heap.size) [.int .i64 L.c.t, .int .i64 L.c.l, .int .i64 L.c.k, .int .i64 L.c.s, .int .i64 L.c.m, .int .i64 L.clock, .int .i64 L.stamps, .int .i64 L.log, .int .i64 L.fin, .int .i64 L.thread, .int .i64 L.lock, .int .i64 L.loc, .int .i64 L.size] := cellsAt_take 13 cc
  go_wp2_with (first | ((with_reducible refine wp_ld_lay ?hw13_17 ?x13_17 ?ho13_17 (w.heap.size) 0 ?hx13_17 [.int .i64 L.c.t, .int .i64 L.c.l, .int .i64 L.c.k, .int .i64 L.c.s, .int .i64 L.c.m, .int .i64 L.clock, .int .i64 L.stamps, .int .i64 L.log, .int .i64 L.fin, .int .i64 L.thread, .int .i64 L.lock, .int .i64 L.loc, .int .i64 L.size] rfl (rangeAt_of cc13) ?hh13_17); (case ho13_17 => exact rfl); (case hx13_17 => exact rfl); (case hw13_17 => exact rfl)) | ((with_reducible refine wp_ld_case ?hw20_18 ?x20_18 ?ho20_18 (w.heap.size) 0 ?hx20_18 [.int .i64 L.c.t, .int .i64 L.c.l, .int .i64 L.c.k, .int .i64 L.c.s, .int .i64 L.c.m, .int .i64 L.clock, .int .i64 L.stamps, .int .i64 L.log, .int .i64 L.fin, .int .i64 L.thread, .int .i64 L.lock, .int .i64 L.loc, .int .i64 L.size, .int .i64 me, .int .i64 other, .bool own, .int .i64 m.s, .int .i64 m.k, .int .i64 m.a, .func (.func 30) #[] #[]] rfl (rangeAt_of cc) ?hh20_18); (case ho20_18 => exact rfl); (case hx20_18 => exact rfl); (case hw20_18 => exact rfl)))
  ((with_reducible refine (HS.out _).mono ?_); rintro e w2 ⟨rfl, hb⟩)
  clear cc_4 cc_13 cc_14 cc_15 cc_16 cc_17 cc_18 cc_19
  clear cc13
  have hsz := hb.size
  (try simp at hsz)
  replace cc := cellsAt_keep cc hb
  replace oz := OutZ.below oz hb
  replace ccz : w.heap.size < w2.heap.size := by omega
  replace ozz : w.heap.size + 1 < w2.heap.size := by omega
  have h2 := runAt_keep h1 hb
  replace G := gb_trans G (gb_of_below (some g) hb)
  clear hb hsz
  replace hS0 := G.size
  have cc_4 : w2.cell? ⟨w.heap.size, 4, none⟩ = some (.int .i64 L.c.m) := cc 4 _ rfl
  have cc_13 : w2.cell? ⟨w.heap.size, 13, none⟩ = some (.int .i64 me) := cc 13 _ rfl
  have cc_14 : w2.cell? ⟨w.heap.size, 14, none⟩ = some (.int .i64 other) := cc 14 _ rfl
  have cc_15 : w2.cell? ⟨w.heap.size, 15, none⟩ = some (.bool own) := cc 15 _ rfl
  have cc_16 : w2.cell? ⟨w.heap.size, 16, none⟩ = some (.int .i64 m.s) := cc 16 _ rfl
  have cc_17 : w2.cell? ⟨w.heap.size, 17, none⟩ = some (.int .i64 m.k) := cc 17 _ rfl
  have cc_18 : w2.cell? ⟨w.heap.size, 18, none⟩ = some (.int .i64 m.a) := cc 18 _ rfl
  have cc_19 : w2.cell? ⟨w.heap.size, 19, none⟩ = some (.func (.func 30) #[] #[]) := cc 19 _ rfl
  have cc13 : CellsAt w2 (w.heap.size) [.int .i64 L.c.t, .int .i64 L.c.l, .int .i64 L.c.k, .int .i64 L.c.s, .int .i64 L.c.m, .int .i64 L.clock, .int .i64 L.stamps, .int .i64 L.log, .int .i64 L.fin, .int .i64 L.thread, .int .i64 L.lock, .int .i64 L.loc, .int .i64 L.size] := cellsAt_take 13 cc
  go_wp2_with (first | ((with_reducible refine wp_ld_lay ?hw13_19 ?x13_19 ?ho13_19 (w.heap.size) 0 ?hx13_19 [.int .i64 L.c.t, .int .i64 L.c.l, .int .i64 L.c.k, .int .i64 L.c.s, .int .i64 L.c.m, .int .i64 L.clock, .int .i64 L.stamps, .int .i64 L.log, .int .i64 L.fin, .int .i64 L.thread, .int .i64 L.lock, .int .i64 L.loc, .int .i64 L.size] rfl (rangeAt_of cc13) ?hh13_19); (case ho13_19 => exact rfl); (case hx13_19 => exact rfl); (case hw13_19 => exact rfl)) | ((with_reducible refine wp_ld_case ?hw20_20 ?x20_20 ?ho20_20 (w.heap.size) 0 ?hx20_20 [.int .i64 L.c.t, .int .i64 L.c.l, .int .i64 L.c.k, .int .i64 L.c.s, .int .i64 L.c.m, .int .i64 L.clock, .int .i64 L.stamps, .int .i64 L.log, .int .i64 L.fin, .int .i64 L.thread, .int .i64 L.lock, .int .i64 L.loc, .int .i64 L.size, .int .i64 me, .int .i64 other, .bool own, .int .i64 m.s, .int .i64 m.k, .int .i64 m.a, .func (.func 30) #[] #[]] rfl (rangeAt_of cc) ?hh20_20); (case ho20_20 => exact rfl); (case hx20_20 => exact rfl); (case hw20_20 => exact rfl)))
  ((with_reducible refine (swap_some _ g _ _ _ _ _ h2).mono ?_); rintro e w3 ⟨rfl, h3, hb⟩)
  clear cc_4 cc_13 cc_14 cc_15 cc_16 cc_17 cc_18 cc_19
  clear cc13
  have hsz := hb.size
  (try simp at hsz)
  replace cc := cellsAt_gb cc hb (by omega)
  replace oz := OutZ.gb oz hb (by omega)
  replace ccz : w.heap.size < w3.heap.size := by omega
  replace ozz : w.heap.size + 1 < w3.heap.size := by omega
  replace G := gb_trans G hb
  clear hb hsz
  replace hS0 := G.size
  have cc_4 : w3.cell? ⟨w.heap.size, 4, none⟩ = some (.int .i64 L.c.m) := cc 4 _ rfl
  have cc_13 : w3.cell? ⟨w.heap.size, 13, none⟩ = some (.int .i64 me) := cc 13 _ rfl
  have cc_14 : w3.cell? ⟨w.heap.size, 14, none⟩ = some (.int .i64 other) := cc 14 _ rfl
  have cc_15 : w3.cell? ⟨w.heap.size, 15, none⟩ = some (.bool own) := cc 15 _ rfl
  have cc_16 : w3.cell? ⟨w.heap.size, 16, none⟩ = some (.int .i64 m.s) := cc 16 _ rfl
  have cc_17 : w3.cell? ⟨w.heap.size, 17, none⟩ = some (.int .i64 m.k) := cc 17 _ rfl
  have cc_18 : w3.cell? ⟨w.heap.size, 18, none⟩ = some (.int .i64 m.a) := cc 18 _ rfl
  have cc_19 : w3.cell? ⟨w.heap.size, 19, none⟩ = some (.func (.func 30) #[] #[]) := cc 19 _ rfl
  have cc13 : CellsAt w3 (w.heap.size) [.int .i64 L.c.t, .int .i64 L.c.l, .int .i64 L.c.k, .int .i64 L.c.s, .int .i64 L.c.m, .int .i64 L.clock, .int .i64 L.stamps, .int .i64 L.log, .int .i64 L.fin, .int .i64 L.thread, .int .i64 L.lock, .int .i64 L.loc, .int .i64 L.size] := cellsAt_take 13 cc
  have oq0 := oz.c0
  have oq1 := oz.c1
  have oq2 := oz.c2
  have oq3 := oz.c3
  have oq4 := oz.c4
  have oq5 := oz.c5
  have oq6 := oz.c6
  have of := oz.fr
  go_wp2_with (first | ((with_reducible refine wp_ld_lay ?hw13_21 ?x13_21 ?ho13_21 (w.heap.size) 0 ?hx13_21 [.int .i64 L.c.t, .int .i64 L.c.l, .int .i64 L.c.k, .int .i64 L.c.s, .int .i64 L.c.m, .int .i64 L.clock, .int .i64 L.stamps, .int .i64 L.log, .int .i64 L.fin, .int .i64 L.thread, .int .i64 L.lock, .int .i64 L.loc, .int .i64 L.size] rfl (rangeAt_of cc13) ?hh13_21); (case ho13_21 => exact rfl); (case hx13_21 => exact rfl); (case hw13_21 => exact rfl)) | ((with_reducible refine wp_ld_case ?hw20_22 ?x20_22 ?ho20_22 (w.heap.size) 0 ?hx20_22 [.int .i64 L.c.t, .int .i64 L.c.l, .int .i64 L.c.k, .int .i64 L.c.s, .int .i64 L.c.m, .int .i64 L.clock, .int .i64 L.stamps, .int .i64 L.log, .int .i64 L.fin, .int .i64 L.thread, .int .i64 L.lock, .int .i64 L.loc, .int .i64 L.size, .int .i64 me, .int .i64 other, .bool own, .int .i64 m.s, .int .i64 m.k, .int .i64 m.a, .func (.func 30) #[] #[]] rfl (rangeAt_of cc) ?hh20_22); (case ho20_22 => exact rfl); (case hx20_22 => exact rfl); (case hw20_22 => exact rfl)))
  obtain ⟨W, hW, k0, k1, k2, k3, k4, k5, k6⟩ := outs_at oz (.int .i64 (2)) (.int .i64 (0)) (.int .i64 (0)) (.int .i64 (0)) (.bool false) (.bool false) (.int .i64 (0))
  rw [← hW]
  simp [bodyPost, results, Try.results91, go_sem, k0, k1, k2, k3, k4, k5, k6, OutD.v]
  rw [hW]
  exact gb_outs G (by first | exact Nat.le_refl _ | omega) _ _ _ _ _ _ _

theorem doom_f (w : World) (g : Nat) (L : Ly) (hok : L.ok) (me other : Int) (own : Bool) (m : Ct) (s n : Int) (l : List (Int × Bool)) (h0 : RunAt w g ((n, false) :: l)) (hs : I64 s) (hk : s % 4 = 1) :
    Calls Try.prog 91 #[caseV L me other own m, .pointer (some ⟨g, 0, none⟩), .int .i64 s] w fun e w' => e = .returned (OutD.v { val := 0 }) ∧ w.grownBy w' (some g) := by
  unfold caseV
  have HS : Hid (∀ w, Calls Try.prog 38 #[L.v, .int .i64 other] w fun e w' => e = .returned (.int .i64 (atStatus L other)) ∧ Below w.heap.size w w') := Lib.hid (fun w => status_any L other w hok)
  unfold Ly.v at HS
  have hk1 : (s % 4 == 1) = true := by simp; omega
  have hg0 := runAt_lt h0
  have G : w.grownBy w (some g) := gb_refl _ _
  have hS0 : w.heap.size + 0 ≤ w.heap.size := Nat.le_refl _
  go_enter Try.func91, Try.ntmps91
  go_wp2_with fail
  obtain ⟨w1, hwr⟩ : ∃ W, W = ((w.alloc (.cells #[.int .i64 L.c.t, .int .i64 L.c.l, .int .i64 L.c.k, .int .i64 L.c.s, .int .i64 L.c.m, .int .i64 L.clock, .int .i64 L.stamps, .int .i64 L.log, .int .i64 L.fin, .int .i64 L.thread, .int .i64 L.lock, .int .i64 L.loc, .int .i64 L.size, .int .i64 me, .int .i64 other, .bool own, .int .i64 m.s, .int .i64 m.k, .int .i64 m.a, .func (.func 30) #[] #[]] 119)).alloc (.cells #[.int .i64 0, .int .i64 0, .int .i64 0, .int .i64 0, .bool false, .bool false, .int .i64 0] 35)) := ⟨_, rfl⟩
  rw [← hwr]
  have hb : Below w.heap.size w w1 := by rw [hwr]; exact (Below.alloc (Below.alloc (Below.refl _ _) (by first | exact Nat.le_refl _ | (simp; omega) | simp) _) (by first | exact Nat.le_refl _ | (simp; omega) | simp) _)
  have cc : CellsAt w1 (w.heap.size) [.int .i64 L.c.t, .int .i64 L.c.l, .int .i64 L.c.k, .int .i64 L.c.s, .int .i64 L.c.m, .int .i64 L.clock, .int .i64 L.stamps, .int .i64 L.log, .int .i64 L.fin, .int .i64 L.thread, .int .i64 L.lock, .int .i64 L.loc, .int .i64 L.size, .int .i64 me, .int .i64 other, .bool own, .int .i64 m.s, .int .i64 m.k, .int .i64 m.a, .func (.func 30) #[] #[]] := by rw [hwr]; exact (cellsAt_alloc (cellsAt_new' w _ _ (w.heap.size) (by simp)) _)
  have ccz : w.heap.size < w1.heap.size := World.block_lt_of_cell? _ _ (cc 0 _ rfl)
  have oz : OutZ w1 (w.heap.size + 1) := by rw [hwr]; exact (OutZ.new' (w.alloc (.cells #[.int .i64 L.c.t, .int .i64 L.c.l, .int .i64 L.c.k, .int .i64 L.c.s, .int .i64 L.c.m, .int .i64 L.clock, .int .i64 L.stamps, .int .i64 L.log, .int .i64 L.fin, .int .i64 L.thread, .int .i64 L.lock, .int .i64 L.loc, .int .i64 L.size, .int .i64 me, .int .i64 other, .bool own, .int .i64 m.s, .int .i64 m.k, .int .i64 m.a, .func (.func 30) #[] #[]] 119)) _ (w.heap.size + 1) (by simp))
  have ozz : w.heap.size + 1 < w1.heap.size := OutZ.lt oz
  have h1 := runAt_keep h0 hb
  replace G := gb_trans G (gb_of_below (some g) hb)
  clear hb hwr
  replace hS0 := G.size
  have cc_4 : w1.cell? ⟨w.heap.size, 4, none⟩ = some (.int .i64 L.c.m) := cc 4 _ rfl
  have cc_13 : w1.cell? ⟨w.heap.size, 13, none⟩ = some (.int .i64 me) := cc 13 _ rfl
  have cc_14 : w1.cell? ⟨w.heap.size, 14, none⟩ = some (.int .i64 other) := cc 14 _ rfl
  have cc_15 : w1.cell? ⟨w.heap.size, 15, none⟩ = some (.bool own) := cc 15 _ rfl
  have cc_16 : w1.cell? ⟨w.heap.size, 16, none⟩ = some (.int .i64 m.s) := cc 16 _ rfl
  have cc_17 : w1.cell? ⟨w.heap.size, 17, none⟩ = some (.int .i64 m.k) := cc 17 _ rfl
  have cc_18 : w1.cell? ⟨w.heap.size, 18, none⟩ = some (.int .i64 m.a) := cc 18 _ rfl
  have cc_19 : w1.cell? ⟨w.heap.size, 19, none⟩ = some (.func (.func 30) #[] #[]) := cc 19 _ rfl
  have cc13 : CellsAt w1 (w.heap.size) [.int .i64 L.c.t, .int .i64 L.c.l, .int .i64 L.c.k, .int .i64 L.c.s, .int .i64 L.c.m, .int .i64 L.clock, .int .i64 L.stamps, .int .i64 L.log, .int .i64 L.fin, .int .i64 L.thread, .int .i64 L.lock, .int .i64 L.loc, .int .i64 L.size] := cellsAt_take 13 cc
  go_wp2_with (first | ((with_reducible refine wp_ld_lay ?hw13_23 ?x13_23 ?ho13_23 (w.heap.size) 0 ?hx13_23 [.int .i64 L.c.t, .int .i64 L.c.l, .int .i64 L.c.k, .int .i64 L.c.s, .int .i64 L.c.m, .int .i64 L.clock, .int .i64 L.stamps, .int .i64 L.log, .int .i64 L.fin, .int .i64 L.thread, .int .i64 L.lock, .int .i64 L.loc, .int .i64 L.size] rfl (rangeAt_of cc13) ?hh13_23); (case ho13_23 => exact rfl); (case hx13_23 => exact rfl); (case hw13_23 => exact rfl)) | ((with_reducible refine wp_ld_case ?hw20_24 ?x20_24 ?ho20_24 (w.heap.size) 0 ?hx20_24 [.int .i64 L.c.t, .int .i64 L.c.l, .int .i64 L.c.k, .int .i64 L.c.s, .int .i64 L.c.m, .int .i64 L.clock, .int .i64 L.stamps, .int .i64 L.log, .int .i64 L.fin, .int .i64 L.thread, .int .i64 L.lock, .int .i64 L.loc, .int .i64 L.size, .int .i64 me, .int .i64 other, .bool own, .int .i64 m.s, .int .i64 m.k, .int .i64 m.a, .func (.func 30) #[] #[]] rfl (rangeAt_of cc) ?hh20_24); (case ho20_24 => exact rfl); (case hx20_24 => exact rfl); (case hw20_24 => exact rfl)))
  ((with_reducible refine (kind_any _ _).mono ?_); rintro e w' ⟨rfl, rfl⟩)
  clear cc13
  have cc13 : CellsAt w1 (w.heap.size) [.int .i64 L.c.t, .int .i64 L.c.l, .int .i64 L.c.k, .int .i64 L.c.s, .int .i64 L.c.m, .int .i64 L.clock, .int .i64 L.stamps, .int .i64 L.log, .int .i64 L.fin, .int .i64 L.thread, .int .i64 L.lock, .int .i64 L.loc, .int .i64 L.size] := cellsAt_take 13 cc
  go_wp2_with (first | ((with_reducible refine wp_ld_lay ?hw13_25 ?x13_25 ?ho13_25 (w.heap.size) 0 ?hx13_25 [.int .i64 L.c.t, .int .i64 L.c.l, .int .i64 L.c.k, .int .i64 L.c.s, .int .i64 L.c.m, .int .i64 L.clock, .int .i64 L.stamps, .int .i64 L.log, .int .i64 L.fin, .int .i64 L.thread, .int .i64 L.lock, .int .i64 L.loc, .int .i64 L.size] rfl (rangeAt_of cc13) ?hh13_25); (case ho13_25 => exact rfl); (case hx13_25 => exact rfl); (case hw13_25 => exact rfl)) | ((with_reducible refine wp_ld_case ?hw20_26 ?x20_26 ?ho20_26 (w.heap.size) 0 ?hx20_26 [.int .i64 L.c.t, .int .i64 L.c.l, .int .i64 L.c.k, .int .i64 L.c.s, .int .i64 L.c.m, .int .i64 L.clock, .int .i64 L.stamps, .int .i64 L.log, .int .i64 L.fin, .int .i64 L.thread, .int .i64 L.lock, .int .i64 L.loc, .int .i64 L.size, .int .i64 me, .int .i64 other, .bool own, .int .i64 m.s, .int .i64 m.k, .int .i64 m.a, .func (.func 30) #[] #[]] rfl (rangeAt_of cc) ?hh20_26); (case ho20_26 => exact rfl); (case hx20_26 => exact rfl); (case hw20_26 => exact rfl)))
  ((with_reducible refine (try_any _ hs _).mono ?_); rintro e w' ⟨rfl, rfl⟩)
  clear cc13
  have cc13 : CellsAt w1 (w.heap.size) [.int .i64 L.c.t, .int .i64 L.c.l, .int .i64 L.c.k, .int .i64 L.c.s, .int .i64 L.c.m, .int .i64 L.clock, .int .i64 L.stamps, .int .i64 L.log, .int .i64 L.fin, .int .i64 L.thread, .int .i64 L.lock, .int .i64 L.loc, .int .i64 L.size] := cellsAt_take 13 cc
  go_wp2_with (first | ((with_reducible refine wp_ld_lay ?hw13_27 ?x13_27 ?ho13_27 (w.heap.size) 0 ?hx13_27 [.int .i64 L.c.t, .int .i64 L.c.l, .int .i64 L.c.k, .int .i64 L.c.s, .int .i64 L.c.m, .int .i64 L.clock, .int .i64 L.stamps, .int .i64 L.log, .int .i64 L.fin, .int .i64 L.thread, .int .i64 L.lock, .int .i64 L.loc, .int .i64 L.size] rfl (rangeAt_of cc13) ?hh13_27); (case ho13_27 => exact rfl); (case hx13_27 => exact rfl); (case hw13_27 => exact rfl)) | ((with_reducible refine wp_ld_case ?hw20_28 ?x20_28 ?ho20_28 (w.heap.size) 0 ?hx20_28 [.int .i64 L.c.t, .int .i64 L.c.l, .int .i64 L.c.k, .int .i64 L.c.s, .int .i64 L.c.m, .int .i64 L.clock, .int .i64 L.stamps, .int .i64 L.log, .int .i64 L.fin, .int .i64 L.thread, .int .i64 L.lock, .int .i64 L.loc, .int .i64 L.size, .int .i64 me, .int .i64 other, .bool own, .int .i64 m.s, .int .i64 m.k, .int .i64 m.a, .func (.func 30) #[] #[]] rfl (rangeAt_of cc) ?hh20_28); (case ho20_28 => exact rfl); (case hx20_28 => exact rfl); (case hw20_28 => exact rfl)))
  ((with_reducible refine (wstatus_any _ _ _).mono ?_); rintro e w' ⟨rfl, rfl⟩)
  clear cc13
  have cc13 : CellsAt w1 (w.heap.size) [.int .i64 L.c.t, .int .i64 L.c.l, .int .i64 L.c.k, .int .i64 L.c.s, .int .i64 L.c.m, .int .i64 L.clock, .int .i64 L.stamps, .int .i64 L.log, .int .i64 L.fin, .int .i64 L.thread, .int .i64 L.lock, .int .i64 L.loc, .int .i64 L.size] := cellsAt_take 13 cc
  go_wp2_with (first | ((with_reducible refine wp_ld_lay ?hw13_29 ?x13_29 ?ho13_29 (w.heap.size) 0 ?hx13_29 [.int .i64 L.c.t, .int .i64 L.c.l, .int .i64 L.c.k, .int .i64 L.c.s, .int .i64 L.c.m, .int .i64 L.clock, .int .i64 L.stamps, .int .i64 L.log, .int .i64 L.fin, .int .i64 L.thread, .int .i64 L.lock, .int .i64 L.loc, .int .i64 L.size] rfl (rangeAt_of cc13) ?hh13_29); (case ho13_29 => exact rfl); (case hx13_29 => exact rfl); (case hw13_29 => exact rfl)) | ((with_reducible refine wp_ld_case ?hw20_30 ?x20_30 ?ho20_30 (w.heap.size) 0 ?hx20_30 [.int .i64 L.c.t, .int .i64 L.c.l, .int .i64 L.c.k, .int .i64 L.c.s, .int .i64 L.c.m, .int .i64 L.clock, .int .i64 L.stamps, .int .i64 L.log, .int .i64 L.fin, .int .i64 L.thread, .int .i64 L.lock, .int .i64 L.loc, .int .i64 L.size, .int .i64 me, .int .i64 other, .bool own, .int .i64 m.s, .int .i64 m.k, .int .i64 m.a, .func (.func 30) #[] #[]] rfl (rangeAt_of cc) ?hh20_30); (case ho20_30 => exact rfl); (case hx20_30 => exact rfl); (case hw20_30 => exact rfl)))
  ((with_reducible refine (HS.out _).mono ?_); rintro e w2 ⟨rfl, hb⟩)
  clear cc_4 cc_13 cc_14 cc_15 cc_16 cc_17 cc_18 cc_19
  clear cc13
  have hsz := hb.size
  (try simp at hsz)
  replace cc := cellsAt_keep cc hb
  replace oz := OutZ.below oz hb
  replace ccz : w.heap.size < w2.heap.size := by omega
  replace ozz : w.heap.size + 1 < w2.heap.size := by omega
  have h2 := runAt_keep h1 hb
  replace G := gb_trans G (gb_of_below (some g) hb)
  clear hb hsz
  replace hS0 := G.size
  have cc_4 : w2.cell? ⟨w.heap.size, 4, none⟩ = some (.int .i64 L.c.m) := cc 4 _ rfl
  have cc_13 : w2.cell? ⟨w.heap.size, 13, none⟩ = some (.int .i64 me) := cc 13 _ rfl
  have cc_14 : w2.cell? ⟨w.heap.size, 14, none⟩ = some (.int .i64 other) := cc 14 _ rfl
  have cc_15 : w2.cell? ⟨w.heap.size, 15, none⟩ = some (.bool own) := cc 15 _ rfl
  have cc_16 : w2.cell? ⟨w.heap.size, 16, none⟩ = some (.int .i64 m.s) := cc 16 _ rfl
  have cc_17 : w2.cell? ⟨w.heap.size, 17, none⟩ = some (.int .i64 m.k) := cc 17 _ rfl
  have cc_18 : w2.cell? ⟨w.heap.size, 18, none⟩ = some (.int .i64 m.a) := cc 18 _ rfl
  have cc_19 : w2.cell? ⟨w.heap.size, 19, none⟩ = some (.func (.func 30) #[] #[]) := cc 19 _ rfl
  have cc13 : CellsAt w2 (w.heap.size) [.int .i64 L.c.t, .int .i64 L.c.l, .int .i64 L.c.k, .int .i64 L.c.s, .int .i64 L.c.m, .int .i64 L.clock, .int .i64 L.stamps, .int .i64 L.log, .int .i64 L.fin, .int .i64 L.thread, .int .i64 L.lock, .int .i64 L.loc, .int .i64 L.size] := cellsAt_take 13 cc
  go_wp2_with (first | ((with_reducible refine wp_ld_lay ?hw13_31 ?x13_31 ?ho13_31 (w.heap.size) 0 ?hx13_31 [.int .i64 L.c.t, .int .i64 L.c.l, .int .i64 L.c.k, .int .i64 L.c.s, .int .i64 L.c.m, .int .i64 L.clock, .int .i64 L.stamps, .int .i64 L.log, .int .i64 L.fin, .int .i64 L.thread, .int .i64 L.lock, .int .i64 L.loc, .int .i64 L.size] rfl (rangeAt_of cc13) ?hh13_31); (case ho13_31 => exact rfl); (case hx13_31 => exact rfl); (case hw13_31 => exact rfl)) | ((with_reducible refine wp_ld_case ?hw20_32 ?x20_32 ?ho20_32 (w.heap.size) 0 ?hx20_32 [.int .i64 L.c.t, .int .i64 L.c.l, .int .i64 L.c.k, .int .i64 L.c.s, .int .i64 L.c.m, .int .i64 L.clock, .int .i64 L.stamps, .int .i64 L.log, .int .i64 L.fin, .int .i64 L.thread, .int .i64 L.lock, .int .i64 L.loc, .int .i64 L.size, .int .i64 me, .int .i64 other, .bool own, .int .i64 m.s, .int .i64 m.k, .int .i64 m.a, .func (.func 30) #[] #[]] rfl (rangeAt_of cc) ?hh20_32); (case ho20_32 => exact rfl); (case hx20_32 => exact rfl); (case hw20_32 => exact rfl)))
  ((with_reducible refine (swap_some _ g _ _ _ _ _ h2).mono ?_); rintro e w3 ⟨rfl, h3, hb⟩)
  clear cc_4 cc_13 cc_14 cc_15 cc_16 cc_17 cc_18 cc_19
  clear cc13
  have hsz := hb.size
  (try simp at hsz)
  replace cc := cellsAt_gb cc hb (by omega)
  replace oz := OutZ.gb oz hb (by omega)
  replace ccz : w.heap.size < w3.heap.size := by omega
  replace ozz : w.heap.size + 1 < w3.heap.size := by omega
  replace G := gb_trans G hb
  clear hb hsz
  replace hS0 := G.size
  have cc_4 : w3.cell? ⟨w.heap.size, 4, none⟩ = some (.int .i64 L.c.m) := cc 4 _ rfl
  have cc_13 : w3.cell? ⟨w.heap.size, 13, none⟩ = some (.int .i64 me) := cc 13 _ rfl
  have cc_14 : w3.cell? ⟨w.heap.size, 14, none⟩ = some (.int .i64 other) := cc 14 _ rfl
  have cc_15 : w3.cell? ⟨w.heap.size, 15, none⟩ = some (.bool own) := cc 15 _ rfl
  have cc_16 : w3.cell? ⟨w.heap.size, 16, none⟩ = some (.int .i64 m.s) := cc 16 _ rfl
  have cc_17 : w3.cell? ⟨w.heap.size, 17, none⟩ = some (.int .i64 m.k) := cc 17 _ rfl
  have cc_18 : w3.cell? ⟨w.heap.size, 18, none⟩ = some (.int .i64 m.a) := cc 18 _ rfl
  have cc_19 : w3.cell? ⟨w.heap.size, 19, none⟩ = some (.func (.func 30) #[] #[]) := cc 19 _ rfl
  have cc13 : CellsAt w3 (w.heap.size) [.int .i64 L.c.t, .int .i64 L.c.l, .int .i64 L.c.k, .int .i64 L.c.s, .int .i64 L.c.m, .int .i64 L.clock, .int .i64 L.stamps, .int .i64 L.log, .int .i64 L.fin, .int .i64 L.thread, .int .i64 L.lock, .int .i64 L.loc, .int .i64 L.size] := cellsAt_take 13 cc
  have oq0 := oz.c0
  have oq1 := oz.c1
  have oq2 := oz.c2
  have oq3 := oz.c3
  have oq4 := oz.c4
  have oq5 := oz.c5
  have oq6 := oz.c6
  have of := oz.fr
  go_wp2_with (first | ((with_reducible refine wp_ld_lay ?hw13_33 ?x13_33 ?ho13_33 (w.heap.size) 0 ?hx13_33 [.int .i64 L.c.t, .int .i64 L.c.l, .int .i64 L.c.k, .int .i64 L.c.s, .int .i64 L.c.m, .int .i64 L.clock, .int .i64 L.stamps, .int .i64 L.log, .int .i64 L.fin, .int .i64 L.thread, .int .i64 L.lock, .int .i64 L.loc, .int .i64 L.size] rfl (rangeAt_of cc13) ?hh13_33); (case ho13_33 => exact rfl); (case hx13_33 => exact rfl); (case hw13_33 => exact rfl)) | ((with_reducible refine wp_ld_case ?hw20_34 ?x20_34 ?ho20_34 (w.heap.size) 0 ?hx20_34 [.int .i64 L.c.t, .int .i64 L.c.l, .int .i64 L.c.k, .int .i64 L.c.s, .int .i64 L.c.m, .int .i64 L.clock, .int .i64 L.stamps, .int .i64 L.log, .int .i64 L.fin, .int .i64 L.thread, .int .i64 L.lock, .int .i64 L.loc, .int .i64 L.size, .int .i64 me, .int .i64 other, .bool own, .int .i64 m.s, .int .i64 m.k, .int .i64 m.a, .func (.func 30) #[] #[]] rfl (rangeAt_of cc) ?hh20_34); (case ho20_34 => exact rfl); (case hx20_34 => exact rfl); (case hw20_34 => exact rfl)))
  obtain ⟨W, hW, k0, k1, k2, k3, k4, k5, k6⟩ := outs_at oz (.int .i64 (0)) (.int .i64 (0)) (.int .i64 (0)) (.int .i64 (0)) (.bool false) (.bool false) (.int .i64 (0))
  rw [← hW]
  simp [bodyPost, results, Try.results91, go_sem, k0, k1, k2, k3, k4, k5, k6, OutD.v]
  rw [hW]
  exact gb_outs G (by first | exact Nat.le_refl _ | omega) _ _ _ _ _ _ _

theorem doom_3 (w : World) (g : Nat) (L : Ly) (hok : L.ok) (me other : Int) (own : Bool) (m : Ct) (s : Int) (l : List (Int × Bool)) (h0 : RunAt w g l) (hk : s % 4 = 3) :
    Calls Try.prog 91 #[caseV L me other own m, .pointer (some ⟨g, 0, none⟩), .int .i64 s] w fun e w' => e = .returned (OutD.v { val := 2 }) ∧ w.grownBy w' (some g) := by
  unfold caseV
  have hk1 : (s % 4 == 1) = false := by simp; omega
  have hk3 : (s % 4 == 3) = true := by simp; omega
  have hg0 := runAt_lt h0
  have G : w.grownBy w (some g) := gb_refl _ _
  have hS0 : w.heap.size + 0 ≤ w.heap.size := Nat.le_refl _
  go_enter Try.func91, Try.ntmps91
  go_wp2_with fail
  obtain ⟨w1, hwr⟩ : ∃ W, W = ((w.alloc (.cells #[.int .i64 L.c.t, .int .i64 L.c.l, .int .i64 L.c.k, .int .i64 L.c.s, .int .i64 L.c.m, .int .i64 L.clock, .int .i64 L.stamps, .int .i64 L.log, .int .i64 L.fin, .int .i64 L.thread, .int .i64 L.lock, .int .i64 L.loc, .int .i64 L.size, .int .i64 me, .int .i64 other, .bool own, .int .i64 m.s, .int .i64 m.k, .int .i64 m.a, .func (.func 30) #[] #[]] 119)).alloc (.cells #[.int .i64 0, .int .i64 0, .int .i64 0, .int .i64 0, .bool false, .bool false, .int .i64 0] 35)) := ⟨_, rfl⟩
  rw [← hwr]
  have hb : Below w.heap.size w w1 := by rw [hwr]; exact (Below.alloc (Below.alloc (Below.refl _ _) (by first | exact Nat.le_refl _ | (simp; omega) | simp) _) (by first | exact Nat.le_refl _ | (simp; omega) | simp) _)
  have cc : CellsAt w1 (w.heap.size) [.int .i64 L.c.t, .int .i64 L.c.l, .int .i64 L.c.k, .int .i64 L.c.s, .int .i64 L.c.m, .int .i64 L.clock, .int .i64 L.stamps, .int .i64 L.log, .int .i64 L.fin, .int .i64 L.thread, .int .i64 L.lock, .int .i64 L.loc, .int .i64 L.size, .int .i64 me, .int .i64 other, .bool own, .int .i64 m.s, .int .i64 m.k, .int .i64 m.a, .func (.func 30) #[] #[]] := by rw [hwr]; exact (cellsAt_alloc (cellsAt_new' w _ _ (w.heap.size) (by simp)) _)
  have ccz : w.heap.size < w1.heap.size := World.block_lt_of_cell? _ _ (cc 0 _ rfl)
  have oz : OutZ w1 (w.heap.size + 1) := by rw [hwr]; exact (OutZ.new' (w.alloc (.cells #[.int .i64 L.c.t, .int .i64 L.c.l, .int .i64 L.c.k, .int .i64 L.c.s, .int .i64 L.c.m, .int .i64 L.clock, .int .i64 L.stamps, .int .i64 L.log, .int .i64 L.fin, .int .i64 L.thread, .int .i64 L.lock, .int .i64 L.loc, .int .i64 L.size, .int .i64 me, .int .i64 other, .bool own, .int .i64 m.s, .int .i64 m.k, .int .i64 m.a, .func (.func 30) #[] #[]] 119)) _ (w.heap.size + 1) (by simp))
  have ozz : w.heap.size + 1 < w1.heap.size := OutZ.lt oz
  have h1 := runAt_keep h0 hb
  replace G := gb_trans G (gb_of_below (some g) hb)
  clear hb hwr
  replace hS0 := G.size
  have cc_4 : w1.cell? ⟨w.heap.size, 4, none⟩ = some (.int .i64 L.c.m) := cc 4 _ rfl
  have cc_13 : w1.cell? ⟨w.heap.size, 13, none⟩ = some (.int .i64 me) := cc 13 _ rfl
  have cc_14 : w1.cell? ⟨w.heap.size, 14, none⟩ = some (.int .i64 other) := cc 14 _ rfl
  have cc_15 : w1.cell? ⟨w.heap.size, 15, none⟩ = some (.bool own) := cc 15 _ rfl
  have cc_16 : w1.cell? ⟨w.heap.size, 16, none⟩ = some (.int .i64 m.s) := cc 16 _ rfl
  have cc_17 : w1.cell? ⟨w.heap.size, 17, none⟩ = some (.int .i64 m.k) := cc 17 _ rfl
  have cc_18 : w1.cell? ⟨w.heap.size, 18, none⟩ = some (.int .i64 m.a) := cc 18 _ rfl
  have cc_19 : w1.cell? ⟨w.heap.size, 19, none⟩ = some (.func (.func 30) #[] #[]) := cc 19 _ rfl
  have cc13 : CellsAt w1 (w.heap.size) [.int .i64 L.c.t, .int .i64 L.c.l, .int .i64 L.c.k, .int .i64 L.c.s, .int .i64 L.c.m, .int .i64 L.clock, .int .i64 L.stamps, .int .i64 L.log, .int .i64 L.fin, .int .i64 L.thread, .int .i64 L.lock, .int .i64 L.loc, .int .i64 L.size] := cellsAt_take 13 cc
  go_wp2_with (first | ((with_reducible refine wp_ld_lay ?hw13_35 ?x13_35 ?ho13_35 (w.heap.size) 0 ?hx13_35 [.int .i64 L.c.t, .int .i64 L.c.l, .int .i64 L.c.k, .int .i64 L.c.s, .int .i64 L.c.m, .int .i64 L.clock, .int .i64 L.stamps, .int .i64 L.log, .int .i64 L.fin, .int .i64 L.thread, .int .i64 L.lock, .int .i64 L.loc, .int .i64 L.size] rfl (rangeAt_of cc13) ?hh13_35); (case ho13_35 => exact rfl); (case hx13_35 => exact rfl); (case hw13_35 => exact rfl)) | ((with_reducible refine wp_ld_case ?hw20_36 ?x20_36 ?ho20_36 (w.heap.size) 0 ?hx20_36 [.int .i64 L.c.t, .int .i64 L.c.l, .int .i64 L.c.k, .int .i64 L.c.s, .int .i64 L.c.m, .int .i64 L.clock, .int .i64 L.stamps, .int .i64 L.log, .int .i64 L.fin, .int .i64 L.thread, .int .i64 L.lock, .int .i64 L.loc, .int .i64 L.size, .int .i64 me, .int .i64 other, .bool own, .int .i64 m.s, .int .i64 m.k, .int .i64 m.a, .func (.func 30) #[] #[]] rfl (rangeAt_of cc) ?hh20_36); (case ho20_36 => exact rfl); (case hx20_36 => exact rfl); (case hw20_36 => exact rfl)))
  ((with_reducible refine (kind_any _ _).mono ?_); rintro e w' ⟨rfl, rfl⟩)
  clear cc13
  have cc13 : CellsAt w1 (w.heap.size) [.int .i64 L.c.t, .int .i64 L.c.l, .int .i64 L.c.k, .int .i64 L.c.s, .int .i64 L.c.m, .int .i64 L.clock, .int .i64 L.stamps, .int .i64 L.log, .int .i64 L.fin, .int .i64 L.thread, .int .i64 L.lock, .int .i64 L.loc, .int .i64 L.size] := cellsAt_take 13 cc
  have oq0 := oz.c0
  have oq1 := oz.c1
  have oq2 := oz.c2
  have oq3 := oz.c3
  have oq4 := oz.c4
  have oq5 := oz.c5
  have oq6 := oz.c6
  have of := oz.fr
  go_wp2_with (first | ((with_reducible refine wp_ld_lay ?hw13_37 ?x13_37 ?ho13_37 (w.heap.size) 0 ?hx13_37 [.int .i64 L.c.t, .int .i64 L.c.l, .int .i64 L.c.k, .int .i64 L.c.s, .int .i64 L.c.m, .int .i64 L.clock, .int .i64 L.stamps, .int .i64 L.log, .int .i64 L.fin, .int .i64 L.thread, .int .i64 L.lock, .int .i64 L.loc, .int .i64 L.size] rfl (rangeAt_of cc13) ?hh13_37); (case ho13_37 => exact rfl); (case hx13_37 => exact rfl); (case hw13_37 => exact rfl)) | ((with_reducible refine wp_ld_case ?hw20_38 ?x20_38 ?ho20_38 (w.heap.size) 0 ?hx20_38 [.int .i64 L.c.t, .int .i64 L.c.l, .int .i64 L.c.k, .int .i64 L.c.s, .int .i64 L.c.m, .int .i64 L.clock, .int .i64 L.stamps, .int .i64 L.log, .int .i64 L.fin, .int .i64 L.thread, .int .i64 L.lock, .int .i64 L.loc, .int .i64 L.size, .int .i64 me, .int .i64 other, .bool own, .int .i64 m.s, .int .i64 m.k, .int .i64 m.a, .func (.func 30) #[] #[]] rfl (rangeAt_of cc) ?hh20_38); (case ho20_38 => exact rfl); (case hx20_38 => exact rfl); (case hw20_38 => exact rfl)))
  obtain ⟨W, hW, k0, k1, k2, k3, k4, k5, k6⟩ := outs_at oz (.int .i64 (2)) (.int .i64 (0)) (.int .i64 (0)) (.int .i64 (0)) (.bool false) (.bool false) (.int .i64 (0))
  rw [← hW]
  simp [bodyPost, results, Try.results91, go_sem, k0, k1, k2, k3, k4, k5, k6, OutD.v]
  rw [hW]
  exact gb_outs G (by first | exact Nat.le_refl _ | omega) _ _ _ _ _ _ _

theorem doom_2 (w : World) (g : Nat) (L : Ly) (hok : L.ok) (me other : Int) (own : Bool) (m : Ct) (s : Int) (l : List (Int × Bool)) (h0 : RunAt w g l) (hk : ¬s % 4 = 1) (hq : ¬s % 4 = 3) :
    Calls Try.prog 91 #[caseV L me other own m, .pointer (some ⟨g, 0, none⟩), .int .i64 s] w fun e w' => e = .returned (OutD.v { val := 3 }) ∧ w.grownBy w' (some g) := by
  unfold caseV
  have hk1 : (s % 4 == 1) = false := by simp; omega
  have hk3 : (s % 4 == 3) = false := by simp; omega
  have hg0 := runAt_lt h0
  have G : w.grownBy w (some g) := gb_refl _ _
  have hS0 : w.heap.size + 0 ≤ w.heap.size := Nat.le_refl _
  go_enter Try.func91, Try.ntmps91
  go_wp2_with fail
  obtain ⟨w1, hwr⟩ : ∃ W, W = ((w.alloc (.cells #[.int .i64 L.c.t, .int .i64 L.c.l, .int .i64 L.c.k, .int .i64 L.c.s, .int .i64 L.c.m, .int .i64 L.clock, .int .i64 L.stamps, .int .i64 L.log, .int .i64 L.fin, .int .i64 L.thread, .int .i64 L.lock, .int .i64 L.loc, .int .i64 L.size, .int .i64 me, .int .i64 other, .bool own, .int .i64 m.s, .int .i64 m.k, .int .i64 m.a, .func (.func 30) #[] #[]] 119)).alloc (.cells #[.int .i64 0, .int .i64 0, .int .i64 0, .int .i64 0, .bool false, .bool false, .int .i64 0] 35)) := ⟨_, rfl⟩
  rw [← hwr]
  have hb : Below w.heap.size w w1 := by rw [hwr]; exact (Below.alloc (Below.alloc (Below.refl _ _) (by first | exact Nat.le_refl _ | (simp; omega) | simp) _) (by first | exact Nat.le_refl _ | (simp; omega) | simp) _)
  have cc : CellsAt w1 (w.heap.size) [.int .i64 L.c.t, .int .i64 L.c.l, .int .i64 L.c.k, .int .i64 L.c.s, .int .i64 L.c.m, .int .i64 L.clock, .int .i64 L.stamps, .int .i64 L.log, .int .i64 L.fin, .int .i64 L.thread, .int .i64 L.lock, .int .i64 L.loc, .int .i64 L.size, .int .i64 me, .int .i64 other, .bool own, .int .i64 m.s, .int .i64 m.k, .int .i64 m.a, .func (.func 30) #[] #[]] := by rw [hwr]; exact (cellsAt_alloc (cellsAt_new' w _ _ (w.heap.size) (by simp)) _)
  have ccz : w.heap.size < w1.heap.size := World.block_lt_of_cell? _ _ (cc 0 _ rfl)
  have oz : OutZ w1 (w.heap.size + 1) := by rw [hwr]; exact (OutZ.new' (w.alloc (.cells #[.int .i64 L.c.t, .int .i64 L.c.l, .int .i64 L.c.k, .int .i64 L.c.s, .int .i64 L.c.m, .int .i64 L.clock, .int .i64 L.stamps, .int .i64 L.log, .int .i64 L.fin, .int .i64 L.thread, .int .i64 L.lock, .int .i64 L.loc, .int .i64 L.size, .int .i64 me, .int .i64 other, .bool own, .int .i64 m.s, .int .i64 m.k, .int .i64 m.a, .func (.func 30) #[] #[]] 119)) _ (w.heap.size + 1) (by simp))
  have ozz : w.heap.size + 1 < w1.heap.size := OutZ.lt oz
  have h1 := runAt_keep h0 hb
  replace G := gb_trans G (gb_of_below (some g) hb)
  clear hb hwr
  replace hS0 := G.size
  have cc_4 : w1.cell? ⟨w.heap.size, 4, none⟩ = some (.int .i64 L.c.m) := cc 4 _ rfl
  have cc_13 : w1.cell? ⟨w.heap.size, 13, none⟩ = some (.int .i64 me) := cc 13 _ rfl
  have cc_14 : w1.cell? ⟨w.heap.size, 14, none⟩ = some (.int .i64 other) := cc 14 _ rfl
  have cc_15 : w1.cell? ⟨w.heap.size, 15, none⟩ = some (.bool own) := cc 15 _ rfl
  have cc_16 : w1.cell? ⟨w.heap.size, 16, none⟩ = some (.int .i64 m.s) := cc 16 _ rfl
  have cc_17 : w1.cell? ⟨w.heap.size, 17, none⟩ = some (.int .i64 m.k) := cc 17 _ rfl
  have cc_18 : w1.cell? ⟨w.heap.size, 18, none⟩ = some (.int .i64 m.a) := cc 18 _ rfl
  have cc_19 : w1.cell? ⟨w.heap.size, 19, none⟩ = some (.func (.func 30) #[] #[]) := cc 19 _ rfl
  have cc13 : CellsAt w1 (w.heap.size) [.int .i64 L.c.t, .int .i64 L.c.l, .int .i64 L.c.k, .int .i64 L.c.s, .int .i64 L.c.m, .int .i64 L.clock, .int .i64 L.stamps, .int .i64 L.log, .int .i64 L.fin, .int .i64 L.thread, .int .i64 L.lock, .int .i64 L.loc, .int .i64 L.size] := cellsAt_take 13 cc
  go_wp2_with (first | ((with_reducible refine wp_ld_lay ?hw13_39 ?x13_39 ?ho13_39 (w.heap.size) 0 ?hx13_39 [.int .i64 L.c.t, .int .i64 L.c.l, .int .i64 L.c.k, .int .i64 L.c.s, .int .i64 L.c.m, .int .i64 L.clock, .int .i64 L.stamps, .int .i64 L.log, .int .i64 L.fin, .int .i64 L.thread, .int .i64 L.lock, .int .i64 L.loc, .int .i64 L.size] rfl (rangeAt_of cc13) ?hh13_39); (case ho13_39 => exact rfl); (case hx13_39 => exact rfl); (case hw13_39 => exact rfl)) | ((with_reducible refine wp_ld_case ?hw20_40 ?x20_40 ?ho20_40 (w.heap.size) 0 ?hx20_40 [.int .i64 L.c.t, .int .i64 L.c.l, .int .i64 L.c.k, .int .i64 L.c.s, .int .i64 L.c.m, .int .i64 L.clock, .int .i64 L.stamps, .int .i64 L.log, .int .i64 L.fin, .int .i64 L.thread, .int .i64 L.lock, .int .i64 L.loc, .int .i64 L.size, .int .i64 me, .int .i64 other, .bool own, .int .i64 m.s, .int .i64 m.k, .int .i64 m.a, .func (.func 30) #[] #[]] rfl (rangeAt_of cc) ?hh20_40); (case ho20_40 => exact rfl); (case hx20_40 => exact rfl); (case hw20_40 => exact rfl)))
  ((with_reducible refine (kind_any _ _).mono ?_); rintro e w' ⟨rfl, rfl⟩)
  clear cc13
  have cc13 : CellsAt w1 (w.heap.size) [.int .i64 L.c.t, .int .i64 L.c.l, .int .i64 L.c.k, .int .i64 L.c.s, .int .i64 L.c.m, .int .i64 L.clock, .int .i64 L.stamps, .int .i64 L.log, .int .i64 L.fin, .int .i64 L.thread, .int .i64 L.lock, .int .i64 L.loc, .int .i64 L.size] := cellsAt_take 13 cc
  have oq0 := oz.c0
  have oq1 := oz.c1
  have oq2 := oz.c2
  have oq3 := oz.c3
  have oq4 := oz.c4
  have oq5 := oz.c5
  have oq6 := oz.c6
  have of := oz.fr
  go_wp2_with (first | ((with_reducible refine wp_ld_lay ?hw13_41 ?x13_41 ?ho13_41 (w.heap.size) 0 ?hx13_41 [.int .i64 L.c.t, .int .i64 L.c.l, .int .i64 L.c.k, .int .i64 L.c.s, .int .i64 L.c.m, .int .i64 L.clock, .int .i64 L.stamps, .int .i64 L.log, .int .i64 L.fin, .int .i64 L.thread, .int .i64 L.lock, .int .i64 L.loc, .int .i64 L.size] rfl (rangeAt_of cc13) ?hh13_41); (case ho13_41 => exact rfl); (case hx13_41 => exact rfl); (case hw13_41 => exact rfl)) | ((with_reducible refine wp_ld_case ?hw20_42 ?x20_42 ?ho20_42 (w.heap.size) 0 ?hx20_42 [.int .i64 L.c.t, .int .i64 L.c.l, .int .i64 L.c.k, .int .i64 L.c.s, .int .i64 L.c.m, .int .i64 L.clock, .int .i64 L.stamps, .int .i64 L.log, .int .i64 L.fin, .int .i64 L.thread, .int .i64 L.lock, .int .i64 L.loc, .int .i64 L.size, .int .i64 me, .int .i64 other, .bool own, .int .i64 m.s, .int .i64 m.k, .int .i64 m.a, .func (.func 30) #[] #[]] rfl (rangeAt_of cc) ?hh20_42); (case ho20_42 => exact rfl); (case hx20_42 => exact rfl); (case hw20_42 => exact rfl)))
  obtain ⟨W, hW, k0, k1, k2, k3, k4, k5, k6⟩ := outs_at oz (.int .i64 (3)) (.int .i64 (0)) (.int .i64 (0)) (.int .i64 (0)) (.bool false) (.bool false) (.int .i64 (0))
  rw [← hW]
  simp [bodyPost, results, Try.results91, go_sem, k0, k1, k2, k3, k4, k5, k6, OutD.v]
  rw [hW]
  exact gb_outs G (by first | exact Nat.le_refl _ | omega) _ _ _ _ _ _ _

theorem doom_any (w : World) (g : Nat) (L : Ly) (hok : L.ok) (me other : Int) (own : Bool) (m : Ct) (s : Int) (hs : I64 s) (l : List (Int × Bool)) (h0 : RunAt w g l) :
    Calls Try.prog 91 #[caseV L me other own m, .pointer (some ⟨g, 0, none⟩), .int .i64 s] w (OpPost ((doomT L other s).run l) g w) := by
  by_cases hk : s % 4 = 1
  · match l, h0 with
    | [], h0 =>
      have e : (doomT L other s).run [] = .inl ⟨3, atStatus L other, s, wrap64 (4 * (s / 4) + 3)⟩ := by unfold doomT; rw [if_pos hk]; rfl
      rw [e]; exact doom_1 w g L hok me other own m s h0 hs hk
    | (n, true) :: l, h0 =>
      have e : (doomT L other s).run ((n, true) :: l) = .inr { val := 2 } := by unfold doomT; rw [if_pos hk]; rfl
      rw [e]; exact doom_t w g L hok me other own m s n l h0 hs hk
    | (n, false) :: l, h0 =>
      have e : (doomT L other s).run ((n, false) :: l) = .inr { val := 0 } := by unfold doomT; rw [if_pos hk]; rfl
      rw [e]; exact doom_f w g L hok me other own m s n l h0 hs hk
  · by_cases hq : s % 4 = 3
    · have e : (doomT L other s).run l = .inr { val := 2 } := by unfold doomT; rw [if_neg hk, if_pos hq]; cases l <;> rfl
      rw [e]; exact doom_3 w g L hok me other own m s l h0 hq
    · have e : (doomT L other s).run l = .inr { val := 3 } := by unfold doomT; rw [if_neg hk, if_neg hq]; cases l <;> rfl
      rw [e]; exact doom_2 w g L hok me other own m s l h0 hk hq

end Go.Proofs.Ytaclnaedinfhmaa
