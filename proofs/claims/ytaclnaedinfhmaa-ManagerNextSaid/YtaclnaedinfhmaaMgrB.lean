
/-
  Layer 17: the accesses by which a transaction resolves a conflict, as their tree.
-/
import Derived.Test.YtaclnaedinfhmaaRows
import Derived.Test.YtaclnaedinfhmaaBase
import Derived.Test.YtaclnaedinfhmaaAux
import Derived.Test.YtaclnaedinfhmaaWord2
import Derived.Test.YtaclnaedinfhmaaLayA
import Derived.Test.YtaclnaedinfhmaaStepC
import Derived.Test.YtaclnaedinfhmaaStepD
import Derived.Test.YtaclnaedinfhmaaTake
import Derived.Test.YtaclnaedinfhmaaMgrA
import Derived.WalkKit
import Derived.WalkLawsBesides
import Derived.Lib.Hide
namespace Go.Proofs.Ytaclnaedinfhmaa
set_option linter.unusedVariables false
set_option linter.unusedSimpArgs false
set_option maxRecDepth 100000
set_option maxHeartbeats 4000000
open Go.ChangeShapes Go.WideShapes Go.ChangeAt Go.RowKit

def doomT (L : Ly) (other s : Int) : Tree :=
  if s % 4 = 1 then .ask ⟨3, atStatus L other, s, wrap64 (4 * (s / 4) + 3)⟩ fun u => if u.2 = true then .ret { val := 2 } else .ret { val := 0 }
  else if s % 4 = 3 then .ret { val := 2 } else .ret { val := 3 }
def asksT (L : Ly) (other : Int) (m : Ct) : Tree :=
  .ask ⟨1, atStatus L other, 0, 0⟩ fun s => if s.1 % 4 = 0 then .ret { val := 0 } else .ask ⟨1, atStamp L other, 0, 0⟩ fun t => .ask ⟨1, atKarma L other, 0, 0⟩ fun k =>
    if chooseD L.c.m m ⟨t.1, k.1, s.1 / 4⟩ = 1 then .ret { val := 1 } else doomT L other s.1
def resolveT (L : Ly) (me other : Int) (own : Bool) (m : Ct) : Tree :=
  if own = true then .ask ⟨1, atStatus L me, 0, 0⟩ fun r => if r.1 % 4 = 3 then .ret { val := 1, lost := true } else asksT L other m
  else asksT L other m
def caseV (L : Ly) (me other : Int) (own : Bool) (m : Ct) : Value := .agg #[.int .i64 L.c.t, .int .i64 L.c.l, .int .i64 L.c.k, .int .i64 L.c.s, .int .i64 L.c.m, .int .i64 L.clock, .int .i64 L.stamps, .int .i64 L.log, .int .i64 L.fin, .int .i64 L.thread, .int .i64 L.lock, .int .i64 L.loc, .int .i64 L.size, .int .i64 me, .int .i64 other, .bool own, .int .i64 m.s, .int .i64 m.k, .int .i64 m.a, .func (.func 30) #[] #[]]

theorem doom_1 (w : World) (g : Nat) (L : Ly) (hok : L.ok) (me other : Int) (own : Bool) (m : Ct) (s : Int) (h0 : RunAt w g []) (hs : I64 s) (hk : s % 4 = 1) :
    Calls Try.prog 91 #[caseV L me other own m, .pointer (some ⟨g, 0, none⟩), .int .i64 s] w fun e w' => e = .panicked [{ v := .iface 124 (Ask.v ⟨3, atStatus L other, s, wrap64 (4 * (s / 4) + 3)⟩), recovered := false }] ∧ w.grownBy w' (some g) := by
  unfold caseV
  have HS : Hid (∀ w, Calls Try.prog 38 #[L.v, .int .i64 other] w fun e w' => e = .returned (.int .i64 (atStatus L other)) ∧ Below w.heap.size w w') := Lib.hid (fun w => status_any L other w hok)
  unfold Ly.v at HS
  have hk1 : (s % 4 == 1) = true := by simp; omega
  have hg0 := runAt_lt h0
  have G : w.grownBy w (some g) := gb_refl _ _
  have hS0 : w.heap.size + 0 ≤ w.heap.size := Nat.le_refl _
  go_enter Try.func91, Try.ntmps91
  go_wp2_with fail
  obtain ⟨w1, hwr⟩ : ∃ W, W = ((w.alloc (.cells #[.int .i64 L.c.t, .int .i64 L.c.l, .int .i64 L.c.k, .int .i64 L.c.s, .int .i64 L.c.m, .int .i64 L.clock, .int .i64 L.stamps, .int .i64 L.log, .int .i64 L.fin, .int .i64 L.thread, .int .i64 L.lock, .int .i64 L.loc, .int .i64 L.size, .int .i64 me, .int .i64 other, .bool own, .int .i64 m.s, .int .i64 m.k, .int .i64 m.a, .func (.func 30) #[] #[]] 119)).alloc (.cells #[.int .i64 0, .int .i64 0, .int .i64 0, .int .i64 0, .bool false, .bool false, .int .i64 0] 35)) := ⟨_, rfl⟩
  rw [← hwr]
  have hb : Below w.heap.size w w1 := by rw [hwr]; exact (Below.alloc (Below.alloc (Below.refl _ _) (by first | exact Nat.le_refl _ | (simp; omega) | simp) _) (by first | exact Nat.le_refl _ | (simp; omega) | simp) _)
  have cc : CellsAt w1 (w.heap.size) [.int .i64 L.c.t, .int .i64 L.c.l, .int .i64 L.c.k, .int .i64 L.c.s, .int .i64 L.c.m, .int .i64 L.clock, .int .i64 L.stamps, .int .i64 L.log, .int .i64 L.fin, .int .i64 L.thread, .int .i64 L.lock, .int .i64 L.loc, .int .i64 L.size, .int .i64 me, .int .i64 other, .bool own, .int .i64 m.s, .int .i64 m.k, .int .i64 m.a, .func (.func 30) #[] #[]] := by rw [hwr]; exact (cellsAt_alloc (cellsAt_new' w _ _ (w.heap.size) (by simp)) _)
  have ccz : w.heap.size < w1.heap.size := World.block_lt_of_cell? _ _ (cc 0 _ rfl)
  have oz : OutZ w1 (w.heap.size + 1) := by rw [hwr]; exact (OutZ.new' (w.alloc (.cells #[.int .i64 L.c.t, .int .i64 L.c.l, .int .i64 L.c.k, .int .i64 L.c.s, .int .i64 L.c.m, .int .i64 L.clock, .int .i64 L.stamps, .int .i64 L.log, .int .i64 L.fin, .int .i64 L.thread, .int .i64 L.lock, .int .i64 L.loc, .int .i64 L.size, .int .i64 me, .int .i64 other, .bool own, .int .i64 m.s, .int .i64 m.k, .int .i64 m.a, .func (.func 30) #[] #[]] 119)) _ (w.heap.size + 1) (by simp))
  have ozz : w.heap.size + 1 < w1.heap.size := OutZ.lt oz
  have h1 := runAt_keep h0 hb
  replace G := gb_trans G (gb_of_below (some g) hb)
  clear hb hwr
  replace hS0 := G.size
  have cc_4 := cc 4 _ rfl
  have cc_13 := cc 13 _ rfl
  have cc_14 := cc 14 _ rfl
  have cc_15 := cc 15 _ rfl
  have cc_16 := cc 16 _ rfl
  have cc_17 := cc 17 _ rfl
  have cc_18 := cc 18 _ rfl
  have cc_19 := cc 19 _ rfl
  go_wp2_with (first | ((with_reducible refine ld_layT cc ?a1 ?h1); (case a1 => exact ⟨_, rfl, rfl, rfl⟩)) | ((with_reducible refine ld_case cc rfl ?a2 ?h2); (case a2 => exact ⟨_, rfl, rfl, rfl⟩)))
  ((with_reducible refine (kind_any _ _).mono ?_); rintro e w' ⟨rfl, rfl⟩)
  go_wp2_with (first | ((with_reducible refine ld_layT cc ?a3 ?h3); (case a3 => exact ⟨_, rfl, rfl, rfl⟩)) | ((with_reducible refine ld_case cc rfl ?a4 ?h4); (case a4 => exact ⟨_, rfl, rfl, rfl⟩)))
  ((with_reducible refine (try_any _ hs _).mono ?_); rintro e w' ⟨rfl, rfl⟩)
  go_wp2_with (first | ((with_reducible refine ld_layT cc ?a5 ?h5); (case a5 => exact ⟨_, rfl, rfl, rfl⟩)) | ((with_reducible refine ld_case cc rfl ?a6 ?h6); (case a6 => exact ⟨_, rfl, rfl, rfl⟩)))
  ((with_reducible refine (wstatus_any _ _ _).mono ?_); rintro e w' ⟨rfl, rfl⟩)
  go_wp2_with (first | ((with_reducible refine ld_layT cc ?a7 ?h7); (case a7 => exact ⟨_, rfl, rfl, rfl⟩)) | ((with_reducible refine ld_case cc rfl ?a8 ?h8); (case a8 => exact ⟨_, rfl, rfl, rfl⟩)))
  ((with_reducible refine (HS.out _).mono ?_); rintro e w2 ⟨rfl, hb⟩)
  clear cc_4 cc_13 cc_14 cc_15 cc_16 cc_17 cc_18 cc_19
  have hsz := hb.size
  (try simp at hsz)
  replace cc := cellsAt_keep cc hb
  replace oz := OutZ.below oz hb
  replace ccz : w.heap.size < w2.heap.size := by omega
  replace ozz : w.heap.size + 1 < w2.heap.size := by omega
  have h2 := runAt_keep h1 hb
  replace G := gb_trans G (gb_of_below (some g) hb)
  clear hb hsz
  replace hS0 := G.size
  have cc_4 := cc 4 _ rfl
  have cc_13 := cc 13 _ rfl
  have cc_14 := cc 14 _ rfl
  have cc_15 := cc 15 _ rfl
  have cc_16 := cc 16 _ rfl
  have cc_17 := cc 17 _ rfl
  have cc_18 := cc 18 _ rfl
  have cc_19 := cc 19 _ rfl
  go_wp2_with (first | ((with_reducible refine ld_layT cc ?a9 ?h9); (case a9 => exact ⟨_, rfl, rfl, rfl⟩)) | ((with_reducible refine ld_case cc rfl ?a10 ?h10); (case a10 => exact ⟨_, rfl, rfl, rfl⟩)))
  ((with_reducible refine (swap_none _ g _ _ _ h2).mono ?_); rintro e w3 ⟨rfl, hb⟩)
  exact ⟨rfl, rfl, gb_trans G (gb_of_below (some g) hb)⟩

theorem doom_t (w : World) (g : Nat) (L : Ly) (hok : L.ok) (me other : Int) (own : Bool) (m : Ct) (s n : Int) (l : List (Int × Bool)) (h0 : RunAt w g ((n, true) :: l)) (hs : I64 s) (hk : s % 4 = 1) :
    Calls Try.prog 91 #[caseV L me other own m, .pointer (some ⟨g, 0, none⟩), .int .i64 s] w fun e w' => e = .returned (OutD.v { val := 2 }) ∧ w.grownBy w' (some g) := by
  unfold caseV
  have HS : Hid (∀ w, Calls Try.prog 38 #[L.v, .int .i64 other] w fun e w' => e = .returned (.int .i64 (atStatus L other)) ∧ Below w.heap.size w w') := Lib.hid (fun w => status_any L other w hok)
  unfold Ly.v at HS
  have hk1 : (s % 4 == 1) = true := by simp; omega
  have hg0 := runAt_lt h0
  have G : w.grownBy w (some g) := gb_refl _ _
  have hS0 : w.heap.size + 0 ≤ w.heap.size := Nat.le_refl _
  go_enter Try.func91, Try.ntmps91
  go_wp2_with fail
  obtain ⟨w1, hwr⟩ : ∃ W, W = ((w.alloc (.cells #[.int .i64 L.c.t, .int .i64 L.c.l, .int .i64 L.c.k, .int .i64 L.c.s, .int .i64 L.c.m, .int .i64 L.clock, .int .i64 L.stamps, .int .i64 L.log, .int .i64 L.fin, .int .i64 L.thread, .int .i64 L.lock, .int .i64 L.loc, .int .i64 L.size, .int .i64 me, .int .i64 other, .bool own, .int .i64 m.s, .int .i64 m.k, .int .i64 m.a, .func (.func 30) #[] #[]] 119)).alloc (.cells #[.int .i64 0, .int .i64 0, .int .i64 0, .int .i64 0, .bool false, .bool false, .int .i64 0] 35)) := ⟨_, rfl⟩
  rw [← hwr]
  have hb : Below w.heap.size w w1 := by rw [hwr]; exact (Below.alloc (Below.alloc (Below.refl _ _) (by first | exact Nat.le_refl _ | (simp; omega) | simp) _) (by first | exact Nat.le_refl _ | (simp; omega) | simp) _)
  have cc : CellsAt w1 (w.heap.size) [.int .i64 L.c.t, .int .i64 L.c.l, .int .i64 L.c.k, .int .i64 L.c.s, .int .i64 L.c.m, .int .i64 L.clock, .int .i64 L.stamps, .int .i64 L.log, .int .i64 L.fin, .int .i64 L.thread, .int .i64 L.lock, .int .i64 L.loc, .int .i64 L.size, .int .i64 me, .int .i64 other, .bool own, .int .i64 m.s, .int .i64 m.k, .int .i64 m.a, .func (.func 30) #[] #[]] := by rw [hwr]; exact (cellsAt_alloc (cellsAt_new' w _ _ (w.heap.size) (by simp)) _)
  have ccz : w.heap.size < w1.heap.size := World.block_lt_of_cell? _ _ (cc 0 _ rfl)
  have oz : OutZ w1 (w.heap.size + 1) := by rw [hwr]; exact (OutZ.new' (w.alloc (.cells #[.int .i64 L.c.t, .int .i64 L.c.l, .int .i64 L.c.k, .int .i64 L.c.s, .int .i64 L.c.m, .int .i64 L.clock, .int .i64 L.stamps, .int .i64 L.log, .int .i64 L.fin, .int .i64 L.thread, .int .i64 L.lock, .int .i64 L.loc, .int .i64 L.size, .int .i64 me, .int .i64 other, .bool own, .int .i64 m.s, .int .i64 m.k, .int .i64 m.a, .func (.func 30) #[] #[]] 119)) _ (w.heap.size + 1) (by simp))
  have ozz : w.heap.size + 1 < w1.heap.size := OutZ.lt oz
  have h1 := runAt_keep h0 hb
  replace G := gb_trans G (gb_of_below (some g) hb)
  clear hb hwr
  replace hS0 := G.size
  have cc_4 := cc 4 _ rfl
  have cc_13 := cc 13 _ rfl
  have cc_14 := cc 14 _ rfl
  have cc_15 := cc 15 _ rfl
  have cc_16 := cc 16 _ rfl
  have cc_17 := cc 17 _ rfl
  have cc_18 := cc 18 _ rfl
  have cc_19 := cc 19 _ rfl
  go_wp2_with (first | ((with_reducible refine ld_layT cc ?a11 ?h11); (case a11 => exact ⟨_, rfl, rfl, rfl⟩)) | ((with_reducible refine ld_case cc rfl ?a12 ?h12); (case a12 => exact ⟨_, rfl, rfl, rfl⟩)))
  ((with_reducible refine (kind_any _ _).mono ?_); rintro e w' ⟨rfl, rfl⟩)
  go_wp2_with (first | ((with_reducible refine ld_layT cc ?a13 ?h13); (case a13 => exact ⟨_, rfl, rfl, rfl⟩)) | ((with_reducible refine ld_case cc rfl ?a14 ?h14); (case a14 => exact ⟨_, rfl, rfl, rfl⟩)))
  ((with_reducible refine (try_any _ hs _).mono ?_); rintro e w' ⟨rfl, rfl⟩)
  go_wp2_with (first | ((with_reducible refine ld_layT cc ?a15 ?h15); (case a15 => exact ⟨_, rfl, rfl, rfl⟩)) | ((with_reducible refine ld_case cc rfl ?a16 ?h16); (case a16 => exact ⟨_, rfl, rfl, rfl⟩)))
  ((with_reducible refine (wstatus_any _ _ _).mono ?_); rintro e w' ⟨rfl, rfl⟩)
  go_wp2_with (first | ((with_reducible refine ld_layT cc ?a17 ?h17); (case a17 => exact ⟨_, rfl, rfl, rfl⟩)) | ((with_reducible refine ld_case cc rfl ?a18 ?h18); (case a18 => exact ⟨_, rfl, rfl, rfl⟩)))
  ((with_reducible refine (HS.out _).mono ?_); rintro e w2 ⟨rfl, hb⟩)
  clear cc_4 cc_13 cc_14 cc_15 cc_16 cc_17 cc_18 cc_19
  have hsz := hb.size
  (try simp at hsz)
  replace cc := cellsAt_keep cc hb
  replace oz := OutZ.below oz hb
  replace ccz : w.heap.size < w2.heap.size := by omega
  replace ozz : w.heap.size + 1 < w2.heap.size := by omega
  have h2 := runAt_keep h1 hb
  replace G := gb_trans G (gb_of_below (some g) hb)
  clear hb hsz
  replace hS0 := G.size
  have cc_4 := cc 4 _ rfl
  have cc_13 := cc 13 _ rfl
  have cc_14 := cc 14 _ rfl
  have cc_15 := cc 15 _ rfl
  have cc_16 := cc 16 _ rfl
  have cc_17 := cc 17 _ rfl
  have cc_18 := cc 18 _ rfl
  have cc_19 := cc 19 _ rfl
  go_wp2_with (first | ((with_reducible refine ld_layT cc ?a19 ?h19); (case a19 => exact ⟨_, rfl, rfl, rfl⟩)) | ((with_reducible refine ld_case cc rfl ?a20 ?h20); (case a20 => exact ⟨_, rfl, rfl, rfl⟩)))
  ((with_reducible refine (swap_some _ g _ _ _ _ _ h2).mono ?_); rintro e w3 ⟨rfl, h3, hb⟩)
  clear cc_4 cc_13 cc_14 cc_15 cc_16 cc_17 cc_18 cc_19
  have hsz := hb.size
  (try simp at hsz)
  replace cc := cellsAt_gb cc hb (by omega)
  replace oz := OutZ.gb oz hb (by omega)
  replace ccz : w.heap.size < w3.heap.size := by omega
  replace ozz : w.heap.size + 1 < w3.heap.size := by omega
  replace G := gb_trans G hb
  clear hb hsz
  replace hS0 := G.size
  have cc_4 := cc 4 _ rfl
  have cc_13 := cc 13 _ rfl
  have cc_14 := cc 14 _ rfl
  have cc_15 := cc 15 _ rfl
  have cc_16 := cc 16 _ rfl
  have cc_17 := cc 17 _ rfl
  have cc_18 := cc 18 _ rfl
  have cc_19 := cc 19 _ rfl
  have oq0 := oz.c0
  have oq1 := oz.c1
  have oq2 := oz.c2
  have oq3 := oz.c3
  have oq4 := oz.c4
  have oq5 := oz.c5
  have oq6 := oz.c6
  have of := oz.fr
  go_wp2_with (first | ((with_reducible refine ld_layT cc ?a21 ?h21); (case a21 => exact ⟨_, rfl, rfl, rfl⟩)) | ((with_reducible refine ld_case cc rfl ?a22 ?h22); (case a22 => exact ⟨_, rfl, rfl, rfl⟩)))
  obtain ⟨W, hW, k0, k1, k2, k3, k4, k5, k6⟩ := outs_at oz (.int .i64 (2)) (.int .i64 (0)) (.int .i64 (0)) (.int .i64 (0)) (.bool false) (.bool false) (.int .i64 (0))
  rw [← hW]
  simp [bodyPost, results, Try.results91, go_sem, k0, k1, k2, k3, k4, k5, k6, OutD.v]
  rw [hW]
  exact gb_outs G (by first | exact Nat.le_refl _ | omega) _ _ _ _ _ _ _

theorem doom_f (w : World) (g : Nat) (L : Ly) (hok : L.ok) (me other : Int) (own : Bool) (m : Ct) (s n : Int) (l : List (Int × Bool)) (h0 : RunAt w g ((n, false) :: l)) (hs : I64 s) (hk : s % 4 = 1) :
    Calls Try.prog 91 #[caseV L me other own m, .pointer (some ⟨g, 0, none⟩), .int .i64 s] w fun e w' => e = .returned (OutD.v { val := 0 }) ∧ w.grownBy w' (some g) := by
  unfold caseV
  have HS : Hid (∀ w, Calls Try.prog 38 #[L.v, .int .i64 other] w fun e w' => e = .returned (.int .i64 (atStatus L other)) ∧ Below w.heap.size w w') := Lib.hid (fun w => status_any L other w hok)
  unfold Ly.v at HS
  have hk1 : (s % 4 == 1) = true := by simp; omega
  have hg0 := runAt_lt h0
  have G : w.grownBy w (some g) := gb_refl _ _
  have hS0 : w.heap.size + 0 ≤ w.heap.size := Nat.le_refl _
  go_enter Try.func91, Try.ntmps91
  go_wp2_with fail
  obtain ⟨w1, hwr⟩ : ∃ W, W = ((w.alloc (.cells #[.int .i64 L.c.t, .int .i64 L.c.l, .int .i64 L.c.k, .int .i64 L.c.s, .int .i64 L.c.m, .int .i64 L.clock, .int .i64 L.stamps, .int .i64 L.log, .int .i64 L.fin, .int .i64 L.thread, .int .i64 L.lock, .int .i64 L.loc, .int .i64 L.size, .int .i64 me, .int .i64 other, .bool own, .int .i64 m.s, .int .i64 m.k, .int .i64 m.a, .func (.func 30) #[] #[]] 119)).alloc (.cells #[.int .i64 0, .int .i64 0, .int .i64 0, .int .i64 0, .bool false, .bool false, .int .i64 0] 35)) := ⟨_, rfl⟩
  rw [← hwr]
  have hb : Below w.heap.size w w1 := by rw [hwr]; exact (Below.alloc (Below.alloc (Below.refl _ _) (by first | exact Nat.le_refl _ | (simp; omega) | simp) _) (by first | exact Nat.le_refl _ | (simp; omega) | simp) _)
  have cc : CellsAt w1 (w.heap.size) [.int .i64 L.c.t, .int .i64 L.c.l, .int .i64 L.c.k, .int .i64 L.c.s, .int .i64 L.c.m, .int .i64 L.clock, .int .i64 L.stamps, .int .i64 L.log, .int .i64 L.fin, .int .i64 L.thread, .int .i64 L.lock, .int .i64 L.loc, .int .i64 L.size, .int .i64 me, .int .i64 other, .bool own, .int .i64 m.s, .int .i64 m.k, .int .i64 m.a, .func (.func 30) #[] #[]] := by rw [hwr]; exact (cellsAt_alloc (cellsAt_new' w _ _ (w.heap.size) (by simp)) _)
  have ccz : w.heap.size < w1.heap.size := World.block_lt_of_cell? _ _ (cc 0 _ rfl)
  have oz : OutZ w1 (w.heap.size + 1) := by rw [hwr]; exact (OutZ.new' (w.alloc (.cells #[.int .i64 L.c.t, .int .i64 L.c.l, .int .i64 L.c.k, .int .i64 L.c.s, .int .i64 L.c.m, .int .i64 L.clock, .int .i64 L.stamps, .int .i64 L.log, .int .i64 L.fin, .int .i64 L.thread, .int .i64 L.lock, .int .i64 L.loc, .int .i64 L.size, .int .i64 me, .int .i64 other, .bool own, .int .i64 m.s, .int .i64 m.k, .int .i64 m.a, .func (.func 30) #[] #[]] 119)) _ (w.heap.size + 1) (by simp))
  have ozz : w.heap.size + 1 < w1.heap.size := OutZ.lt oz
  have h1 := runAt_keep h0 hb
  replace G := gb_trans G (gb_of_below (some g) hb)
  clear hb hwr
  replace hS0 := G.size
  have cc_4 := cc 4 _ rfl
  have cc_13 := cc 13 _ rfl
  have cc_14 := cc 14 _ rfl
  have cc_15 := cc 15 _ rfl
  have cc_16 := cc 16 _ rfl
  have cc_17 := cc 17 _ rfl
  have cc_18 := cc 18 _ rfl
  have cc_19 := cc 19 _ rfl
  go_wp2_with (first | ((with_reducible refine ld_layT cc ?a23 ?h23); (case a23 => exact ⟨_, rfl, rfl, rfl⟩)) | ((with_reducible refine ld_case cc rfl ?a24 ?h24); (case a24 => exact ⟨_, rfl, rfl, rfl⟩)))
  ((with_reducible refine (kind_any _ _).mono ?_); rintro e w' ⟨rfl, rfl⟩)
  go_wp2_with (first | ((with_reducible refine ld_layT cc ?a25 ?h25); (case a25 => exact ⟨_, rfl, rfl, rfl⟩)) | ((with_reducible refine ld_case cc rfl ?a26 ?h26); (case a26 => exact ⟨_, rfl, rfl, rfl⟩)))
  ((with_reducible refine (try_any _ hs _).mono ?_); rintro e w' ⟨rfl, rfl⟩)
  go_wp2_with (first | ((with_reducible refine ld_layT cc ?a27 ?h27); (case a27 => exact ⟨_, rfl, rfl, rfl⟩)) | ((with_reducible refine ld_case cc rfl ?a28 ?h28); (case a28 => exact ⟨_, rfl, rfl, rfl⟩)))
  ((with_reducible refine (wstatus_any _ _ _).mono ?_); rintro e w' ⟨rfl, rfl⟩)
  go_wp2_with (first | ((with_reducible refine ld_layT cc ?a29 ?h29); (case a29 => exact ⟨_, rfl, rfl, rfl⟩)) | ((with_reducible refine ld_case cc rfl ?a30 ?h30); (case a30 => exact ⟨_, rfl, rfl, rfl⟩)))
  ((with_reducible refine (HS.out _).mono ?_); rintro e w2 ⟨rfl, hb⟩)
  clear cc_4 cc_13 cc_14 cc_15 cc_16 cc_17 cc_18 cc_19
  have hsz := hb.size
  (try simp at hsz)
  replace cc := cellsAt_keep cc hb
  replace oz := OutZ.below oz hb
  replace ccz : w.heap.size < w2.heap.size := by omega
  replace ozz : w.heap.size + 1 < w2.heap.size := by omega
  have h2 := runAt_keep h1 hb
  replace G := gb_trans G (gb_of_below (some g) hb)
  clear hb hsz
  replace hS0 := G.size
  have cc_4 := cc 4 _ rfl
  have cc_13 := cc 13 _ rfl
  have cc_14 := cc 14 _ rfl
  have cc_15 := cc 15 _ rfl
  have cc_16 := cc 16 _ rfl
  have cc_17 := cc 17 _ rfl
  have cc_18 := cc 18 _ rfl
  have cc_19 := cc 19 _ rfl
  go_wp2_with (first | ((with_reducible refine ld_layT cc ?a31 ?h31); (case a31 => exact ⟨_, rfl, rfl, rfl⟩)) | ((with_reducible refine ld_case cc rfl ?a32 ?h32); (case a32 => exact ⟨_, rfl, rfl, rfl⟩)))
  ((with_reducible refine (swap_some _ g _ _ _ _ _ h2).mono ?_); rintro e w3 ⟨rfl, h3, hb⟩)
  clear cc_4 cc_13 cc_14 cc_15 cc_16 cc_17 cc_18 cc_19
  have hsz := hb.size
  (try simp at hsz)
  replace cc := cellsAt_gb cc hb (by omega)
  replace oz := OutZ.gb oz hb (by omega)
  replace ccz : w.heap.size < w3.heap.size := by omega
  replace ozz : w.heap.size + 1 < w3.heap.size := by omega
  replace G := gb_trans G hb
  clear hb hsz
  replace hS0 := G.size
  have cc_4 := cc 4 _ rfl
  have cc_13 := cc 13 _ rfl
  have cc_14 := cc 14 _ rfl
  have cc_15 := cc 15 _ rfl
  have cc_16 := cc 16 _ rfl
  have cc_17 := cc 17 _ rfl
  have cc_18 := cc 18 _ rfl
  have cc_19 := cc 19 _ rfl
  have oq0 := oz.c0
  have oq1 := oz.c1
  have oq2 := oz.c2
  have oq3 := oz.c3
  have oq4 := oz.c4
  have oq5 := oz.c5
  have oq6 := oz.c6
  have of := oz.fr
  go_wp2_with (first | ((with_reducible refine ld_layT cc ?a33 ?h33); (case a33 => exact ⟨_, rfl, rfl, rfl⟩)) | ((with_reducible refine ld_case cc rfl ?a34 ?h34); (case a34 => exact ⟨_, rfl, rfl, rfl⟩)))
  obtain ⟨W, hW, k0, k1, k2, k3, k4, k5, k6⟩ := outs_at oz (.int .i64 (0)) (.int .i64 (0)) (.int .i64 (0)) (.int .i64 (0)) (.bool false) (.bool false) (.int .i64 (0))
  rw [← hW]
  simp [bodyPost, results, Try.results91, go_sem, k0, k1, k2, k3, k4, k5, k6, OutD.v]
  rw [hW]
  exact gb_outs G (by first | exact Nat.le_refl _ | omega) _ _ _ _ _ _ _

theorem doom_3 (w : World) (g : Nat) (L : Ly) (hok : L.ok) (me other : Int) (own : Bool) (m : Ct) (s : Int) (l : List (Int × Bool)) (h0 : RunAt w g l) (hk : s % 4 = 3) :
    Calls Try.prog 91 #[caseV L me other own m, .pointer (some ⟨g, 0, none⟩), .int .i64 s] w fun e w' => e = .returned (OutD.v { val := 2 }) ∧ w.grownBy w' (some g) := by
  unfold caseV
  have hk1 : (s % 4 == 1) = false := by simp; omega
  have hk3 : (s % 4 == 3) = true := by simp; omega
  have hg0 := runAt_lt h0
  have G : w.grownBy w (some g) := gb_refl _ _
  have hS0 : w.heap.size + 0 ≤ w.heap.size := Nat.le_refl _
  go_enter Try.func91, Try.ntmps91
  go_wp2_with fail
  obtain ⟨w1, hwr⟩ : ∃ W, W = ((w.alloc (.cells #[.int .i64 L.c.t, .int .i64 L.c.l, .int .i64 L.c.k, .int .i64 L.c.s, .int .i64 L.c.m, .int .i64 L.clock, .int .i64 L.stamps, .int .i64 L.log, .int .i64 L.fin, .int .i64 L.thread, .int .i64 L.lock, .int .i64 L.loc, .int .i64 L.size, .int .i64 me, .int .i64 other, .bool own, .int .i64 m.s, .int .i64 m.k, .int .i64 m.a, .func (.func 30) #[] #[]] 119)).alloc (.cells #[.int .i64 0, .int .i64 0, .int .i64 0, .int .i64 0, .bool false, .bool false, .int .i64 0] 35)) := ⟨_, rfl⟩
  rw [← hwr]
  have hb : Below w.heap.size w w1 := by rw [hwr]; exact (Below.alloc (Below.alloc (Below.refl _ _) (by first | exact Nat.le_refl _ | (simp; omega) | simp) _) (by first | exact Nat.le_refl _ | (simp; omega) | simp) _)
  have cc : CellsAt w1 (w.heap.size) [.int .i64 L.c.t, .int .i64 L.c.l, .int .i64 L.c.k, .int .i64 L.c.s, .int .i64 L.c.m, .int .i64 L.clock, .int .i64 L.stamps, .int .i64 L.log, .int .i64 L.fin, .int .i64 L.thread, .int .i64 L.lock, .int .i64 L.loc, .int .i64 L.size, .int .i64 me, .int .i64 other, .bool own, .int .i64 m.s, .int .i64 m.k, .int .i64 m.a, .func (.func 30) #[] #[]] := by rw [hwr]; exact (cellsAt_alloc (cellsAt_new' w _ _ (w.heap.size) (by simp)) _)
  have ccz : w.heap.size < w1.heap.size := World.block_lt_of_cell? _ _ (cc 0 _ rfl)
  have oz : OutZ w1 (w.heap.size + 1) := by rw [hwr]; exact (OutZ.new' (w.alloc (.cells #[.int .i64 L.c.t, .int .i64 L.c.l, .int .i64 L.c.k, .int .i64 L.c.s, .int .i64 L.c.m, .int .i64 L.clock, .int .i64 L.stamps, .int .i64 L.log, .int .i64 L.fin, .int .i64 L.thread, .int .i64 L.lock, .int .i64 L.loc, .int .i64 L.size, .int .i64 me, .int .i64 other, .bool own, .int .i64 m.s, .int .i64 m.k, .int .i64 m.a, .func (.func 30) #[] #[]] 119)) _ (w.heap.size + 1) (by simp))
  have ozz : w.heap.size + 1 < w1.heap.size := OutZ.lt oz
  have h1 := runAt_keep h0 hb
  replace G := gb_trans G (gb_of_below (some g) hb)
  clear hb hwr
  replace hS0 := G.size
  have cc_4 := cc 4 _ rfl
  have cc_13 := cc 13 _ rfl
  have cc_14 := cc 14 _ rfl
  have cc_15 := cc 15 _ rfl
  have cc_16 := cc 16 _ rfl
  have cc_17 := cc 17 _ rfl
  have cc_18 := cc 18 _ rfl
  have cc_19 := cc 19 _ rfl
  go_wp2_with (first | ((with_reducible refine ld_layT cc ?a35 ?h35); (case a35 => exact ⟨_, rfl, rfl, rfl⟩)) | ((with_reducible refine ld_case cc rfl ?a36 ?h36); (case a36 => exact ⟨_, rfl, rfl, rfl⟩)))
  ((with_reducible refine (kind_any _ _).mono ?_); rintro e w' ⟨rfl, rfl⟩)
  have oq0 := oz.c0
  have oq1 := oz.c1
  have oq2 := oz.c2
  have oq3 := oz.c3
  have oq4 := oz.c4
  have oq5 := oz.c5
  have oq6 := oz.c6
  have of := oz.fr
  go_wp2_with (first | ((with_reducible refine ld_layT cc ?a37 ?h37); (case a37 => exact ⟨_, rfl, rfl, rfl⟩)) | ((with_reducible refine ld_case cc rfl ?a38 ?h38); (case a38 => exact ⟨_, rfl, rfl, rfl⟩)))
  obtain ⟨W, hW, k0, k1, k2, k3, k4, k5, k6⟩ := outs_at oz (.int .i64 (2)) (.int .i64 (0)) (.int .i64 (0)) (.int .i64 (0)) (.bool false) (.bool false) (.int .i64 (0))
  rw [← hW]
  simp [bodyPost, results, Try.results91, go_sem, k0, k1, k2, k3, k4, k5, k6, OutD.v]
  rw [hW]
  exact gb_outs G (by first | exact Nat.le_refl _ | omega) _ _ _ _ _ _ _

theorem doom_2 (w : World) (g : Nat) (L : Ly) (hok : L.ok) (me other : Int) (own : Bool) (m : Ct) (s : Int) (l : List (Int × Bool)) (h0 : RunAt w g l) (hk : ¬s % 4 = 1) (hq : ¬s % 4 = 3) :
    Calls Try.prog 91 #[caseV L me other own m, .pointer (some ⟨g, 0, none⟩), .int .i64 s] w fun e w' => e = .returned (OutD.v { val := 3 }) ∧ w.grownBy w' (some g) := by
  unfold caseV
  have hk1 : (s % 4 == 1) = false := by simp; omega
  have hk3 : (s % 4 == 3) = false := by simp; omega
  have hg0 := runAt_lt h0
  have G : w.grownBy w (some g) := gb_refl _ _
  have hS0 : w.heap.size + 0 ≤ w.heap.size := Nat.le_refl _
  go_enter Try.func91, Try.ntmps91
  go_wp2_with fail
  obtain ⟨w1, hwr⟩ : ∃ W, W = ((w.alloc (.cells #[.int .i64 L.c.t, .int .i64 L.c.l, .int .i64 L.c.k, .int .i64 L.c.s, .int .i64 L.c.m, .int .i64 L.clock, .int .i64 L.stamps, .int .i64 L.log, .int .i64 L.fin, .int .i64 L.thread, .int .i64 L.lock, .int .i64 L.loc, .int .i64 L.size, .int .i64 me, .int .i64 other, .bool own, .int .i64 m.s, .int .i64 m.k, .int .i64 m.a, .func (.func 30) #[] #[]] 119)).alloc (.cells #[.int .i64 0, .int .i64 0, .int .i64 0, .int .i64 0, .bool false, .bool false, .int .i64 0] 35)) := ⟨_, rfl⟩
  rw [← hwr]
  have hb : Below w.heap.size w w1 := by rw [hwr]; exact (Below.alloc (Below.alloc (Below.refl _ _) (by first | exact Nat.le_refl _ | (simp; omega) | simp) _) (by first | exact Nat.le_refl _ | (simp; omega) | simp) _)
  have cc : CellsAt w1 (w.heap.size) [.int .i64 L.c.t, .int .i64 L.c.l, .int .i64 L.c.k, .int .i64 L.c.s, .int .i64 L.c.m, .int .i64 L.clock, .int .i64 L.stamps, .int .i64 L.log, .int .i64 L.fin, .int .i64 L.thread, .int .i64 L.lock, .int .i64 L.loc, .int .i64 L.size, .int .i64 me, .int .i64 other, .bool own, .int .i64 m.s, .int .i64 m.k, .int .i64 m.a, .func (.func 30) #[] #[]] := by rw [hwr]; exact (cellsAt_alloc (cellsAt_new' w _ _ (w.heap.size) (by simp)) _)
  have ccz : w.heap.size < w1.heap.size := World.block_lt_of_cell? _ _ (cc 0 _ rfl)
  have oz : OutZ w1 (w.heap.size + 1) := by rw [hwr]; exact (OutZ.new' (w.alloc (.cells #[.int .i64 L.c.t, .int .i64 L.c.l, .int .i64 L.c.k, .int .i64 L.c.s, .int .i64 L.c.m, .int .i64 L.clock, .int .i64 L.stamps, .int .i64 L.log, .int .i64 L.fin, .int .i64 L.thread, .int .i64 L.lock, .int .i64 L.loc, .int .i64 L.size, .int .i64 me, .int .i64 other, .bool own, .int .i64 m.s, .int .i64 m.k, .int .i64 m.a, .func (.func 30) #[] #[]] 119)) _ (w.heap.size + 1) (by simp))
  have ozz : w.heap.size + 1 < w1.heap.size := OutZ.lt oz
  have h1 := runAt_keep h0 hb
  replace G := gb_trans G (gb_of_below (some g) hb)
  clear hb hwr
  replace hS0 := G.size
  have cc_4 := cc 4 _ rfl
  have cc_13 := cc 13 _ rfl
  have cc_14 := cc 14 _ rfl
  have cc_15 := cc 15 _ rfl
  have cc_16 := cc 16 _ rfl
  have cc_17 := cc 17 _ rfl
  have cc_18 := cc 18 _ rfl
  have cc_19 := cc 19 _ rfl
  go_wp2_with (first | ((with_reducible refine ld_layT cc ?a39 ?h39); (case a39 => exact ⟨_, rfl, rfl, rfl⟩)) | ((with_reducible refine ld_case cc rfl ?a40 ?h40); (case a40 => exact ⟨_, rfl, rfl, rfl⟩)))
  ((with_reducible refine (kind_any _ _).mono ?_); rintro e w' ⟨rfl, rfl⟩)
  have oq0 := oz.c0
  have oq1 := oz.c1
  have oq2 := oz.c2
  have oq3 := oz.c3
  have oq4 := oz.c4
  have oq5 := oz.c5
  have oq6 := oz.c6
  have of := oz.fr
  go_wp2_with (first | ((with_reducible refine ld_layT cc ?a41 ?h41); (case a41 => exact ⟨_, rfl, rfl, rfl⟩)) | ((with_reducible refine ld_case cc rfl ?a42 ?h42); (case a42 => exact ⟨_, rfl, rfl, rfl⟩)))
  obtain ⟨W, hW, k0, k1, k2, k3, k4, k5, k6⟩ := outs_at oz (.int .i64 (3)) (.int .i64 (0)) (.int .i64 (0)) (.int .i64 (0)) (.bool false) (.bool false) (.int .i64 (0))
  rw [← hW]
  simp [bodyPost, results, Try.results91, go_sem, k0, k1, k2, k3, k4, k5, k6, OutD.v]
  rw [hW]
  exact gb_outs G (by first | exact Nat.le_refl _ | omega) _ _ _ _ _ _ _

theorem doom_any (w : World) (g : Nat) (L : Ly) (hok : L.ok) (me other : Int) (own : Bool) (m : Ct) (s : Int) (hs : I64 s) (l : List (Int × Bool)) (h0 : RunAt w g l) :
    Calls Try.prog 91 #[caseV L me other own m, .pointer (some ⟨g, 0, none⟩), .int .i64 s] w (OpPost ((doomT L other s).run l) g w) := by
  by_cases hk : s % 4 = 1
  · match l, h0 with
    | [], h0 =>
      have e : (doomT L other s).run [] = .inl ⟨3, atStatus L other, s, wrap64 (4 * (s / 4) + 3)⟩ := by unfold doomT; rw [if_pos hk]; rfl
      rw [e]; exact doom_1 w g L hok me other own m s h0 hs hk
    | (n, true) :: l, h0 =>
      have e : (doomT L other s).run ((n, true) :: l) = .inr { val := 2 } := by unfold doomT; rw [if_pos hk]; rfl
      rw [e]; exact doom_t w g L hok me other own m s n l h0 hs hk
    | (n, false) :: l, h0 =>
      have e : (doomT L other s).run ((n, false) :: l) = .inr { val := 0 } := by unfold doomT; rw [if_pos hk]; rfl
      rw [e]; exact doom_f w g L hok me other own m s n l h0 hs hk
  · by_cases hq : s % 4 = 3
    · have e : (doomT L other s).run l = .inr { val := 2 } := by unfold doomT; rw [if_neg hk, if_pos hq]; cases l <;> rfl
      rw [e]; exact doom_3 w g L hok me other own m s l h0 hq
    · have e : (doomT L other s).run l = .inr { val := 3 } := by unfold doomT; rw [if_neg hk, if_neg hq]; cases l <;> rfl
      rw [e]; exact doom_2 w g L hok me other own m s l h0 hk hq

end Go.Proofs.Ytaclnaedinfhmaa
