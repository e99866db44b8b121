
/-
  Layer 17: the reference's conflict resolution over its run of accesses, as the same tree.
-/
import Derived.Test.YtaclnaedinfhmaaRows
import Derived.Test.YtaclnaedinfhmaaBase
import Derived.Test.YtaclnaedinfhmaaAux
import Derived.Test.YtaclnaedinfhmaaWord2
import Derived.Test.YtaclnaedinfhmaaLayA
import Derived.Test.YtaclnaedinfhmaaStepC
import Derived.Test.YtaclnaedinfhmaaStepD
import Derived.Test.YtaclnaedinfhmaaTake
import Derived.Test.YtaclnaedinfhmaaStepF
import Derived.Test.YtaclnaedinfhmaaMgrA
import Derived.Test.YtaclnaedinfhmaaMgrB
import Derived.Test.YtaclnaedinfhmaaCurA
import Derived.Test.YtaclnaedinfhmaaCurB
import Derived.Test.YtaclnaedinfhmaaCurC
import Derived.WalkKit
import Derived.WalkLawsBesides
import Derived.Lib.Hide
namespace Go.Proofs.Ytaclnaedinfhmaa
set_option linter.unusedVariables false
set_option linter.unusedSimpArgs false
set_option maxRecDepth 100000
set_option maxHeartbeats 4000000
open Go.ChangeShapes Go.WideShapes Go.ChangeAt Go.RowKit

theorem ask_own3 (w : World) (g : Nat) (L : Ly) (hok : L.ok) (me other : Int) (m : Ct) (c0 : CSt) (h0 : CurAt w g c0) (r0 : Int) (b0 : Bool) (ca : CSt) (eca : cdo c0 ⟨1, atStatus L me, 0, 0⟩ = ((r0, b0), ca)) (ho : r0 % 4 = 3) :
    Calls Try.prog 63 #[.pointer (some ⟨g, 0, none⟩), L.v, .int .i64 me, .int .i64 other, .bool true, m.v] w fun e w' => e = .returned (.tuple #[.int .i64 1, .bool true]) ∧ CurAt w' g ca ∧ w.grownBy w' (some g) := by
  have HS : Hid (∀ w, Calls Try.prog 62 #[L.v, .int .i64 other] w fun e w' => e = .returned (.int .i64 (atStatus L other)) ∧ Below w.heap.size w w') := Lib.hid (fun w => rstatus_any L other w hok)
  have HM : Hid (∀ w, Calls Try.prog 62 #[L.v, .int .i64 me] w fun e w' => e = .returned (.int .i64 (atStatus L me)) ∧ Below w.heap.size w w') := Lib.hid (fun w => rstatus_any L me w hok)
  have HL0 : Hid (∀ w, CurAt w g c0 → Calls Try.prog 78 #[.pointer (some ⟨g, 0, none⟩), .int .i64 (atStatus L me)] w fun e w' => e = .returned (.int .i64 r0) ∧ CurAt w' g ca ∧ w.grownBy w' (some g)) := Lib.hid (fun w h => by have := rload_any02 w g c0 (atStatus L me) h; rw [eca] at this; exact this)
  have q0 : (r0 % 4 == 3) = true := by simp [ho]
  unfold Ly.v at HS HM ⊢
  unfold Ct.v
  have hg0 := curAt_lt h0
  have G : w.grownBy w (some g) := gb_refl _ _
  have hS0 : w.heap.size + 0 ≤ w.heap.size := Nat.le_refl _
  go_enter Try.func63, Try.ntmps63
  go_wp2_with fail
  obtain ⟨w1, hwr⟩ : ∃ W, W = ((w.alloc (.cells #[.int .i64 L.c.t, .int .i64 L.c.l, .int .i64 L.c.k, .int .i64 L.c.s, .int .i64 L.c.m, .int .i64 L.clock, .int .i64 L.stamps, .int .i64 L.log, .int .i64 L.fin, .int .i64 L.thread, .int .i64 L.lock, .int .i64 L.loc, .int .i64 L.size] 41)).alloc (.cells #[.int .i64 m.s, .int .i64 m.k, .int .i64 m.a] 23)) := ⟨_, rfl⟩
  rw [← hwr]
  have hb : Below w.heap.size w w1 := by rw [hwr]; exact (Below.alloc (Below.alloc (Below.refl _ _) (by first | exact Nat.le_refl _ | (simp; omega) | simp) _) (by first | exact Nat.le_refl _ | (simp; omega) | simp) _)
  have ll : CellsAt w1 (w.heap.size) [.int .i64 L.c.t, .int .i64 L.c.l, .int .i64 L.c.k, .int .i64 L.c.s, .int .i64 L.c.m, .int .i64 L.clock, .int .i64 L.stamps, .int .i64 L.log, .int .i64 L.fin, .int .i64 L.thread, .int .i64 L.lock, .int .i64 L.loc, .int .i64 L.size] := by rw [hwr]; exact (cellsAt_alloc (cellsAt_new' w _ _ (w.heap.size) (by simp)) _)
  have llz : w.heap.size < w1.heap.size := World.block_lt_of_cell? _ _ (ll 0 _ rfl)
  have mm : CellsAt w1 (w.heap.size + 1) [.int .i64 m.s, .int .i64 m.k, .int .i64 m.a] := by rw [hwr]; exact (cellsAt_new' (w.alloc (.cells #[.int .i64 L.c.t, .int .i64 L.c.l, .int .i64 L.c.k, .int .i64 L.c.s, .int .i64 L.c.m, .int .i64 L.clock, .int .i64 L.stamps, .int .i64 L.log, .int .i64 L.fin, .int .i64 L.thread, .int .i64 L.lock, .int .i64 L.loc, .int .i64 L.size] 41)) _ _ (w.heap.size + 1) (by simp))
  have mmz : w.heap.size + 1 < w1.heap.size := World.block_lt_of_cell? _ _ (mm 0 _ rfl)
  have h1 := curAt_keep h0 hb
  replace G := gb_trans G (gb_of_below (some g) hb)
  clear hb hwr
  replace hS0 := G.size
  have ll_4 := ll 4 _ rfl
  have mm_0 := mm 0 _ rfl
  have mm_1 := mm 1 _ rfl
  have mm_2 := mm 2 _ rfl
  go_wp2_with (first | ((with_reducible refine ld_lay ll rfl ?a1 ?h1); (case a1 => exact ⟨_, rfl, rfl, rfl⟩)))
  ((with_reducible refine (HM.out _).mono ?_); rintro e w2 ⟨rfl, hb⟩)
  clear ll_4
  clear mm_0 mm_1 mm_2
  have hsz := hb.size
  (try simp at hsz)
  replace ll := cellsAt_keep ll hb
  replace mm := cellsAt_keep mm hb
  replace llz : w.heap.size < w2.heap.size := by omega
  replace mmz : w.heap.size + 1 < w2.heap.size := by omega
  have h2 := curAt_keep h1 hb
  replace G := gb_trans G (gb_of_below (some g) hb)
  clear hb hsz
  replace hS0 := G.size
  have ll_4 := ll 4 _ rfl
  have mm_0 := mm 0 _ rfl
  have mm_1 := mm 1 _ rfl
  have mm_2 := mm 2 _ rfl
  go_wp2_with (first | ((with_reducible refine ld_lay ll rfl ?a2 ?h2); (case a2 => exact ⟨_, rfl, rfl, rfl⟩)))
  ((with_reducible refine (HL0.out _ h2).mono ?_); rintro e w3 ⟨rfl, h3, hb⟩)
  clear ll_4
  clear mm_0 mm_1 mm_2
  have hsz := hb.size
  (try simp at hsz)
  replace ll := cellsAt_gb ll hb (by omega)
  replace mm := cellsAt_gb mm hb (by omega)
  replace llz : w.heap.size < w3.heap.size := by omega
  replace mmz : w.heap.size + 1 < w3.heap.size := by omega
  replace G := gb_trans G hb
  clear hb hsz
  replace hS0 := G.size
  have ll_4 := ll 4 _ rfl
  have mm_0 := mm 0 _ rfl
  have mm_1 := mm 1 _ rfl
  have mm_2 := mm 2 _ rfl
  go_wp2_with (first | ((with_reducible refine ld_lay ll rfl ?a3 ?h3); (case a3 => exact ⟨_, rfl, rfl, rfl⟩)))
  ((with_reducible refine (rkind_any _ _).mono ?_); rintro e w' ⟨rfl, rfl⟩)
  go_wp2_with (first | ((with_reducible refine ld_lay ll rfl ?a4 ?h4); (case a4 => exact ⟨_, rfl, rfl, rfl⟩)))
  go_ret2
  exact ⟨rfl, h3, G⟩

theorem ask_f_idle (w : World) (g : Nat) (L : Ly) (hok : L.ok) (me other : Int) (m : Ct) (c0 : CSt) (h0 : CurAt w g c0) (s : Int) (b1 : Bool) (c1 : CSt) (ec1 : cdo c0 ⟨1, atStatus L other, 0, 0⟩ = ((s, b1), c1)) (hs : s % 4 = 0) :
    Calls Try.prog 63 #[.pointer (some ⟨g, 0, none⟩), L.v, .int .i64 me, .int .i64 other, .bool false, m.v] w fun e w' => e = .returned (.tuple #[.int .i64 0, .bool false]) ∧ CurAt w' g c1 ∧ w.grownBy w' (some g) := by
  have HS : Hid (∀ w, Calls Try.prog 62 #[L.v, .int .i64 other] w fun e w' => e = .returned (.int .i64 (atStatus L other)) ∧ Below w.heap.size w w') := Lib.hid (fun w => rstatus_any L other w hok)
  have HL1 : Hid (∀ w, CurAt w g c0 → Calls Try.prog 78 #[.pointer (some ⟨g, 0, none⟩), .int .i64 (atStatus L other)] w fun e w' => e = .returned (.int .i64 s) ∧ CurAt w' g c1 ∧ w.grownBy w' (some g)) := Lib.hid (fun w h => by have := rload_any02 w g c0 (atStatus L other) h; rw [ec1] at this; exact this)
  have q1 : (s % 4 == 0) = true := by simp [hs]
  unfold Ly.v at HS ⊢
  unfold Ct.v
  have hg0 := curAt_lt h0
  have G : w.grownBy w (some g) := gb_refl _ _
  have hS0 : w.heap.size + 0 ≤ w.heap.size := Nat.le_refl _
  go_enter Try.func63, Try.ntmps63
  go_wp2_with fail
  obtain ⟨w1, hwr⟩ : ∃ W, W = ((w.alloc (.cells #[.int .i64 L.c.t, .int .i64 L.c.l, .int .i64 L.c.k, .int .i64 L.c.s, .int .i64 L.c.m, .int .i64 L.clock, .int .i64 L.stamps, .int .i64 L.log, .int .i64 L.fin, .int .i64 L.thread, .int .i64 L.lock, .int .i64 L.loc, .int .i64 L.size] 41)).alloc (.cells #[.int .i64 m.s, .int .i64 m.k, .int .i64 m.a] 23)) := ⟨_, rfl⟩
  rw [← hwr]
  have hb : Below w.heap.size w w1 := by rw [hwr]; exact (Below.alloc (Below.alloc (Below.refl _ _) (by first | exact Nat.le_refl _ | (simp; omega) | simp) _) (by first | exact Nat.le_refl _ | (simp; omega) | simp) _)
  have ll : CellsAt w1 (w.heap.size) [.int .i64 L.c.t, .int .i64 L.c.l, .int .i64 L.c.k, .int .i64 L.c.s, .int .i64 L.c.m, .int .i64 L.clock, .int .i64 L.stamps, .int .i64 L.log, .int .i64 L.fin, .int .i64 L.thread, .int .i64 L.lock, .int .i64 L.loc, .int .i64 L.size] := by rw [hwr]; exact (cellsAt_alloc (cellsAt_new' w _ _ (w.heap.size) (by simp)) _)
  have llz : w.heap.size < w1.heap.size := World.block_lt_of_cell? _ _ (ll 0 _ rfl)
  have mm : CellsAt w1 (w.heap.size + 1) [.int .i64 m.s, .int .i64 m.k, .int .i64 m.a] := by rw [hwr]; exact (cellsAt_new' (w.alloc (.cells #[.int .i64 L.c.t, .int .i64 L.c.l, .int .i64 L.c.k, .int .i64 L.c.s, .int .i64 L.c.m, .int .i64 L.clock, .int .i64 L.stamps, .int .i64 L.log, .int .i64 L.fin, .int .i64 L.thread, .int .i64 L.lock, .int .i64 L.loc, .int .i64 L.size] 41)) _ _ (w.heap.size + 1) (by simp))
  have mmz : w.heap.size + 1 < w1.heap.size := World.block_lt_of_cell? _ _ (mm 0 _ rfl)
  have h1 := curAt_keep h0 hb
  replace G := gb_trans G (gb_of_below (some g) hb)
  clear hb hwr
  replace hS0 := G.size
  have ll_4 := ll 4 _ rfl
  have mm_0 := mm 0 _ rfl
  have mm_1 := mm 1 _ rfl
  have mm_2 := mm 2 _ rfl
  go_wp2_with (first | ((with_reducible refine ld_lay ll rfl ?a5 ?h5); (case a5 => exact ⟨_, rfl, rfl, rfl⟩)))
  ((with_reducible refine (HS.out _).mono ?_); rintro e w2 ⟨rfl, hb⟩)
  clear ll_4
  clear mm_0 mm_1 mm_2
  have hsz := hb.size
  (try simp at hsz)
  replace ll := cellsAt_keep ll hb
  replace mm := cellsAt_keep mm hb
  replace llz : w.heap.size < w2.heap.size := by omega
  replace mmz : w.heap.size + 1 < w2.heap.size := by omega
  have h2 := curAt_keep h1 hb
  replace G := gb_trans G (gb_of_below (some g) hb)
  clear hb hsz
  replace hS0 := G.size
  have ll_4 := ll 4 _ rfl
  have mm_0 := mm 0 _ rfl
  have mm_1 := mm 1 _ rfl
  have mm_2 := mm 2 _ rfl
  go_wp2_with (first | ((with_reducible refine ld_lay ll rfl ?a6 ?h6); (case a6 => exact ⟨_, rfl, rfl, rfl⟩)))
  ((with_reducible refine (HL1.out _ h2).mono ?_); rintro e w3 ⟨rfl, h3, hb⟩)
  clear ll_4
  clear mm_0 mm_1 mm_2
  have hsz := hb.size
  (try simp at hsz)
  replace ll := cellsAt_gb ll hb (by omega)
  replace mm := cellsAt_gb mm hb (by omega)
  replace llz : w.heap.size < w3.heap.size := by omega
  replace mmz : w.heap.size + 1 < w3.heap.size := by omega
  replace G := gb_trans G hb
  clear hb hsz
  replace hS0 := G.size
  have ll_4 := ll 4 _ rfl
  have mm_0 := mm 0 _ rfl
  have mm_1 := mm 1 _ rfl
  have mm_2 := mm 2 _ rfl
  go_wp2_with (first | ((with_reducible refine ld_lay ll rfl ?a7 ?h7); (case a7 => exact ⟨_, rfl, rfl, rfl⟩)))
  ((with_reducible refine (rkind_any _ _).mono ?_); rintro e w' ⟨rfl, rfl⟩)
  go_wp2_with (first | ((with_reducible refine ld_lay ll rfl ?a8 ?h8); (case a8 => exact ⟨_, rfl, rfl, rfl⟩)))
  go_ret2
  exact ⟨rfl, h3, G⟩

theorem ask_f_abort (w : World) (g : Nat) (L : Ly) (hok : L.ok) (me other : Int) (m : Ct) (c0 : CSt) (h0 : CurAt w g c0) (s : Int) (b1 : Bool) (c1 : CSt) (ec1 : cdo c0 ⟨1, atStatus L other, 0, 0⟩ = ((s, b1), c1)) (hs : ¬s % 4 = 0) (hi : I64 s) (x : Int) (b2 : Bool) (c2 : CSt) (ec2 : cdo c1 ⟨1, atStamp L other, 0, 0⟩ = ((x, b2), c2)) (y : Int) (b3 : Bool) (c3 : CSt) (ec3 : cdo c2 ⟨1, atKarma L other, 0, 0⟩ = ((y, b3), c3)) (hv : chooseD L.c.m m ⟨x, y, s / 4⟩ = 1) :
    Calls Try.prog 63 #[.pointer (some ⟨g, 0, none⟩), L.v, .int .i64 me, .int .i64 other, .bool false, m.v] w fun e w' => e = .returned (.tuple #[.int .i64 1, .bool false]) ∧ CurAt w' g c3 ∧ w.grownBy w' (some g) := by
  have HS : Hid (∀ w, Calls Try.prog 62 #[L.v, .int .i64 other] w fun e w' => e = .returned (.int .i64 (atStatus L other)) ∧ Below w.heap.size w w') := Lib.hid (fun w => rstatus_any L other w hok)
  have HL1 : Hid (∀ w, CurAt w g c0 → Calls Try.prog 78 #[.pointer (some ⟨g, 0, none⟩), .int .i64 (atStatus L other)] w fun e w' => e = .returned (.int .i64 s) ∧ CurAt w' g c1 ∧ w.grownBy w' (some g)) := Lib.hid (fun w h => by have := rload_any02 w g c0 (atStatus L other) h; rw [ec1] at this; exact this)
  have q1 : (s % 4 == 0) = false := by simp [hs]
  have HT : Hid (∀ w, Calls Try.prog 94 #[L.v, .int .i64 other] w fun e w' => e = .returned (.int .i64 (atStamp L other)) ∧ Below w.heap.size w w') := Lib.hid (fun w => rstamp_any L other w hok)
  have HK : Hid (∀ w, Calls Try.prog 95 #[L.v, .int .i64 other] w fun e w' => e = .returned (.int .i64 (atKarma L other)) ∧ Below w.heap.size w w') := Lib.hid (fun w => rkarma_any L other w hok)
  have HL2 : Hid (∀ w, CurAt w g c1 → Calls Try.prog 78 #[.pointer (some ⟨g, 0, none⟩), .int .i64 (atStamp L other)] w fun e w' => e = .returned (.int .i64 x) ∧ CurAt w' g c2 ∧ w.grownBy w' (some g)) := Lib.hid (fun w h => by have := rload_any02 w g c1 (atStamp L other) h; rw [ec2] at this; exact this)
  have HL3 : Hid (∀ w, CurAt w g c2 → Calls Try.prog 78 #[.pointer (some ⟨g, 0, none⟩), .int .i64 (atKarma L other)] w fun e w' => e = .returned (.int .i64 y) ∧ CurAt w' g c3 ∧ w.grownBy w' (some g)) := Lib.hid (fun w h => by have := rload_any02 w g c2 (atKarma L other) h; rw [ec3] at this; exact this)
  have HC : Hid (∀ w, Calls Try.prog 31 #[.int .i64 L.c.m, m.v, Ct.v ⟨x, y, s / 4⟩] w fun e w' => e = .returned (.int .i64 1) ∧ Below w.heap.size w w') := Lib.hid (fun w => by have := rchoose_any L.c.m m ⟨x, y, s / 4⟩ w; rwa [hv] at this)
  unfold Ct.v at HC
  unfold Ly.v at HS HT HK ⊢
  unfold Ct.v
  have hg0 := curAt_lt h0
  have G : w.grownBy w (some g) := gb_refl _ _
  have hS0 : w.heap.size + 0 ≤ w.heap.size := Nat.le_refl _
  go_enter Try.func63, Try.ntmps63
  go_wp2_with fail
  obtain ⟨w1, hwr⟩ : ∃ W, W = ((w.alloc (.cells #[.int .i64 L.c.t, .int .i64 L.c.l, .int .i64 L.c.k, .int .i64 L.c.s, .int .i64 L.c.m, .int .i64 L.clock, .int .i64 L.stamps, .int .i64 L.log, .int .i64 L.fin, .int .i64 L.thread, .int .i64 L.lock, .int .i64 L.loc, .int .i64 L.size] 41)).alloc (.cells #[.int .i64 m.s, .int .i64 m.k, .int .i64 m.a] 23)) := ⟨_, rfl⟩
  rw [← hwr]
  have hb : Below w.heap.size w w1 := by rw [hwr]; exact (Below.alloc (Below.alloc (Below.refl _ _) (by first | exact Nat.le_refl _ | (simp; omega) | simp) _) (by first | exact Nat.le_refl _ | (simp; omega) | simp) _)
  have ll : CellsAt w1 (w.heap.size) [.int .i64 L.c.t, .int .i64 L.c.l, .int .i64 L.c.k, .int .i64 L.c.s, .int .i64 L.c.m, .int .i64 L.clock, .int .i64 L.stamps, .int .i64 L.log, .int .i64 L.fin, .int .i64 L.thread, .int .i64 L.lock, .int .i64 L.loc, .int .i64 L.size] := by rw [hwr]; exact (cellsAt_alloc (cellsAt_new' w _ _ (w.heap.size) (by simp)) _)
  have llz : w.heap.size < w1.heap.size := World.block_lt_of_cell? _ _ (ll 0 _ rfl)
  have mm : CellsAt w1 (w.heap.size + 1) [.int .i64 m.s, .int .i64 m.k, .int .i64 m.a] := by rw [hwr]; exact (cellsAt_new' (w.alloc (.cells #[.int .i64 L.c.t, .int .i64 L.c.l, .int .i64 L.c.k, .int .i64 L.c.s, .int .i64 L.c.m, .int .i64 L.clock, .int .i64 L.stamps, .int .i64 L.log, .int .i64 L.fin, .int .i64 L.thread, .int .i64 L.lock, .int .i64 L.loc, .int .i64 L.size] 41)) _ _ (w.heap.size + 1) (by simp))
  have mmz : w.heap.size + 1 < w1.heap.size := World.block_lt_of_cell? _ _ (mm 0 _ rfl)
  have h1 := curAt_keep h0 hb
  replace G := gb_trans G (gb_of_below (some g) hb)
  clear hb hwr
  replace hS0 := G.size
  have ll_4 := ll 4 _ rfl
  have mm_0 := mm 0 _ rfl
  have mm_1 := mm 1 _ rfl
  have mm_2 := mm 2 _ rfl
  go_wp2_with (first | ((with_reducible refine ld_lay ll rfl ?a9 ?h9); (case a9 => exact ⟨_, rfl, rfl, rfl⟩)))
  ((with_reducible refine (HS.out _).mono ?_); rintro e w2 ⟨rfl, hb⟩)
  clear ll_4
  clear mm_0 mm_1 mm_2
  have hsz := hb.size
  (try simp at hsz)
  replace ll := cellsAt_keep ll hb
  replace mm := cellsAt_keep mm hb
  replace llz : w.heap.size < w2.heap.size := by omega
  replace mmz : w.heap.size + 1 < w2.heap.size := by omega
  have h2 := curAt_keep h1 hb
  replace G := gb_trans G (gb_of_below (some g) hb)
  clear hb hsz
  replace hS0 := G.size
  have ll_4 := ll 4 _ rfl
  have mm_0 := mm 0 _ rfl
  have mm_1 := mm 1 _ rfl
  have mm_2 := mm 2 _ rfl
  go_wp2_with (first | ((with_reducible refine ld_lay ll rfl ?a10 ?h10); (case a10 => exact ⟨_, rfl, rfl, rfl⟩)))
  ((with_reducible refine (HL1.out _ h2).mono ?_); rintro e w3 ⟨rfl, h3, hb⟩)
  clear ll_4
  clear mm_0 mm_1 mm_2
  have hsz := hb.size
  (try simp at hsz)
  replace ll := cellsAt_gb ll hb (by omega)
  replace mm := cellsAt_gb mm hb (by omega)
  replace llz : w.heap.size < w3.heap.size := by omega
  replace mmz : w.heap.size + 1 < w3.heap.size := by omega
  replace G := gb_trans G hb
  clear hb hsz
  replace hS0 := G.size
  have ll_4 := ll 4 _ rfl
  have mm_0 := mm 0 _ rfl
  have mm_1 := mm 1 _ rfl
  have mm_2 := mm 2 _ rfl
  go_wp2_with (first | ((with_reducible refine ld_lay ll rfl ?a11 ?h11); (case a11 => exact ⟨_, rfl, rfl, rfl⟩)))
  ((with_reducible refine (rkind_any _ _).mono ?_); rintro e w' ⟨rfl, rfl⟩)
  go_wp2_with (first | ((with_reducible refine ld_lay ll rfl ?a12 ?h12); (case a12 => exact ⟨_, rfl, rfl, rfl⟩)))
  ((with_reducible refine (HT.out _).mono ?_); rintro e w4 ⟨rfl, hb⟩)
  clear ll_4
  clear mm_0 mm_1 mm_2
  have hsz := hb.size
  (try simp at hsz)
  replace ll := cellsAt_keep ll hb
  replace mm := cellsAt_keep mm hb
  replace llz : w.heap.size < w4.heap.size := by omega
  replace mmz : w.heap.size + 1 < w4.heap.size := by omega
  have h4 := curAt_keep h3 hb
  replace G := gb_trans G (gb_of_below (some g) hb)
  clear hb hsz
  replace hS0 := G.size
  have ll_4 := ll 4 _ rfl
  have mm_0 := mm 0 _ rfl
  have mm_1 := mm 1 _ rfl
  have mm_2 := mm 2 _ rfl
  go_wp2_with (first | ((with_reducible refine ld_lay ll rfl ?a13 ?h13); (case a13 => exact ⟨_, rfl, rfl, rfl⟩)))
  ((with_reducible refine (HL2.out _ h4).mono ?_); rintro e w5 ⟨rfl, h5, hb⟩)
  clear ll_4
  clear mm_0 mm_1 mm_2
  have hsz := hb.size
  (try simp at hsz)
  replace ll := cellsAt_gb ll hb (by omega)
  replace mm := cellsAt_gb mm hb (by omega)
  replace llz : w.heap.size < w5.heap.size := by omega
  replace mmz : w.heap.size + 1 < w5.heap.size := by omega
  replace G := gb_trans G hb
  clear hb hsz
  replace hS0 := G.size
  have ll_4 := ll 4 _ rfl
  have mm_0 := mm 0 _ rfl
  have mm_1 := mm 1 _ rfl
  have mm_2 := mm 2 _ rfl
  go_wp2_with (first | ((with_reducible refine ld_lay ll rfl ?a14 ?h14); (case a14 => exact ⟨_, rfl, rfl, rfl⟩)))
  ((with_reducible refine (HK.out _).mono ?_); rintro e w6 ⟨rfl, hb⟩)
  clear ll_4
  clear mm_0 mm_1 mm_2
  have hsz := hb.size
  (try simp at hsz)
  replace ll := cellsAt_keep ll hb
  replace mm := cellsAt_keep mm hb
  replace llz : w.heap.size < w6.heap.size := by omega
  replace mmz : w.heap.size + 1 < w6.heap.size := by omega
  have h6 := curAt_keep h5 hb
  replace G := gb_trans G (gb_of_below (some g) hb)
  clear hb hsz
  replace hS0 := G.size
  have ll_4 := ll 4 _ rfl
  have mm_0 := mm 0 _ rfl
  have mm_1 := mm 1 _ rfl
  have mm_2 := mm 2 _ rfl
  go_wp2_with (first | ((with_reducible refine ld_lay ll rfl ?a15 ?h15); (case a15 => exact ⟨_, rfl, rfl, rfl⟩)))
  ((with_reducible refine (HL3.out _ h6).mono ?_); rintro e w7 ⟨rfl, h7, hb⟩)
  clear ll_4
  clear mm_0 mm_1 mm_2
  have hsz := hb.size
  (try simp at hsz)
  replace ll := cellsAt_gb ll hb (by omega)
  replace mm := cellsAt_gb mm hb (by omega)
  replace llz : w.heap.size < w7.heap.size := by omega
  replace mmz : w.heap.size + 1 < w7.heap.size := by omega
  replace G := gb_trans G hb
  clear hb hsz
  replace hS0 := G.size
  have ll_4 := ll 4 _ rfl
  have mm_0 := mm 0 _ rfl
  have mm_1 := mm 1 _ rfl
  have mm_2 := mm 2 _ rfl
  go_wp2_with (first | ((with_reducible refine ld_lay ll rfl ?a16 ?h16); (case a16 => exact ⟨_, rfl, rfl, rfl⟩)))
  ((with_reducible refine (rtry_any _ hi _).mono ?_); rintro e w' ⟨rfl, rfl⟩)
  go_wp2_with (first | ((with_reducible refine ld_lay ll rfl ?a17 ?h17); (case a17 => exact ⟨_, rfl, rfl, rfl⟩)))
  ((with_reducible refine (HC.out _).mono ?_); rintro e w8 ⟨rfl, hb⟩)
  clear ll_4
  clear mm_0 mm_1 mm_2
  have hsz := hb.size
  (try simp at hsz)
  replace ll := cellsAt_keep ll hb
  replace mm := cellsAt_keep mm hb
  replace llz : w.heap.size < w8.heap.size := by omega
  replace mmz : w.heap.size + 1 < w8.heap.size := by omega
  have h8 := curAt_keep h7 hb
  replace G := gb_trans G (gb_of_below (some g) hb)
  clear hb hsz
  replace hS0 := G.size
  have ll_4 := ll 4 _ rfl
  have mm_0 := mm 0 _ rfl
  have mm_1 := mm 1 _ rfl
  have mm_2 := mm 2 _ rfl
  go_wp2_with (first | ((with_reducible refine ld_lay ll rfl ?a18 ?h18); (case a18 => exact ⟨_, rfl, rfl, rfl⟩)))
  go_ret2
  exact ⟨rfl, h8, G⟩

theorem ask_f_k3 (w : World) (g : Nat) (L : Ly) (hok : L.ok) (me other : Int) (m : Ct) (c0 : CSt) (h0 : CurAt w g c0) (s : Int) (b1 : Bool) (c1 : CSt) (ec1 : cdo c0 ⟨1, atStatus L other, 0, 0⟩ = ((s, b1), c1)) (hs : ¬s % 4 = 0) (hi : I64 s) (x : Int) (b2 : Bool) (c2 : CSt) (ec2 : cdo c1 ⟨1, atStamp L other, 0, 0⟩ = ((x, b2), c2)) (y : Int) (b3 : Bool) (c3 : CSt) (ec3 : cdo c2 ⟨1, atKarma L other, 0, 0⟩ = ((y, b3), c3)) (hv : chooseD L.c.m m ⟨x, y, s / 4⟩ = 2) (hk : s % 4 = 3) :
    Calls Try.prog 63 #[.pointer (some ⟨g, 0, none⟩), L.v, .int .i64 me, .int .i64 other, .bool false, m.v] w fun e w' => e = .returned (.tuple #[.int .i64 2, .bool false]) ∧ CurAt w' g c3 ∧ w.grownBy w' (some g) := by
  have HS : Hid (∀ w, Calls Try.prog 62 #[L.v, .int .i64 other] w fun e w' => e = .returned (.int .i64 (atStatus L other)) ∧ Below w.heap.size w w') := Lib.hid (fun w => rstatus_any L other w hok)
  have HL1 : Hid (∀ w, CurAt w g c0 → Calls Try.prog 78 #[.pointer (some ⟨g, 0, none⟩), .int .i64 (atStatus L other)] w fun e w' => e = .returned (.int .i64 s) ∧ CurAt w' g c1 ∧ w.grownBy w' (some g)) := Lib.hid (fun w h => by have := rload_any02 w g c0 (atStatus L other) h; rw [ec1] at this; exact this)
  have q1 : (s % 4 == 0) = false := by simp [hs]
  have HT : Hid (∀ w, Calls Try.prog 94 #[L.v, .int .i64 other] w fun e w' => e = .returned (.int .i64 (atStamp L other)) ∧ Below w.heap.size w w') := Lib.hid (fun w => rstamp_any L other w hok)
  have HK : Hid (∀ w, Calls Try.prog 95 #[L.v, .int .i64 other] w fun e w' => e = .returned (.int .i64 (atKarma L other)) ∧ Below w.heap.size w w') := Lib.hid (fun w => rkarma_any L other w hok)
  have HL2 : Hid (∀ w, CurAt w g c1 → Calls Try.prog 78 #[.pointer (some ⟨g, 0, none⟩), .int .i64 (atStamp L other)] w fun e w' => e = .returned (.int .i64 x) ∧ CurAt w' g c2 ∧ w.grownBy w' (some g)) := Lib.hid (fun w h => by have := rload_any02 w g c1 (atStamp L other) h; rw [ec2] at this; exact this)
  have HL3 : Hid (∀ w, CurAt w g c2 → Calls Try.prog 78 #[.pointer (some ⟨g, 0, none⟩), .int .i64 (atKarma L other)] w fun e w' => e = .returned (.int .i64 y) ∧ CurAt w' g c3 ∧ w.grownBy w' (some g)) := Lib.hid (fun w h => by have := rload_any02 w g c2 (atKarma L other) h; rw [ec3] at this; exact this)
  have HC : Hid (∀ w, Calls Try.prog 31 #[.int .i64 L.c.m, m.v, Ct.v ⟨x, y, s / 4⟩] w fun e w' => e = .returned (.int .i64 2) ∧ Below w.heap.size w w') := Lib.hid (fun w => by have := rchoose_any L.c.m m ⟨x, y, s / 4⟩ w; rwa [hv] at this)
  unfold Ct.v at HC
  have q3 : (s % 4 == 3) = true := by simp [hk]
  unfold Ly.v at HS HT HK ⊢
  unfold Ct.v
  have hg0 := curAt_lt h0
  have G : w.grownBy w (some g) := gb_refl _ _
  have hS0 : w.heap.size + 0 ≤ w.heap.size := Nat.le_refl _
  go_enter Try.func63, Try.ntmps63
  go_wp2_with fail
  obtain ⟨w1, hwr⟩ : ∃ W, W = ((w.alloc (.cells #[.int .i64 L.c.t, .int .i64 L.c.l, .int .i64 L.c.k, .int .i64 L.c.s, .int .i64 L.c.m, .int .i64 L.clock, .int .i64 L.stamps, .int .i64 L.log, .int .i64 L.fin, .int .i64 L.thread, .int .i64 L.lock, .int .i64 L.loc, .int .i64 L.size] 41)).alloc (.cells #[.int .i64 m.s, .int .i64 m.k, .int .i64 m.a] 23)) := ⟨_, rfl⟩
  rw [← hwr]
  have hb : Below w.heap.size w w1 := by rw [hwr]; exact (Below.alloc (Below.alloc (Below.refl _ _) (by first | exact Nat.le_refl _ | (simp; omega) | simp) _) (by first | exact Nat.le_refl _ | (simp; omega) | simp) _)
  have ll : CellsAt w1 (w.heap.size) [.int .i64 L.c.t, .int .i64 L.c.l, .int .i64 L.c.k, .int .i64 L.c.s, .int .i64 L.c.m, .int .i64 L.clock, .int .i64 L.stamps, .int .i64 L.log, .int .i64 L.fin, .int .i64 L.thread, .int .i64 L.lock, .int .i64 L.loc, .int .i64 L.size] := by rw [hwr]; exact (cellsAt_alloc (cellsAt_new' w _ _ (w.heap.size) (by simp)) _)
  have llz : w.heap.size < w1.heap.size := World.block_lt_of_cell? _ _ (ll 0 _ rfl)
  have mm : CellsAt w1 (w.heap.size + 1) [.int .i64 m.s, .int .i64 m.k, .int .i64 m.a] := by rw [hwr]; exact (cellsAt_new' (w.alloc (.cells #[.int .i64 L.c.t, .int .i64 L.c.l, .int .i64 L.c.k, .int .i64 L.c.s, .int .i64 L.c.m, .int .i64 L.clock, .int .i64 L.stamps, .int .i64 L.log, .int .i64 L.fin, .int .i64 L.thread, .int .i64 L.lock, .int .i64 L.loc, .int .i64 L.size] 41)) _ _ (w.heap.size + 1) (by simp))
  have mmz : w.heap.size + 1 < w1.heap.size := World.block_lt_of_cell? _ _ (mm 0 _ rfl)
  have h1 := curAt_keep h0 hb
  replace G := gb_trans G (gb_of_below (some g) hb)
  clear hb hwr
  replace hS0 := G.size
  have ll_4 := ll 4 _ rfl
  have mm_0 := mm 0 _ rfl
  have mm_1 := mm 1 _ rfl
  have mm_2 := mm 2 _ rfl
  go_wp2_with (first | ((with_reducible refine ld_lay ll rfl ?a19 ?h19); (case a19 => exact ⟨_, rfl, rfl, rfl⟩)))
  ((with_reducible refine (HS.out _).mono ?_); rintro e w2 ⟨rfl, hb⟩)
  clear ll_4
  clear mm_0 mm_1 mm_2
  have hsz := hb.size
  (try simp at hsz)
  replace ll := cellsAt_keep ll hb
  replace mm := cellsAt_keep mm hb
  replace llz : w.heap.size < w2.heap.size := by omega
  replace mmz : w.heap.size + 1 < w2.heap.size := by omega
  have h2 := curAt_keep h1 hb
  replace G := gb_trans G (gb_of_below (some g) hb)
  clear hb hsz
  replace hS0 := G.size
  have ll_4 := ll 4 _ rfl
  have mm_0 := mm 0 _ rfl
  have mm_1 := mm 1 _ rfl
  have mm_2 := mm 2 _ rfl
  go_wp2_with (first | ((with_reducible refine ld_lay ll rfl ?a20 ?h20); (case a20 => exact ⟨_, rfl, rfl, rfl⟩)))
  ((with_reducible refine (HL1.out _ h2).mono ?_); rintro e w3 ⟨rfl, h3, hb⟩)
  clear ll_4
  clear mm_0 mm_1 mm_2
  have hsz := hb.size
  (try simp at hsz)
  replace ll := cellsAt_gb ll hb (by omega)
  replace mm := cellsAt_gb mm hb (by omega)
  replace llz : w.heap.size < w3.heap.size := by omega
  replace mmz : w.heap.size + 1 < w3.heap.size := by omega
  replace G := gb_trans G hb
  clear hb hsz
  replace hS0 := G.size
  have ll_4 := ll 4 _ rfl
  have mm_0 := mm 0 _ rfl
  have mm_1 := mm 1 _ rfl
  have mm_2 := mm 2 _ rfl
  go_wp2_with (first | ((with_reducible refine ld_lay ll rfl ?a21 ?h21); (case a21 => exact ⟨_, rfl, rfl, rfl⟩)))
  ((with_reducible refine (rkind_any _ _).mono ?_); rintro e w' ⟨rfl, rfl⟩)
  go_wp2_with (first | ((with_reducible refine ld_lay ll rfl ?a22 ?h22); (case a22 => exact ⟨_, rfl, rfl, rfl⟩)))
  ((with_reducible refine (HT.out _).mono ?_); rintro e w4 ⟨rfl, hb⟩)
  clear ll_4
  clear mm_0 mm_1 mm_2
  have hsz := hb.size
  (try simp at hsz)
  replace ll := cellsAt_keep ll hb
  replace mm := cellsAt_keep mm hb
  replace llz : w.heap.size < w4.heap.size := by omega
  replace mmz : w.heap.size + 1 < w4.heap.size := by omega
  have h4 := curAt_keep h3 hb
  replace G := gb_trans G (gb_of_below (some g) hb)
  clear hb hsz
  replace hS0 := G.size
  have ll_4 := ll 4 _ rfl
  have mm_0 := mm 0 _ rfl
  have mm_1 := mm 1 _ rfl
  have mm_2 := mm 2 _ rfl
  go_wp2_with (first | ((with_reducible refine ld_lay ll rfl ?a23 ?h23); (case a23 => exact ⟨_, rfl, rfl, rfl⟩)))
  ((with_reducible refine (HL2.out _ h4).mono ?_); rintro e w5 ⟨rfl, h5, hb⟩)
  clear ll_4
  clear mm_0 mm_1 mm_2
  have hsz := hb.size
  (try simp at hsz)
  replace ll := cellsAt_gb ll hb (by omega)
  replace mm := cellsAt_gb mm hb (by omega)
  replace llz : w.heap.size < w5.heap.size := by omega
  replace mmz : w.heap.size + 1 < w5.heap.size := by omega
  replace G := gb_trans G hb
  clear hb hsz
  replace hS0 := G.size
  have ll_4 := ll 4 _ rfl
  have mm_0 := mm 0 _ rfl
  have mm_1 := mm 1 _ rfl
  have mm_2 := mm 2 _ rfl
  go_wp2_with (first | ((with_reducible refine ld_lay ll rfl ?a24 ?h24); (case a24 => exact ⟨_, rfl, rfl, rfl⟩)))
  ((with_reducible refine (HK.out _).mono ?_); rintro e w6 ⟨rfl, hb⟩)
  clear ll_4
  clear mm_0 mm_1 mm_2
  have hsz := hb.size
  (try simp at hsz)
  replace ll := cellsAt_keep ll hb
  replace mm := cellsAt_keep mm hb
  replace llz : w.heap.size < w6.heap.size := by omega
  replace mmz : w.heap.size + 1 < w6.heap.size := by omega
  have h6 := curAt_keep h5 hb
  replace G := gb_trans G (gb_of_below (some g) hb)
  clear hb hsz
  replace hS0 := G.size
  have ll_4 := ll 4 _ rfl
  have mm_0 := mm 0 _ rfl
  have mm_1 := mm 1 _ rfl
  have mm_2 := mm 2 _ rfl
  go_wp2_with (first | ((with_reducible refine ld_lay ll rfl ?a25 ?h25); (case a25 => exact ⟨_, rfl, rfl, rfl⟩)))
  ((with_reducible refine (HL3.out _ h6).mono ?_); rintro e w7 ⟨rfl, h7, hb⟩)
  clear ll_4
  clear mm_0 mm_1 mm_2
  have hsz := hb.size
  (try simp at hsz)
  replace ll := cellsAt_gb ll hb (by omega)
  replace mm := cellsAt_gb mm hb (by omega)
  replace llz : w.heap.size < w7.heap.size := by omega
  replace mmz : w.heap.size + 1 < w7.heap.size := by omega
  replace G := gb_trans G hb
  clear hb hsz
  replace hS0 := G.size
  have ll_4 := ll 4 _ rfl
  have mm_0 := mm 0 _ rfl
  have mm_1 := mm 1 _ rfl
  have mm_2 := mm 2 _ rfl
  go_wp2_with (first | ((with_reducible refine ld_lay ll rfl ?a26 ?h26); (case a26 => exact ⟨_, rfl, rfl, rfl⟩)))
  ((with_reducible refine (rtry_any _ hi _).mono ?_); rintro e w' ⟨rfl, rfl⟩)
  go_wp2_with (first | ((with_reducible refine ld_lay ll rfl ?a27 ?h27); (case a27 => exact ⟨_, rfl, rfl, rfl⟩)))
  ((with_reducible refine (HC.out _).mono ?_); rintro e w8 ⟨rfl, hb⟩)
  clear ll_4
  clear mm_0 mm_1 mm_2
  have hsz := hb.size
  (try simp at hsz)
  replace ll := cellsAt_keep ll hb
  replace mm := cellsAt_keep mm hb
  replace llz : w.heap.size < w8.heap.size := by omega
  replace mmz : w.heap.size + 1 < w8.heap.size := by omega
  have h8 := curAt_keep h7 hb
  replace G := gb_trans G (gb_of_below (some g) hb)
  clear hb hsz
  replace hS0 := G.size
  have ll_4 := ll 4 _ rfl
  have mm_0 := mm 0 _ rfl
  have mm_1 := mm 1 _ rfl
  have mm_2 := mm 2 _ rfl
  go_wp2_with (first | ((with_reducible refine ld_lay ll rfl ?a28 ?h28); (case a28 => exact ⟨_, rfl, rfl, rfl⟩)))
  go_ret2
  exact ⟨rfl, h8, G⟩

theorem ask_f_k2 (w : World) (g : Nat) (L : Ly) (hok : L.ok) (me other : Int) (m : Ct) (c0 : CSt) (h0 : CurAt w g c0) (s : Int) (b1 : Bool) (c1 : CSt) (ec1 : cdo c0 ⟨1, atStatus L other, 0, 0⟩ = ((s, b1), c1)) (hs : ¬s % 4 = 0) (hi : I64 s) (x : Int) (b2 : Bool) (c2 : CSt) (ec2 : cdo c1 ⟨1, atStamp L other, 0, 0⟩ = ((x, b2), c2)) (y : Int) (b3 : Bool) (c3 : CSt) (ec3 : cdo c2 ⟨1, atKarma L other, 0, 0⟩ = ((y, b3), c3)) (hv : chooseD L.c.m m ⟨x, y, s / 4⟩ = 2) (hk : s % 4 = 2) :
    Calls Try.prog 63 #[.pointer (some ⟨g, 0, none⟩), L.v, .int .i64 me, .int .i64 other, .bool false, m.v] w fun e w' => e = .returned (.tuple #[.int .i64 3, .bool false]) ∧ CurAt w' g c3 ∧ w.grownBy w' (some g) := by
  have HS : Hid (∀ w, Calls Try.prog 62 #[L.v, .int .i64 other] w fun e w' => e = .returned (.int .i64 (atStatus L other)) ∧ Below w.heap.size w w') := Lib.hid (fun w => rstatus_any L other w hok)
  have HL1 : Hid (∀ w, CurAt w g c0 → Calls Try.prog 78 #[.pointer (some ⟨g, 0, none⟩), .int .i64 (atStatus L other)] w fun e w' => e = .returned (.int .i64 s) ∧ CurAt w' g c1 ∧ w.grownBy w' (some g)) := Lib.hid (fun w h => by have := rload_any02 w g c0 (atStatus L other) h; rw [ec1] at this; exact this)
  have q1 : (s % 4 == 0) = false := by simp [hs]
  have HT : Hid (∀ w, Calls Try.prog 94 #[L.v, .int .i64 other] w fun e w' => e = .returned (.int .i64 (atStamp L other)) ∧ Below w.heap.size w w') := Lib.hid (fun w => rstamp_any L other w hok)
  have HK : Hid (∀ w, Calls Try.prog 95 #[L.v, .int .i64 other] w fun e w' => e = .returned (.int .i64 (atKarma L other)) ∧ Below w.heap.size w w') := Lib.hid (fun w => rkarma_any L other w hok)
  have HL2 : Hid (∀ w, CurAt w g c1 → Calls Try.prog 78 #[.pointer (some ⟨g, 0, none⟩), .int .i64 (atStamp L other)] w fun e w' => e = .returned (.int .i64 x) ∧ CurAt w' g c2 ∧ w.grownBy w' (some g)) := Lib.hid (fun w h => by have := rload_any02 w g c1 (atStamp L other) h; rw [ec2] at this; exact this)
  have HL3 : Hid (∀ w, CurAt w g c2 → Calls Try.prog 78 #[.pointer (some ⟨g, 0, none⟩), .int .i64 (atKarma L other)] w fun e w' => e = .returned (.int .i64 y) ∧ CurAt w' g c3 ∧ w.grownBy w' (some g)) := Lib.hid (fun w h => by have := rload_any02 w g c2 (atKarma L other) h; rw [ec3] at this; exact this)
  have HC : Hid (∀ w, Calls Try.prog 31 #[.int .i64 L.c.m, m.v, Ct.v ⟨x, y, s / 4⟩] w fun e w' => e = .returned (.int .i64 2) ∧ Below w.heap.size w w') := Lib.hid (fun w => by have := rchoose_any L.c.m m ⟨x, y, s / 4⟩ w; rwa [hv] at this)
  unfold Ct.v at HC
  have q3 : (s % 4 == 3) = false := by simp [hk]
  have q2 : (s % 4 == 2) = true := by simp [hk]
  unfold Ly.v at HS HT HK ⊢
  unfold Ct.v
  have hg0 := curAt_lt h0
  have G : w.grownBy w (some g) := gb_refl _ _
  have hS0 : w.heap.size + 0 ≤ w.heap.size := Nat.le_refl _
  go_enter Try.func63, Try.ntmps63
  go_wp2_with fail
  obtain ⟨w1, hwr⟩ : ∃ W, W = ((w.alloc (.cells #[.int .i64 L.c.t, .int .i64 L.c.l, .int .i64 L.c.k, .int .i64 L.c.s, .int .i64 L.c.m, .int .i64 L.clock, .int .i64 L.stamps, .int .i64 L.log, .int .i64 L.fin, .int .i64 L.thread, .int .i64 L.lock, .int .i64 L.loc, .int .i64 L.size] 41)).alloc (.cells #[.int .i64 m.s, .int .i64 m.k, .int .i64 m.a] 23)) := ⟨_, rfl⟩
  rw [← hwr]
  have hb : Below w.heap.size w w1 := by rw [hwr]; exact (Below.alloc (Below.alloc (Below.refl _ _) (by first | exact Nat.le_refl _ | (simp; omega) | simp) _) (by first | exact Nat.le_refl _ | (simp; omega) | simp) _)
  have ll : CellsAt w1 (w.heap.size) [.int .i64 L.c.t, .int .i64 L.c.l, .int .i64 L.c.k, .int .i64 L.c.s, .int .i64 L.c.m, .int .i64 L.clock, .int .i64 L.stamps, .int .i64 L.log, .int .i64 L.fin, .int .i64 L.thread, .int .i64 L.lock, .int .i64 L.loc, .int .i64 L.size] := by rw [hwr]; exact (cellsAt_alloc (cellsAt_new' w _ _ (w.heap.size) (by simp)) _)
  have llz : w.heap.size < w1.heap.size := World.block_lt_of_cell? _ _ (ll 0 _ rfl)
  have mm : CellsAt w1 (w.heap.size + 1) [.int .i64 m.s, .int .i64 m.k, .int .i64 m.a] := by rw [hwr]; exact (cellsAt_new' (w.alloc (.cells #[.int .i64 L.c.t, .int .i64 L.c.l, .int .i64 L.c.k, .int .i64 L.c.s, .int .i64 L.c.m, .int .i64 L.clock, .int .i64 L.stamps, .int .i64 L.log, .int .i64 L.fin, .int .i64 L.thread, .int .i64 L.lock, .int .i64 L.loc, .int .i64 L.size] 41)) _ _ (w.heap.size + 1) (by simp))
  have mmz : w.heap.size + 1 < w1.heap.size := World.block_lt_of_cell? _ _ (mm 0 _ rfl)
  have h1 := curAt_keep h0 hb
  replace G := gb_trans G (gb_of_below (some g) hb)
  clear hb hwr
  replace hS0 := G.size
  have ll_4 := ll 4 _ rfl
  have mm_0 := mm 0 _ rfl
  have mm_1 := mm 1 _ rfl
  have mm_2 := mm 2 _ rfl
  go_wp2_with (first | ((with_reducible refine ld_lay ll rfl ?a29 ?h29); (case a29 => exact ⟨_, rfl, rfl, rfl⟩)))
  ((with_reducible refine (HS.out _).mono ?_); rintro e w2 ⟨rfl, hb⟩)
  clear ll_4
  clear mm_0 mm_1 mm_2
  have hsz := hb.size
  (try simp at hsz)
  replace ll := cellsAt_keep ll hb
  replace mm := cellsAt_keep mm hb
  replace llz : w.heap.size < w2.heap.size := by omega
  replace mmz : w.heap.size + 1 < w2.heap.size := by omega
  have h2 := curAt_keep h1 hb
  replace G := gb_trans G (gb_of_below (some g) hb)
  clear hb hsz
  replace hS0 := G.size
  have ll_4 := ll 4 _ rfl
  have mm_0 := mm 0 _ rfl
  have mm_1 := mm 1 _ rfl
  have mm_2 := mm 2 _ rfl
  go_wp2_with (first | ((with_reducible refine ld_lay ll rfl ?a30 ?h30); (case a30 => exact ⟨_, rfl, rfl, rfl⟩)))
  ((with_reducible refine (HL1.out _ h2).mono ?_); rintro e w3 ⟨rfl, h3, hb⟩)
  clear ll_4
  clear mm_0 mm_1 mm_2
  have hsz := hb.size
  (try simp at hsz)
  replace ll := cellsAt_gb ll hb (by omega)
  replace mm := cellsAt_gb mm hb (by omega)
  replace llz : w.heap.size < w3.heap.size := by omega
  replace mmz : w.heap.size + 1 < w3.heap.size := by omega
  replace G := gb_trans G hb
  clear hb hsz
  replace hS0 := G.size
  have ll_4 := ll 4 _ rfl
  have mm_0 := mm 0 _ rfl
  have mm_1 := mm 1 _ rfl
  have mm_2 := mm 2 _ rfl
  go_wp2_with (first | ((with_reducible refine ld_lay ll rfl ?a31 ?h31); (case a31 => exact ⟨_, rfl, rfl, rfl⟩)))
  ((with_reducible refine (rkind_any _ _).mono ?_); rintro e w' ⟨rfl, rfl⟩)
  go_wp2_with (first | ((with_reducible refine ld_lay ll rfl ?a32 ?h32); (case a32 => exact ⟨_, rfl, rfl, rfl⟩)))
  ((with_reducible refine (HT.out _).mono ?_); rintro e w4 ⟨rfl, hb⟩)
  clear ll_4
  clear mm_0 mm_1 mm_2
  have hsz := hb.size
  (try simp at hsz)
  replace ll := cellsAt_keep ll hb
  replace mm := cellsAt_keep mm hb
  replace llz : w.heap.size < w4.heap.size := by omega
  replace mmz : w.heap.size + 1 < w4.heap.size := by omega
  have h4 := curAt_keep h3 hb
  replace G := gb_trans G (gb_of_below (some g) hb)
  clear hb hsz
  replace hS0 := G.size
  have ll_4 := ll 4 _ rfl
  have mm_0 := mm 0 _ rfl
  have mm_1 := mm 1 _ rfl
  have mm_2 := mm 2 _ rfl
  go_wp2_with (first | ((with_reducible refine ld_lay ll rfl ?a33 ?h33); (case a33 => exact ⟨_, rfl, rfl, rfl⟩)))
  ((with_reducible refine (HL2.out _ h4).mono ?_); rintro e w5 ⟨rfl, h5, hb⟩)
  clear ll_4
  clear mm_0 mm_1 mm_2
  have hsz := hb.size
  (try simp at hsz)
  replace ll := cellsAt_gb ll hb (by omega)
  replace mm := cellsAt_gb mm hb (by omega)
  replace llz : w.heap.size < w5.heap.size := by omega
  replace mmz : w.heap.size + 1 < w5.heap.size := by omega
  replace G := gb_trans G hb
  clear hb hsz
  replace hS0 := G.size
  have ll_4 := ll 4 _ rfl
  have mm_0 := mm 0 _ rfl
  have mm_1 := mm 1 _ rfl
  have mm_2 := mm 2 _ rfl
  go_wp2_with (first | ((with_reducible refine ld_lay ll rfl ?a34 ?h34); (case a34 => exact ⟨_, rfl, rfl, rfl⟩)))
  ((with_reducible refine (HK.out _).mono ?_); rintro e w6 ⟨rfl, hb⟩)
  clear ll_4
  clear mm_0 mm_1 mm_2
  have hsz := hb.size
  (try simp at hsz)
  replace ll := cellsAt_keep ll hb
  replace mm := cellsAt_keep mm hb
  replace llz : w.heap.size < w6.heap.size := by omega
  replace mmz : w.heap.size + 1 < w6.heap.size := by omega
  have h6 := curAt_keep h5 hb
  replace G := gb_trans G (gb_of_below (some g) hb)
  clear hb hsz
  replace hS0 := G.size
  have ll_4 := ll 4 _ rfl
  have mm_0 := mm 0 _ rfl
  have mm_1 := mm 1 _ rfl
  have mm_2 := mm 2 _ rfl
  go_wp2_with (first | ((with_reducible refine ld_lay ll rfl ?a35 ?h35); (case a35 => exact ⟨_, rfl, rfl, rfl⟩)))
  ((with_reducible refine (HL3.out _ h6).mono ?_); rintro e w7 ⟨rfl, h7, hb⟩)
  clear ll_4
  clear mm_0 mm_1 mm_2
  have hsz := hb.size
  (try simp at hsz)
  replace ll := cellsAt_gb ll hb (by omega)
  replace mm := cellsAt_gb mm hb (by omega)
  replace llz : w.heap.size < w7.heap.size := by omega
  replace mmz : w.heap.size + 1 < w7.heap.size := by omega
  replace G := gb_trans G hb
  clear hb hsz
  replace hS0 := G.size
  have ll_4 := ll 4 _ rfl
  have mm_0 := mm 0 _ rfl
  have mm_1 := mm 1 _ rfl
  have mm_2 := mm 2 _ rfl
  go_wp2_with (first | ((with_reducible refine ld_lay ll rfl ?a36 ?h36); (case a36 => exact ⟨_, rfl, rfl, rfl⟩)))
  ((with_reducible refine (rtry_any _ hi _).mono ?_); rintro e w' ⟨rfl, rfl⟩)
  go_wp2_with (first | ((with_reducible refine ld_lay ll rfl ?a37 ?h37); (case a37 => exact ⟨_, rfl, rfl, rfl⟩)))
  ((with_reducible refine (HC.out _).mono ?_); rintro e w8 ⟨rfl, hb⟩)
  clear ll_4
  clear mm_0 mm_1 mm_2
  have hsz := hb.size
  (try simp at hsz)
  replace ll := cellsAt_keep ll hb
  replace mm := cellsAt_keep mm hb
  replace llz : w.heap.size < w8.heap.size := by omega
  replace mmz : w.heap.size + 1 < w8.heap.size := by omega
  have h8 := curAt_keep h7 hb
  replace G := gb_trans G (gb_of_below (some g) hb)
  clear hb hsz
  replace hS0 := G.size
  have ll_4 := ll 4 _ rfl
  have mm_0 := mm 0 _ rfl
  have mm_1 := mm 1 _ rfl
  have mm_2 := mm 2 _ rfl
  go_wp2_with (first | ((with_reducible refine ld_lay ll rfl ?a38 ?h38); (case a38 => exact ⟨_, rfl, rfl, rfl⟩)))
  go_ret2
  exact ⟨rfl, h8, G⟩

theorem ask_f_cast (w : World) (g : Nat) (L : Ly) (hok : L.ok) (me other : Int) (m : Ct) (c0 : CSt) (h0 : CurAt w g c0) (s : Int) (b1 : Bool) (c1 : CSt) (ec1 : cdo c0 ⟨1, atStatus L other, 0, 0⟩ = ((s, b1), c1)) (hs : ¬s % 4 = 0) (hi : I64 s) (x : Int) (b2 : Bool) (c2 : CSt) (ec2 : cdo c1 ⟨1, atStamp L other, 0, 0⟩ = ((x, b2), c2)) (y : Int) (b3 : Bool) (c3 : CSt) (ec3 : cdo c2 ⟨1, atKarma L other, 0, 0⟩ = ((y, b3), c3)) (hv : chooseD L.c.m m ⟨x, y, s / 4⟩ = 2) (hk : s % 4 = 1) (z : Int) (c4 : CSt) (ec4 : cdo c3 ⟨3, atStatus L other, s, wrap64 (4 * (s / 4) + 3)⟩ = ((z, true), c4)) :
    Calls Try.prog 63 #[.pointer (some ⟨g, 0, none⟩), L.v, .int .i64 me, .int .i64 other, .bool false, m.v] w fun e w' => e = .returned (.tuple #[.int .i64 2, .bool false]) ∧ CurAt w' g c4 ∧ w.grownBy w' (some g) := by
  have HS : Hid (∀ w, Calls Try.prog 62 #[L.v, .int .i64 other] w fun e w' => e = .returned (.int .i64 (atStatus L other)) ∧ Below w.heap.size w w') := Lib.hid (fun w => rstatus_any L other w hok)
  have HL1 : Hid (∀ w, CurAt w g c0 → Calls Try.prog 78 #[.pointer (some ⟨g, 0, none⟩), .int .i64 (atStatus L other)] w fun e w' => e = .returned (.int .i64 s) ∧ CurAt w' g c1 ∧ w.grownBy w' (some g)) := Lib.hid (fun w h => by have := rload_any02 w g c0 (atStatus L other) h; rw [ec1] at this; exact this)
  have q1 : (s % 4 == 0) = false := by simp [hs]
  have HT : Hid (∀ w, Calls Try.prog 94 #[L.v, .int .i64 other] w fun e w' => e = .returned (.int .i64 (atStamp L other)) ∧ Below w.heap.size w w') := Lib.hid (fun w => rstamp_any L other w hok)
  have HK : Hid (∀ w, Calls Try.prog 95 #[L.v, .int .i64 other] w fun e w' => e = .returned (.int .i64 (atKarma L other)) ∧ Below w.heap.size w w') := Lib.hid (fun w => rkarma_any L other w hok)
  have HL2 : Hid (∀ w, CurAt w g c1 → Calls Try.prog 78 #[.pointer (some ⟨g, 0, none⟩), .int .i64 (atStamp L other)] w fun e w' => e = .returned (.int .i64 x) ∧ CurAt w' g c2 ∧ w.grownBy w' (some g)) := Lib.hid (fun w h => by have := rload_any02 w g c1 (atStamp L other) h; rw [ec2] at this; exact this)
  have HL3 : Hid (∀ w, CurAt w g c2 → Calls Try.prog 78 #[.pointer (some ⟨g, 0, none⟩), .int .i64 (atKarma L other)] w fun e w' => e = .returned (.int .i64 y) ∧ CurAt w' g c3 ∧ w.grownBy w' (some g)) := Lib.hid (fun w h => by have := rload_any02 w g c2 (atKarma L other) h; rw [ec3] at this; exact this)
  have HC : Hid (∀ w, Calls Try.prog 31 #[.int .i64 L.c.m, m.v, Ct.v ⟨x, y, s / 4⟩] w fun e w' => e = .returned (.int .i64 2) ∧ Below w.heap.size w w') := Lib.hid (fun w => by have := rchoose_any L.c.m m ⟨x, y, s / 4⟩ w; rwa [hv] at this)
  unfold Ct.v at HC
  have q3 : (s % 4 == 3) = false := by simp [hk]
  have q2 : (s % 4 == 2) = false := by simp [hk]
  have HX : Hid (∀ w, CurAt w g c3 → Calls Try.prog 81 #[.pointer (some ⟨g, 0, none⟩), .int .i64 (atStatus L other), .int .i64 s, .int .i64 (wrap64 (4 * (s / 4) + 3))] w fun e w' => e = .returned (.bool true) ∧ CurAt w' g c4 ∧ w.grownBy w' (some g)) := Lib.hid (fun w h => by have := rcas_any02 w g c3 (atStatus L other) s (wrap64 (4 * (s / 4) + 3)) h; rw [ec4] at this; exact this)
  unfold Ly.v at HS HT HK ⊢
  unfold Ct.v
  have hg0 := curAt_lt h0
  have G : w.grownBy w (some g) := gb_refl _ _
  have hS0 : w.heap.size + 0 ≤ w.heap.size := Nat.le_refl _
  go_enter Try.func63, Try.ntmps63
  go_wp2_with fail
  obtain ⟨w1, hwr⟩ : ∃ W, W = ((w.alloc (.cells #[.int .i64 L.c.t, .int .i64 L.c.l, .int .i64 L.c.k, .int .i64 L.c.s, .int .i64 L.c.m, .int .i64 L.clock, .int .i64 L.stamps, .int .i64 L.log, .int .i64 L.fin, .int .i64 L.thread, .int .i64 L.lock, .int .i64 L.loc, .int .i64 L.size] 41)).alloc (.cells #[.int .i64 m.s, .int .i64 m.k, .int .i64 m.a] 23)) := ⟨_, rfl⟩
  rw [← hwr]
  have hb : Below w.heap.size w w1 := by rw [hwr]; exact (Below.alloc (Below.alloc (Below.refl _ _) (by first | exact Nat.le_refl _ | (simp; omega) | simp) _) (by first | exact Nat.le_refl _ | (simp; omega) | simp) _)
  have ll : CellsAt w1 (w.heap.size) [.int .i64 L.c.t, .int .i64 L.c.l, .int .i64 L.c.k, .int .i64 L.c.s, .int .i64 L.c.m, .int .i64 L.clock, .int .i64 L.stamps, .int .i64 L.log, .int .i64 L.fin, .int .i64 L.thread, .int .i64 L.lock, .int .i64 L.loc, .int .i64 L.size] := by rw [hwr]; exact (cellsAt_alloc (cellsAt_new' w _ _ (w.heap.size) (by simp)) _)
  have llz : w.heap.size < w1.heap.size := World.block_lt_of_cell? _ _ (ll 0 _ rfl)
  have mm : CellsAt w1 (w.heap.size + 1) [.int .i64 m.s, .int .i64 m.k, .int .i64 m.a] := by rw [hwr]; exact (cellsAt_new' (w.alloc (.cells #[.int .i64 L.c.t, .int .i64 L.c.l, .int .i64 L.c.k, .int .i64 L.c.s, .int .i64 L.c.m, .int .i64 L.clock, .int .i64 L.stamps, .int .i64 L.log, .int .i64 L.fin, .int .i64 L.thread, .int .i64 L.lock, .int .i64 L.loc, .int .i64 L.size] 41)) _ _ (w.heap.size + 1) (by simp))
  have mmz : w.heap.size + 1 < w1.heap.size := World.block_lt_of_cell? _ _ (mm 0 _ rfl)
  have h1 := curAt_keep h0 hb
  replace G := gb_trans G (gb_of_below (some g) hb)
  clear hb hwr
  replace hS0 := G.size
  have ll_4 := ll 4 _ rfl
  have mm_0 := mm 0 _ rfl
  have mm_1 := mm 1 _ rfl
  have mm_2 := mm 2 _ rfl
  go_wp2_with (first | ((with_reducible refine ld_lay ll rfl ?a39 ?h39); (case a39 => exact ⟨_, rfl, rfl, rfl⟩)))
  ((with_reducible refine (HS.out _).mono ?_); rintro e w2 ⟨rfl, hb⟩)
  clear ll_4
  clear mm_0 mm_1 mm_2
  have hsz := hb.size
  (try simp at hsz)
  replace ll := cellsAt_keep ll hb
  replace mm := cellsAt_keep mm hb
  replace llz : w.heap.size < w2.heap.size := by omega
  replace mmz : w.heap.size + 1 < w2.heap.size := by omega
  have h2 := curAt_keep h1 hb
  replace G := gb_trans G (gb_of_below (some g) hb)
  clear hb hsz
  replace hS0 := G.size
  have ll_4 := ll 4 _ rfl
  have mm_0 := mm 0 _ rfl
  have mm_1 := mm 1 _ rfl
  have mm_2 := mm 2 _ rfl
  go_wp2_with (first | ((with_reducible refine ld_lay ll rfl ?a40 ?h40); (case a40 => exact ⟨_, rfl, rfl, rfl⟩)))
  ((with_reducible refine (HL1.out _ h2).mono ?_); rintro e w3 ⟨rfl, h3, hb⟩)
  clear ll_4
  clear mm_0 mm_1 mm_2
  have hsz := hb.size
  (try simp at hsz)
  replace ll := cellsAt_gb ll hb (by omega)
  replace mm := cellsAt_gb mm hb (by omega)
  replace llz : w.heap.size < w3.heap.size := by omega
  replace mmz : w.heap.size + 1 < w3.heap.size := by omega
  replace G := gb_trans G hb
  clear hb hsz
  replace hS0 := G.size
  have ll_4 := ll 4 _ rfl
  have mm_0 := mm 0 _ rfl
  have mm_1 := mm 1 _ rfl
  have mm_2 := mm 2 _ rfl
  go_wp2_with (first | ((with_reducible refine ld_lay ll rfl ?a41 ?h41); (case a41 => exact ⟨_, rfl, rfl, rfl⟩)))
  ((with_reducible refine (rkind_any _ _).mono ?_); rintro e w' ⟨rfl, rfl⟩)
  go_wp2_with (first | ((with_reducible refine ld_lay ll rfl ?a42 ?h42); (case a42 => exact ⟨_, rfl, rfl, rfl⟩)))
  ((with_reducible refine (HT.out _).mono ?_); rintro e w4 ⟨rfl, hb⟩)
  clear ll_4
  clear mm_0 mm_1 mm_2
  have hsz := hb.size
  (try simp at hsz)
  replace ll := cellsAt_keep ll hb
  replace mm := cellsAt_keep mm hb
  replace llz : w.heap.size < w4.heap.size := by omega
  replace mmz : w.heap.size + 1 < w4.heap.size := by omega
  have h4 := curAt_keep h3 hb
  replace G := gb_trans G (gb_of_below (some g) hb)
  clear hb hsz
  replace hS0 := G.size
  have ll_4 := ll 4 _ rfl
  have mm_0 := mm 0 _ rfl
  have mm_1 := mm 1 _ rfl
  have mm_2 := mm 2 _ rfl
  go_wp2_with (first | ((with_reducible refine ld_lay ll rfl ?a43 ?h43); (case a43 => exact ⟨_, rfl, rfl, rfl⟩)))
  ((with_reducible refine (HL2.out _ h4).mono ?_); rintro e w5 ⟨rfl, h5, hb⟩)
  clear ll_4
  clear mm_0 mm_1 mm_2
  have hsz := hb.size
  (try simp at hsz)
  replace ll := cellsAt_gb ll hb (by omega)
  replace mm := cellsAt_gb mm hb (by omega)
  replace llz : w.heap.size < w5.heap.size := by omega
  replace mmz : w.heap.size + 1 < w5.heap.size := by omega
  replace G := gb_trans G hb
  clear hb hsz
  replace hS0 := G.size
  have ll_4 := ll 4 _ rfl
  have mm_0 := mm 0 _ rfl
  have mm_1 := mm 1 _ rfl
  have mm_2 := mm 2 _ rfl
  go_wp2_with (first | ((with_reducible refine ld_lay ll rfl ?a44 ?h44); (case a44 => exact ⟨_, rfl, rfl, rfl⟩)))
  ((with_reducible refine (HK.out _).mono ?_); rintro e w6 ⟨rfl, hb⟩)
  clear ll_4
  clear mm_0 mm_1 mm_2
  have hsz := hb.size
  (try simp at hsz)
  replace ll := cellsAt_keep ll hb
  replace mm := cellsAt_keep mm hb
  replace llz : w.heap.size < w6.heap.size := by omega
  replace mmz : w.heap.size + 1 < w6.heap.size := by omega
  have h6 := curAt_keep h5 hb
  replace G := gb_trans G (gb_of_below (some g) hb)
  clear hb hsz
  replace hS0 := G.size
  have ll_4 := ll 4 _ rfl
  have mm_0 := mm 0 _ rfl
  have mm_1 := mm 1 _ rfl
  have mm_2 := mm 2 _ rfl
  go_wp2_with (first | ((with_reducible refine ld_lay ll rfl ?a45 ?h45); (case a45 => exact ⟨_, rfl, rfl, rfl⟩)))
  ((with_reducible refine (HL3.out _ h6).mono ?_); rintro e w7 ⟨rfl, h7, hb⟩)
  clear ll_4
  clear mm_0 mm_1 mm_2
  have hsz := hb.size
  (try simp at hsz)
  replace ll := cellsAt_gb ll hb (by omega)
  replace mm := cellsAt_gb mm hb (by omega)
  replace llz : w.heap.size < w7.heap.size := by omega
  replace mmz : w.heap.size + 1 < w7.heap.size := by omega
  replace G := gb_trans G hb
  clear hb hsz
  replace hS0 := G.size
  have ll_4 := ll 4 _ rfl
  have mm_0 := mm 0 _ rfl
  have mm_1 := mm 1 _ rfl
  have mm_2 := mm 2 _ rfl
  go_wp2_with (first | ((with_reducible refine ld_lay ll rfl ?a46 ?h46); (case a46 => exact ⟨_, rfl, rfl, rfl⟩)))
  ((with_reducible refine (rtry_any _ hi _).mono ?_); rintro e w' ⟨rfl, rfl⟩)
  go_wp2_with (first | ((with_reducible refine ld_lay ll rfl ?a47 ?h47); (case a47 => exact ⟨_, rfl, rfl, rfl⟩)))
  ((with_reducible refine (HC.out _).mono ?_); rintro e w8 ⟨rfl, hb⟩)
  clear ll_4
  clear mm_0 mm_1 mm_2
  have hsz := hb.size
  (try simp at hsz)
  replace ll := cellsAt_keep ll hb
  replace mm := cellsAt_keep mm hb
  replace llz : w.heap.size < w8.heap.size := by omega
  replace mmz : w.heap.size + 1 < w8.heap.size := by omega
  have h8 := curAt_keep h7 hb
  replace G := gb_trans G (gb_of_below (some g) hb)
  clear hb hsz
  replace hS0 := G.size
  have ll_4 := ll 4 _ rfl
  have mm_0 := mm 0 _ rfl
  have mm_1 := mm 1 _ rfl
  have mm_2 := mm 2 _ rfl
  go_wp2_with (first | ((with_reducible refine ld_lay ll rfl ?a48 ?h48); (case a48 => exact ⟨_, rfl, rfl, rfl⟩)))
  ((with_reducible refine (HS.out _).mono ?_); rintro e w9 ⟨rfl, hb⟩)
  clear ll_4
  clear mm_0 mm_1 mm_2
  have hsz := hb.size
  (try simp at hsz)
  replace ll := cellsAt_keep ll hb
  replace mm := cellsAt_keep mm hb
  replace llz : w.heap.size < w9.heap.size := by omega
  replace mmz : w.heap.size + 1 < w9.heap.size := by omega
  have h9 := curAt_keep h8 hb
  replace G := gb_trans G (gb_of_below (some g) hb)
  clear hb hsz
  replace hS0 := G.size
  have ll_4 := ll 4 _ rfl
  have mm_0 := mm 0 _ rfl
  have mm_1 := mm 1 _ rfl
  have mm_2 := mm 2 _ rfl
  go_wp2_with (first | ((with_reducible refine ld_lay ll rfl ?a49 ?h49); (case a49 => exact ⟨_, rfl, rfl, rfl⟩)))
  ((with_reducible refine (rwstatus_any _ _ _).mono ?_); rintro e w' ⟨rfl, rfl⟩)
  go_wp2_with (first | ((with_reducible refine ld_lay ll rfl ?a50 ?h50); (case a50 => exact ⟨_, rfl, rfl, rfl⟩)))
  ((with_reducible refine (HX.out _ h9).mono ?_); rintro e w10 ⟨rfl, h10, hb⟩)
  clear ll_4
  clear mm_0 mm_1 mm_2
  have hsz := hb.size
  (try simp at hsz)
  replace ll := cellsAt_gb ll hb (by omega)
  replace mm := cellsAt_gb mm hb (by omega)
  replace llz : w.heap.size < w10.heap.size := by omega
  replace mmz : w.heap.size + 1 < w10.heap.size := by omega
  replace G := gb_trans G hb
  clear hb hsz
  replace hS0 := G.size
  have ll_4 := ll 4 _ rfl
  have mm_0 := mm 0 _ rfl
  have mm_1 := mm 1 _ rfl
  have mm_2 := mm 2 _ rfl
  go_wp2_with (first | ((with_reducible refine ld_lay ll rfl ?a51 ?h51); (case a51 => exact ⟨_, rfl, rfl, rfl⟩)))
  go_ret2
  exact ⟨rfl, h10, G⟩

theorem ask_f_casf (w : World) (g : Nat) (L : Ly) (hok : L.ok) (me other : Int) (m : Ct) (c0 : CSt) (h0 : CurAt w g c0) (s : Int) (b1 : Bool) (c1 : CSt) (ec1 : cdo c0 ⟨1, atStatus L other, 0, 0⟩ = ((s, b1), c1)) (hs : ¬s % 4 = 0) (hi : I64 s) (x : Int) (b2 : Bool) (c2 : CSt) (ec2 : cdo c1 ⟨1, atStamp L other, 0, 0⟩ = ((x, b2), c2)) (y : Int) (b3 : Bool) (c3 : CSt) (ec3 : cdo c2 ⟨1, atKarma L other, 0, 0⟩ = ((y, b3), c3)) (hv : chooseD L.c.m m ⟨x, y, s / 4⟩ = 2) (hk : s % 4 = 1) (z : Int) (c4 : CSt) (ec4 : cdo c3 ⟨3, atStatus L other, s, wrap64 (4 * (s / 4) + 3)⟩ = ((z, false), c4)) :
    Calls Try.prog 63 #[.pointer (some ⟨g, 0, none⟩), L.v, .int .i64 me, .int .i64 other, .bool false, m.v] w fun e w' => e = .returned (.tuple #[.int .i64 0, .bool false]) ∧ CurAt w' g c4 ∧ w.grownBy w' (some g) := by
  have HS : Hid (∀ w, Calls Try.prog 62 #[L.v, .int .i64 other] w fun e w' => e = .returned (.int .i64 (atStatus L other)) ∧ Below w.heap.size w w') := Lib.hid (fun w => rstatus_any L other w hok)
  have HL1 : Hid (∀ w, CurAt w g c0 → Calls Try.prog 78 #[.pointer (some ⟨g, 0, none⟩), .int .i64 (atStatus L other)] w fun e w' => e = .returned (.int .i64 s) ∧ CurAt w' g c1 ∧ w.grownBy w' (some g)) := Lib.hid (fun w h => by have := rload_any02 w g c0 (atStatus L other) h; rw [ec1] at this; exact this)
  have q1 : (s % 4 == 0) = false := by simp [hs]
  have HT : Hid (∀ w, Calls Try.prog 94 #[L.v, .int .i64 other] w fun e w' => e = .returned (.int .i64 (atStamp L other)) ∧ Below w.heap.size w w') := Lib.hid (fun w => rstamp_any L other w hok)
  have HK : Hid (∀ w, Calls Try.prog 95 #[L.v, .int .i64 other] w fun e w' => e = .returned (.int .i64 (atKarma L other)) ∧ Below w.heap.size w w') := Lib.hid (fun w => rkarma_any L other w hok)
  have HL2 : Hid (∀ w, CurAt w g c1 → Calls Try.prog 78 #[.pointer (some ⟨g, 0, none⟩), .int .i64 (atStamp L other)] w fun e w' => e = .returned (.int .i64 x) ∧ CurAt w' g c2 ∧ w.grownBy w' (some g)) := Lib.hid (fun w h => by have := rload_any02 w g c1 (atStamp L other) h; rw [ec2] at this; exact this)
  have HL3 : Hid (∀ w, CurAt w g c2 → Calls Try.prog 78 #[.pointer (some ⟨g, 0, none⟩), .int .i64 (atKarma L other)] w fun e w' => e = .returned (.int .i64 y) ∧ CurAt w' g c3 ∧ w.grownBy w' (some g)) := Lib.hid (fun w h => by have := rload_any02 w g c2 (atKarma L other) h; rw [ec3] at this; exact this)
  have HC : Hid (∀ w, Calls Try.prog 31 #[.int .i64 L.c.m, m.v, Ct.v ⟨x, y, s / 4⟩] w fun e w' => e = .returned (.int .i64 2) ∧ Below w.heap.size w w') := Lib.hid (fun w => by have := rchoose_any L.c.m m ⟨x, y, s / 4⟩ w; rwa [hv] at this)
  unfold Ct.v at HC
  have q3 : (s % 4 == 3) = false := by simp [hk]
  have q2 : (s % 4 == 2) = false := by simp [hk]
  have HX : Hid (∀ w, CurAt w g c3 → Calls Try.prog 81 #[.pointer (some ⟨g, 0, none⟩), .int .i64 (atStatus L other), .int .i64 s, .int .i64 (wrap64 (4 * (s / 4) + 3))] w fun e w' => e = .returned (.bool false) ∧ CurAt w' g c4 ∧ w.grownBy w' (some g)) := Lib.hid (fun w h => by have := rcas_any02 w g c3 (atStatus L other) s (wrap64 (4 * (s / 4) + 3)) h; rw [ec4] at this; exact this)
  unfold Ly.v at HS HT HK ⊢
  unfold Ct.v
  have hg0 := curAt_lt h0
  have G : w.grownBy w (some g) := gb_refl _ _
  have hS0 : w.heap.size + 0 ≤ w.heap.size := Nat.le_refl _
  go_enter Try.func63, Try.ntmps63
  go_wp2_with fail
  obtain ⟨w1, hwr⟩ : ∃ W, W = ((w.alloc (.cells #[.int .i64 L.c.t, .int .i64 L.c.l, .int .i64 L.c.k, .int .i64 L.c.s, .int .i64 L.c.m, .int .i64 L.clock, .int .i64 L.stamps, .int .i64 L.log, .int .i64 L.fin, .int .i64 L.thread, .int .i64 L.lock, .int .i64 L.loc, .int .i64 L.size] 41)).alloc (.cells #[.int .i64 m.s, .int .i64 m.k, .int .i64 m.a] 23)) := ⟨_, rfl⟩
  rw [← hwr]
  have hb : Below w.heap.size w w1 := by rw [hwr]; exact (Below.alloc (Below.alloc (Below.refl _ _) (by first | exact Nat.le_refl _ | (simp; omega) | simp) _) (by first | exact Nat.le_refl _ | (simp; omega) | simp) _)
  have ll : CellsAt w1 (w.heap.size) [.int .i64 L.c.t, .int .i64 L.c.l, .int .i64 L.c.k, .int .i64 L.c.s, .int .i64 L.c.m, .int .i64 L.clock, .int .i64 L.stamps, .int .i64 L.log, .int .i64 L.fin, .int .i64 L.thread, .int .i64 L.lock, .int .i64 L.loc, .int .i64 L.size] := by rw [hwr]; exact (cellsAt_alloc (cellsAt_new' w _ _ (w.heap.size) (by simp)) _)
  have llz : w.heap.size < w1.heap.size := World.block_lt_of_cell? _ _ (ll 0 _ rfl)
  have mm : CellsAt w1 (w.heap.size + 1) [.int .i64 m.s, .int .i64 m.k, .int .i64 m.a] := by rw [hwr]; exact (cellsAt_new' (w.alloc (.cells #[.int .i64 L.c.t, .int .i64 L.c.l, .int .i64 L.c.k, .int .i64 L.c.s, .int .i64 L.c.m, .int .i64 L.clock, .int .i64 L.stamps, .int .i64 L.log, .int .i64 L.fin, .int .i64 L.thread, .int .i64 L.lock, .int .i64 L.loc, .int .i64 L.size] 41)) _ _ (w.heap.size + 1) (by simp))
  have mmz : w.heap.size + 1 < w1.heap.size := World.block_lt_of_cell? _ _ (mm 0 _ rfl)
  have h1 := curAt_keep h0 hb
  replace G := gb_trans G (gb_of_below (some g) hb)
  clear hb hwr
  replace hS0 := G.size
  have ll_4 := ll 4 _ rfl
  have mm_0 := mm 0 _ rfl
  have mm_1 := mm 1 _ rfl
  have mm_2 := mm 2 _ rfl
  go_wp2_with (first | ((with_reducible refine ld_lay ll rfl ?a52 ?h52); (case a52 => exact ⟨_, rfl, rfl, rfl⟩)))
  ((with_reducible refine (HS.out _).mono ?_); rintro e w2 ⟨rfl, hb⟩)
  clear ll_4
  clear mm_0 mm_1 mm_2
  have hsz := hb.size
  (try simp at hsz)
  replace ll := cellsAt_keep ll hb
  replace mm := cellsAt_keep mm hb
  replace llz : w.heap.size < w2.heap.size := by omega
  replace mmz : w.heap.size + 1 < w2.heap.size := by omega
  have h2 := curAt_keep h1 hb
  replace G := gb_trans G (gb_of_below (some g) hb)
  clear hb hsz
  replace hS0 := G.size
  have ll_4 := ll 4 _ rfl
  have mm_0 := mm 0 _ rfl
  have mm_1 := mm 1 _ rfl
  have mm_2 := mm 2 _ rfl
  go_wp2_with (first | ((with_reducible refine ld_lay ll rfl ?a53 ?h53); (case a53 => exact ⟨_, rfl, rfl, rfl⟩)))
  ((with_reducible refine (HL1.out _ h2).mono ?_); rintro e w3 ⟨rfl, h3, hb⟩)
  clear ll_4
  clear mm_0 mm_1 mm_2
  have hsz := hb.size
  (try simp at hsz)
  replace ll := cellsAt_gb ll hb (by omega)
  replace mm := cellsAt_gb mm hb (by omega)
  replace llz : w.heap.size < w3.heap.size := by omega
  replace mmz : w.heap.size + 1 < w3.heap.size := by omega
  replace G := gb_trans G hb
  clear hb hsz
  replace hS0 := G.size
  have ll_4 := ll 4 _ rfl
  have mm_0 := mm 0 _ rfl
  have mm_1 := mm 1 _ rfl
  have mm_2 := mm 2 _ rfl
  go_wp2_with (first | ((with_reducible refine ld_lay ll rfl ?a54 ?h54); (case a54 => exact ⟨_, rfl, rfl, rfl⟩)))
  ((with_reducible refine (rkind_any _ _).mono ?_); rintro e w' ⟨rfl, rfl⟩)
  go_wp2_with (first | ((with_reducible refine ld_lay ll rfl ?a55 ?h55); (case a55 => exact ⟨_, rfl, rfl, rfl⟩)))
  ((with_reducible refine (HT.out _).mono ?_); rintro e w4 ⟨rfl, hb⟩)
  clear ll_4
  clear mm_0 mm_1 mm_2
  have hsz := hb.size
  (try simp at hsz)
  replace ll := cellsAt_keep ll hb
  replace mm := cellsAt_keep mm hb
  replace llz : w.heap.size < w4.heap.size := by omega
  replace mmz : w.heap.size + 1 < w4.heap.size := by omega
  have h4 := curAt_keep h3 hb
  replace G := gb_trans G (gb_of_below (some g) hb)
  clear hb hsz
  replace hS0 := G.size
  have ll_4 := ll 4 _ rfl
  have mm_0 := mm 0 _ rfl
  have mm_1 := mm 1 _ rfl
  have mm_2 := mm 2 _ rfl
  go_wp2_with (first | ((with_reducible refine ld_lay ll rfl ?a56 ?h56); (case a56 => exact ⟨_, rfl, rfl, rfl⟩)))
  ((with_reducible refine (HL2.out _ h4).mono ?_); rintro e w5 ⟨rfl, h5, hb⟩)
  clear ll_4
  clear mm_0 mm_1 mm_2
  have hsz := hb.size
  (try simp at hsz)
  replace ll := cellsAt_gb ll hb (by omega)
  replace mm := cellsAt_gb mm hb (by omega)
  replace llz : w.heap.size < w5.heap.size := by omega
  replace mmz : w.heap.size + 1 < w5.heap.size := by omega
  replace G := gb_trans G hb
  clear hb hsz
  replace hS0 := G.size
  have ll_4 := ll 4 _ rfl
  have mm_0 := mm 0 _ rfl
  have mm_1 := mm 1 _ rfl
  have mm_2 := mm 2 _ rfl
  go_wp2_with (first | ((with_reducible refine ld_lay ll rfl ?a57 ?h57); (case a57 => exact ⟨_, rfl, rfl, rfl⟩)))
  ((with_reducible refine (HK.out _).mono ?_); rintro e w6 ⟨rfl, hb⟩)
  clear ll_4
  clear mm_0 mm_1 mm_2
  have hsz := hb.size
  (try simp at hsz)
  replace ll := cellsAt_keep ll hb
  replace mm := cellsAt_keep mm hb
  replace llz : w.heap.size < w6.heap.size := by omega
  replace mmz : w.heap.size + 1 < w6.heap.size := by omega
  have h6 := curAt_keep h5 hb
  replace G := gb_trans G (gb_of_below (some g) hb)
  clear hb hsz
  replace hS0 := G.size
  have ll_4 := ll 4 _ rfl
  have mm_0 := mm 0 _ rfl
  have mm_1 := mm 1 _ rfl
  have mm_2 := mm 2 _ rfl
  go_wp2_with (first | ((with_reducible refine ld_lay ll rfl ?a58 ?h58); (case a58 => exact ⟨_, rfl, rfl, rfl⟩)))
  ((with_reducible refine (HL3.out _ h6).mono ?_); rintro e w7 ⟨rfl, h7, hb⟩)
  clear ll_4
  clear mm_0 mm_1 mm_2
  have hsz := hb.size
  (try simp at hsz)
  replace ll := cellsAt_gb ll hb (by omega)
  replace mm := cellsAt_gb mm hb (by omega)
  replace llz : w.heap.size < w7.heap.size := by omega
  replace mmz : w.heap.size + 1 < w7.heap.size := by omega
  replace G := gb_trans G hb
  clear hb hsz
  replace hS0 := G.size
  have ll_4 := ll 4 _ rfl
  have mm_0 := mm 0 _ rfl
  have mm_1 := mm 1 _ rfl
  have mm_2 := mm 2 _ rfl
  go_wp2_with (first | ((with_reducible refine ld_lay ll rfl ?a59 ?h59); (case a59 => exact ⟨_, rfl, rfl, rfl⟩)))
  ((with_reducible refine (rtry_any _ hi _).mono ?_); rintro e w' ⟨rfl, rfl⟩)
  go_wp2_with (first | ((with_reducible refine ld_lay ll rfl ?a60 ?h60); (case a60 => exact ⟨_, rfl, rfl, rfl⟩)))
  ((with_reducible refine (HC.out _).mono ?_); rintro e w8 ⟨rfl, hb⟩)
  clear ll_4
  clear mm_0 mm_1 mm_2
  have hsz := hb.size
  (try simp at hsz)
  replace ll := cellsAt_keep ll hb
  replace mm := cellsAt_keep mm hb
  replace llz : w.heap.size < w8.heap.size := by omega
  replace mmz : w.heap.size + 1 < w8.heap.size := by omega
  have h8 := curAt_keep h7 hb
  replace G := gb_trans G (gb_of_below (some g) hb)
  clear hb hsz
  replace hS0 := G.size
  have ll_4 := ll 4 _ rfl
  have mm_0 := mm 0 _ rfl
  have mm_1 := mm 1 _ rfl
  have mm_2 := mm 2 _ rfl
  go_wp2_with (first | ((with_reducible refine ld_lay ll rfl ?a61 ?h61); (case a61 => exact ⟨_, rfl, rfl, rfl⟩)))
  ((with_reducible refine (HS.out _).mono ?_); rintro e w9 ⟨rfl, hb⟩)
  clear ll_4
  clear mm_0 mm_1 mm_2
  have hsz := hb.size
  (try simp at hsz)
  replace ll := cellsAt_keep ll hb
  replace mm := cellsAt_keep mm hb
  replace llz : w.heap.size < w9.heap.size := by omega
  replace mmz : w.heap.size + 1 < w9.heap.size := by omega
  have h9 := curAt_keep h8 hb
  replace G := gb_trans G (gb_of_below (some g) hb)
  clear hb hsz
  replace hS0 := G.size
  have ll_4 := ll 4 _ rfl
  have mm_0 := mm 0 _ rfl
  have mm_1 := mm 1 _ rfl
  have mm_2 := mm 2 _ rfl
  go_wp2_with (first | ((with_reducible refine ld_lay ll rfl ?a62 ?h62); (case a62 => exact ⟨_, rfl, rfl, rfl⟩)))
  ((with_reducible refine (rwstatus_any _ _ _).mono ?_); rintro e w' ⟨rfl, rfl⟩)
  go_wp2_with (first | ((with_reducible refine ld_lay ll rfl ?a63 ?h63); (case a63 => exact ⟨_, rfl, rfl, rfl⟩)))
  ((with_reducible refine (HX.out _ h9).mono ?_); rintro e w10 ⟨rfl, h10, hb⟩)
  clear ll_4
  clear mm_0 mm_1 mm_2
  have hsz := hb.size
  (try simp at hsz)
  replace ll := cellsAt_gb ll hb (by omega)
  replace mm := cellsAt_gb mm hb (by omega)
  replace llz : w.heap.size < w10.heap.size := by omega
  replace mmz : w.heap.size + 1 < w10.heap.size := by omega
  replace G := gb_trans G hb
  clear hb hsz
  replace hS0 := G.size
  have ll_4 := ll 4 _ rfl
  have mm_0 := mm 0 _ rfl
  have mm_1 := mm 1 _ rfl
  have mm_2 := mm 2 _ rfl
  go_wp2_with (first | ((with_reducible refine ld_lay ll rfl ?a64 ?h64); (case a64 => exact ⟨_, rfl, rfl, rfl⟩)))
  go_ret2
  exact ⟨rfl, h10, G⟩

theorem ask_t_idle (w : World) (g : Nat) (L : Ly) (hok : L.ok) (me other : Int) (m : Ct) (c0 : CSt) (h0 : CurAt w g c0) (r0 : Int) (b0 : Bool) (ca : CSt) (eca : cdo c0 ⟨1, atStatus L me, 0, 0⟩ = ((r0, b0), ca)) (ho : ¬r0 % 4 = 3) (s : Int) (b1 : Bool) (c1 : CSt) (ec1 : cdo ca ⟨1, atStatus L other, 0, 0⟩ = ((s, b1), c1)) (hs : s % 4 = 0) :
    Calls Try.prog 63 #[.pointer (some ⟨g, 0, none⟩), L.v, .int .i64 me, .int .i64 other, .bool true, m.v] w fun e w' => e = .returned (.tuple #[.int .i64 0, .bool false]) ∧ CurAt w' g c1 ∧ w.grownBy w' (some g) := by
  have HS : Hid (∀ w, Calls Try.prog 62 #[L.v, .int .i64 other] w fun e w' => e = .returned (.int .i64 (atStatus L other)) ∧ Below w.heap.size w w') := Lib.hid (fun w => rstatus_any L other w hok)
  have HM : Hid (∀ w, Calls Try.prog 62 #[L.v, .int .i64 me] w fun e w' => e = .returned (.int .i64 (atStatus L me)) ∧ Below w.heap.size w w') := Lib.hid (fun w => rstatus_any L me w hok)
  have HL0 : Hid (∀ w, CurAt w g c0 → Calls Try.prog 78 #[.pointer (some ⟨g, 0, none⟩), .int .i64 (atStatus L me)] w fun e w' => e = .returned (.int .i64 r0) ∧ CurAt w' g ca ∧ w.grownBy w' (some g)) := Lib.hid (fun w h => by have := rload_any02 w g c0 (atStatus L me) h; rw [eca] at this; exact this)
  have q0 : (r0 % 4 == 3) = false := by simp [ho]
  have HL1 : Hid (∀ w, CurAt w g ca → Calls Try.prog 78 #[.pointer (some ⟨g, 0, none⟩), .int .i64 (atStatus L other)] w fun e w' => e = .returned (.int .i64 s) ∧ CurAt w' g c1 ∧ w.grownBy w' (some g)) := Lib.hid (fun w h => by have := rload_any02 w g ca (atStatus L other) h; rw [ec1] at this; exact this)
  have q1 : (s % 4 == 0) = true := by simp [hs]
  unfold Ly.v at HS HM ⊢
  unfold Ct.v
  have hg0 := curAt_lt h0
  have G : w.grownBy w (some g) := gb_refl _ _
  have hS0 : w.heap.size + 0 ≤ w.heap.size := Nat.le_refl _
  go_enter Try.func63, Try.ntmps63
  go_wp2_with fail
  obtain ⟨w1, hwr⟩ : ∃ W, W = ((w.alloc (.cells #[.int .i64 L.c.t, .int .i64 L.c.l, .int .i64 L.c.k, .int .i64 L.c.s, .int .i64 L.c.m, .int .i64 L.clock, .int .i64 L.stamps, .int .i64 L.log, .int .i64 L.fin, .int .i64 L.thread, .int .i64 L.lock, .int .i64 L.loc, .int .i64 L.size] 41)).alloc (.cells #[.int .i64 m.s, .int .i64 m.k, .int .i64 m.a] 23)) := ⟨_, rfl⟩
  rw [← hwr]
  have hb : Below w.heap.size w w1 := by rw [hwr]; exact (Below.alloc (Below.alloc (Below.refl _ _) (by first | exact Nat.le_refl _ | (simp; omega) | simp) _) (by first | exact Nat.le_refl _ | (simp; omega) | simp) _)
  have ll : CellsAt w1 (w.heap.size) [.int .i64 L.c.t, .int .i64 L.c.l, .int .i64 L.c.k, .int .i64 L.c.s, .int .i64 L.c.m, .int .i64 L.clock, .int .i64 L.stamps, .int .i64 L.log, .int .i64 L.fin, .int .i64 L.thread, .int .i64 L.lock, .int .i64 L.loc, .int .i64 L.size] := by rw [hwr]; exact (cellsAt_alloc (cellsAt_new' w _ _ (w.heap.size) (by simp)) _)
  have llz : w.heap.size < w1.heap.size := World.block_lt_of_cell? _ _ (ll 0 _ rfl)
  have mm : CellsAt w1 (w.heap.size + 1) [.int .i64 m.s, .int .i64 m.k, .int .i64 m.a] := by rw [hwr]; exact (cellsAt_new' (w.alloc (.cells #[.int .i64 L.c.t, .int .i64 L.c.l, .int .i64 L.c.k, .int .i64 L.c.s, .int .i64 L.c.m, .int .i64 L.clock, .int .i64 L.stamps, .int .i64 L.log, .int .i64 L.fin, .int .i64 L.thread, .int .i64 L.lock, .int .i64 L.loc, .int .i64 L.size] 41)) _ _ (w.heap.size + 1) (by simp))
  have mmz : w.heap.size + 1 < w1.heap.size := World.block_lt_of_cell? _ _ (mm 0 _ rfl)
  have h1 := curAt_keep h0 hb
  replace G := gb_trans G (gb_of_below (some g) hb)
  clear hb hwr
  replace hS0 := G.size
  have ll_4 := ll 4 _ rfl
  have mm_0 := mm 0 _ rfl
  have mm_1 := mm 1 _ rfl
  have mm_2 := mm 2 _ rfl
  go_wp2_with (first | ((with_reducible refine ld_lay ll rfl ?a65 ?h65); (case a65 => exact ⟨_, rfl, rfl, rfl⟩)))
  ((with_reducible refine (HM.out _).mono ?_); rintro e w2 ⟨rfl, hb⟩)
  clear ll_4
  clear mm_0 mm_1 mm_2
  have hsz := hb.size
  (try simp at hsz)
  replace ll := cellsAt_keep ll hb
  replace mm := cellsAt_keep mm hb
  replace llz : w.heap.size < w2.heap.size := by omega
  replace mmz : w.heap.size + 1 < w2.heap.size := by omega
  have h2 := curAt_keep h1 hb
  replace G := gb_trans G (gb_of_below (some g) hb)
  clear hb hsz
  replace hS0 := G.size
  have ll_4 := ll 4 _ rfl
  have mm_0 := mm 0 _ rfl
  have mm_1 := mm 1 _ rfl
  have mm_2 := mm 2 _ rfl
  go_wp2_with (first | ((with_reducible refine ld_lay ll rfl ?a66 ?h66); (case a66 => exact ⟨_, rfl, rfl, rfl⟩)))
  ((with_reducible refine (HL0.out _ h2).mono ?_); rintro e w3 ⟨rfl, h3, hb⟩)
  clear ll_4
  clear mm_0 mm_1 mm_2
  have hsz := hb.size
  (try simp at hsz)
  replace ll := cellsAt_gb ll hb (by omega)
  replace mm := cellsAt_gb mm hb (by omega)
  replace llz : w.heap.size < w3.heap.size := by omega
  replace mmz : w.heap.size + 1 < w3.heap.size := by omega
  replace G := gb_trans G hb
  clear hb hsz
  replace hS0 := G.size
  have ll_4 := ll 4 _ rfl
  have mm_0 := mm 0 _ rfl
  have mm_1 := mm 1 _ rfl
  have mm_2 := mm 2 _ rfl
  go_wp2_with (first | ((with_reducible refine ld_lay ll rfl ?a67 ?h67); (case a67 => exact ⟨_, rfl, rfl, rfl⟩)))
  ((with_reducible refine (rkind_any _ _).mono ?_); rintro e w' ⟨rfl, rfl⟩)
  go_wp2_with (first | ((with_reducible refine ld_lay ll rfl ?a68 ?h68); (case a68 => exact ⟨_, rfl, rfl, rfl⟩)))
  ((with_reducible refine (HS.out _).mono ?_); rintro e w4 ⟨rfl, hb⟩)
  clear ll_4
  clear mm_0 mm_1 mm_2
  have hsz := hb.size
  (try simp at hsz)
  replace ll := cellsAt_keep ll hb
  replace mm := cellsAt_keep mm hb
  replace llz : w.heap.size < w4.heap.size := by omega
  replace mmz : w.heap.size + 1 < w4.heap.size := by omega
  have h4 := curAt_keep h3 hb
  replace G := gb_trans G (gb_of_below (some g) hb)
  clear hb hsz
  replace hS0 := G.size
  have ll_4 := ll 4 _ rfl
  have mm_0 := mm 0 _ rfl
  have mm_1 := mm 1 _ rfl
  have mm_2 := mm 2 _ rfl
  go_wp2_with (first | ((with_reducible refine ld_lay ll rfl ?a69 ?h69); (case a69 => exact ⟨_, rfl, rfl, rfl⟩)))
  ((with_reducible refine (HL1.out _ h4).mono ?_); rintro e w5 ⟨rfl, h5, hb⟩)
  clear ll_4
  clear mm_0 mm_1 mm_2
  have hsz := hb.size
  (try simp at hsz)
  replace ll := cellsAt_gb ll hb (by omega)
  replace mm := cellsAt_gb mm hb (by omega)
  replace llz : w.heap.size < w5.heap.size := by omega
  replace mmz : w.heap.size + 1 < w5.heap.size := by omega
  replace G := gb_trans G hb
  clear hb hsz
  replace hS0 := G.size
  have ll_4 := ll 4 _ rfl
  have mm_0 := mm 0 _ rfl
  have mm_1 := mm 1 _ rfl
  have mm_2 := mm 2 _ rfl
  go_wp2_with (first | ((with_reducible refine ld_lay ll rfl ?a70 ?h70); (case a70 => exact ⟨_, rfl, rfl, rfl⟩)))
  ((with_reducible refine (rkind_any _ _).mono ?_); rintro e w' ⟨rfl, rfl⟩)
  go_wp2_with (first | ((with_reducible refine ld_lay ll rfl ?a71 ?h71); (case a71 => exact ⟨_, rfl, rfl, rfl⟩)))
  go_ret2
  exact ⟨rfl, h5, G⟩

theorem ask_t_abort (w : World) (g : Nat) (L : Ly) (hok : L.ok) (me other : Int) (m : Ct) (c0 : CSt) (h0 : CurAt w g c0) (r0 : Int) (b0 : Bool) (ca : CSt) (eca : cdo c0 ⟨1, atStatus L me, 0, 0⟩ = ((r0, b0), ca)) (ho : ¬r0 % 4 = 3) (s : Int) (b1 : Bool) (c1 : CSt) (ec1 : cdo ca ⟨1, atStatus L other, 0, 0⟩ = ((s, b1), c1)) (hs : ¬s % 4 = 0) (hi : I64 s) (x : Int) (b2 : Bool) (c2 : CSt) (ec2 : cdo c1 ⟨1, atStamp L other, 0, 0⟩ = ((x, b2), c2)) (y : Int) (b3 : Bool) (c3 : CSt) (ec3 : cdo c2 ⟨1, atKarma L other, 0, 0⟩ = ((y, b3), c3)) (hv : chooseD L.c.m m ⟨x, y, s / 4⟩ = 1) :
    Calls Try.prog 63 #[.pointer (some ⟨g, 0, none⟩), L.v, .int .i64 me, .int .i64 other, .bool true, m.v] w fun e w' => e = .returned (.tuple #[.int .i64 1, .bool false]) ∧ CurAt w' g c3 ∧ w.grownBy w' (some g) := by
  have HS : Hid (∀ w, Calls Try.prog 62 #[L.v, .int .i64 other] w fun e w' => e = .returned (.int .i64 (atStatus L other)) ∧ Below w.heap.size w w') := Lib.hid (fun w => rstatus_any L other w hok)
  have HM : Hid (∀ w, Calls Try.prog 62 #[L.v, .int .i64 me] w fun e w' => e = .returned (.int .i64 (atStatus L me)) ∧ Below w.heap.size w w') := Lib.hid (fun w => rstatus_any L me w hok)
  have HL0 : Hid (∀ w, CurAt w g c0 → Calls Try.prog 78 #[.pointer (some ⟨g, 0, none⟩), .int .i64 (atStatus L me)] w fun e w' => e = .returned (.int .i64 r0) ∧ CurAt w' g ca ∧ w.grownBy w' (some g)) := Lib.hid (fun w h => by have := rload_any02 w g c0 (atStatus L me) h; rw [eca] at this; exact this)
  have q0 : (r0 % 4 == 3) = false := by simp [ho]
  have HL1 : Hid (∀ w, CurAt w g ca → Calls Try.prog 78 #[.pointer (some ⟨g, 0, none⟩), .int .i64 (atStatus L other)] w fun e w' => e = .returned (.int .i64 s) ∧ CurAt w' g c1 ∧ w.grownBy w' (some g)) := Lib.hid (fun w h => by have := rload_any02 w g ca (atStatus L other) h; rw [ec1] at this; exact this)
  have q1 : (s % 4 == 0) = false := by simp [hs]
  have HT : Hid (∀ w, Calls Try.prog 94 #[L.v, .int .i64 other] w fun e w' => e = .returned (.int .i64 (atStamp L other)) ∧ Below w.heap.size w w') := Lib.hid (fun w => rstamp_any L other w hok)
  have HK : Hid (∀ w, Calls Try.prog 95 #[L.v, .int .i64 other] w fun e w' => e = .returned (.int .i64 (atKarma L other)) ∧ Below w.heap.size w w') := Lib.hid (fun w => rkarma_any L other w hok)
  have HL2 : Hid (∀ w, CurAt w g c1 → Calls Try.prog 78 #[.pointer (some ⟨g, 0, none⟩), .int .i64 (atStamp L other)] w fun e w' => e = .returned (.int .i64 x) ∧ CurAt w' g c2 ∧ w.grownBy w' (some g)) := Lib.hid (fun w h => by have := rload_any02 w g c1 (atStamp L other) h; rw [ec2] at this; exact this)
  have HL3 : Hid (∀ w, CurAt w g c2 → Calls Try.prog 78 #[.pointer (some ⟨g, 0, none⟩), .int .i64 (atKarma L other)] w fun e w' => e = .returned (.int .i64 y) ∧ CurAt w' g c3 ∧ w.grownBy w' (some g)) := Lib.hid (fun w h => by have := rload_any02 w g c2 (atKarma L other) h; rw [ec3] at this; exact this)
  have HC : Hid (∀ w, Calls Try.prog 31 #[.int .i64 L.c.m, m.v, Ct.v ⟨x, y, s / 4⟩] w fun e w' => e = .returned (.int .i64 1) ∧ Below w.heap.size w w') := Lib.hid (fun w => by have := rchoose_any L.c.m m ⟨x, y, s / 4⟩ w; rwa [hv] at this)
  unfold Ct.v at HC
  unfold Ly.v at HS HM HT HK ⊢
  unfold Ct.v
  have hg0 := curAt_lt h0
  have G : w.grownBy w (some g) := gb_refl _ _
  have hS0 : w.heap.size + 0 ≤ w.heap.size := Nat.le_refl _
  go_enter Try.func63, Try.ntmps63
  go_wp2_with fail
  obtain ⟨w1, hwr⟩ : ∃ W, W = ((w.alloc (.cells #[.int .i64 L.c.t, .int .i64 L.c.l, .int .i64 L.c.k, .int .i64 L.c.s, .int .i64 L.c.m, .int .i64 L.clock, .int .i64 L.stamps, .int .i64 L.log, .int .i64 L.fin, .int .i64 L.thread, .int .i64 L.lock, .int .i64 L.loc, .int .i64 L.size] 41)).alloc (.cells #[.int .i64 m.s, .int .i64 m.k, .int .i64 m.a] 23)) := ⟨_, rfl⟩
  rw [← hwr]
  have hb : Below w.heap.size w w1 := by rw [hwr]; exact (Below.alloc (Below.alloc (Below.refl _ _) (by first | exact Nat.le_refl _ | (simp; omega) | simp) _) (by first | exact Nat.le_refl _ | (simp; omega) | simp) _)
  have ll : CellsAt w1 (w.heap.size) [.int .i64 L.c.t, .int .i64 L.c.l, .int .i64 L.c.k, .int .i64 L.c.s, .int .i64 L.c.m, .int .i64 L.clock, .int .i64 L.stamps, .int .i64 L.log, .int .i64 L.fin, .int .i64 L.thread, .int .i64 L.lock, .int .i64 L.loc, .int .i64 L.size] := by rw [hwr]; exact (cellsAt_alloc (cellsAt_new' w _ _ (w.heap.size) (by simp)) _)
  have llz : w.heap.size < w1.heap.size := World.block_lt_of_cell? _ _ (ll 0 _ rfl)
  have mm : CellsAt w1 (w.heap.size + 1) [.int .i64 m.s, .int .i64 m.k, .int .i64 m.a] := by rw [hwr]; exact (cellsAt_new' (w.alloc (.cells #[.int .i64 L.c.t, .int .i64 L.c.l, .int .i64 L.c.k, .int .i64 L.c.s, .int .i64 L.c.m, .int .i64 L.clock, .int .i64 L.stamps, .int .i64 L.log, .int .i64 L.fin, .int .i64 L.thread, .int .i64 L.lock, .int .i64 L.loc, .int .i64 L.size] 41)) _ _ (w.heap.size + 1) (by simp))
  have mmz : w.heap.size + 1 < w1.heap.size := World.block_lt_of_cell? _ _ (mm 0 _ rfl)
  have h1 := curAt_keep h0 hb
  replace G := gb_trans G (gb_of_below (some g) hb)
  clear hb hwr
  replace hS0 := G.size
  have ll_4 := ll 4 _ rfl
  have mm_0 := mm 0 _ rfl
  have mm_1 := mm 1 _ rfl
  have mm_2 := mm 2 _ rfl
  go_wp2_with (first | ((with_reducible refine ld_lay ll rfl ?a72 ?h72); (case a72 => exact ⟨_, rfl, rfl, rfl⟩)))
  ((with_reducible refine (HM.out _).mono ?_); rintro e w2 ⟨rfl, hb⟩)
  clear ll_4
  clear mm_0 mm_1 mm_2
  have hsz := hb.size
  (try simp at hsz)
  replace ll := cellsAt_keep ll hb
  replace mm := cellsAt_keep mm hb
  replace llz : w.heap.size < w2.heap.size := by omega
  replace mmz : w.heap.size + 1 < w2.heap.size := by omega
  have h2 := curAt_keep h1 hb
  replace G := gb_trans G (gb_of_below (some g) hb)
  clear hb hsz
  replace hS0 := G.size
  have ll_4 := ll 4 _ rfl
  have mm_0 := mm 0 _ rfl
  have mm_1 := mm 1 _ rfl
  have mm_2 := mm 2 _ rfl
  go_wp2_with (first | ((with_reducible refine ld_lay ll rfl ?a73 ?h73); (case a73 => exact ⟨_, rfl, rfl, rfl⟩)))
  ((with_reducible refine (HL0.out _ h2).mono ?_); rintro e w3 ⟨rfl, h3, hb⟩)
  clear ll_4
  clear mm_0 mm_1 mm_2
  have hsz := hb.size
  (try simp at hsz)
  replace ll := cellsAt_gb ll hb (by omega)
  replace mm := cellsAt_gb mm hb (by omega)
  replace llz : w.heap.size < w3.heap.size := by omega
  replace mmz : w.heap.size + 1 < w3.heap.size := by omega
  replace G := gb_trans G hb
  clear hb hsz
  replace hS0 := G.size
  have ll_4 := ll 4 _ rfl
  have mm_0 := mm 0 _ rfl
  have mm_1 := mm 1 _ rfl
  have mm_2 := mm 2 _ rfl
  go_wp2_with (first | ((with_reducible refine ld_lay ll rfl ?a74 ?h74); (case a74 => exact ⟨_, rfl, rfl, rfl⟩)))
  ((with_reducible refine (rkind_any _ _).mono ?_); rintro e w' ⟨rfl, rfl⟩)
  go_wp2_with (first | ((with_reducible refine ld_lay ll rfl ?a75 ?h75); (case a75 => exact ⟨_, rfl, rfl, rfl⟩)))
  ((with_reducible refine (HS.out _).mono ?_); rintro e w4 ⟨rfl, hb⟩)
  clear ll_4
  clear mm_0 mm_1 mm_2
  have hsz := hb.size
  (try simp at hsz)
  replace ll := cellsAt_keep ll hb
  replace mm := cellsAt_keep mm hb
  replace llz : w.heap.size < w4.heap.size := by omega
  replace mmz : w.heap.size + 1 < w4.heap.size := by omega
  have h4 := curAt_keep h3 hb
  replace G := gb_trans G (gb_of_below (some g) hb)
  clear hb hsz
  replace hS0 := G.size
  have ll_4 := ll 4 _ rfl
  have mm_0 := mm 0 _ rfl
  have mm_1 := mm 1 _ rfl
  have mm_2 := mm 2 _ rfl
  go_wp2_with (first | ((with_reducible refine ld_lay ll rfl ?a76 ?h76); (case a76 => exact ⟨_, rfl, rfl, rfl⟩)))
  ((with_reducible refine (HL1.out _ h4).mono ?_); rintro e w5 ⟨rfl, h5, hb⟩)
  clear ll_4
  clear mm_0 mm_1 mm_2
  have hsz := hb.size
  (try simp at hsz)
  replace ll := cellsAt_gb ll hb (by omega)
  replace mm := cellsAt_gb mm hb (by omega)
  replace llz : w.heap.size < w5.heap.size := by omega
  replace mmz : w.heap.size + 1 < w5.heap.size := by omega
  replace G := gb_trans G hb
  clear hb hsz
  replace hS0 := G.size
  have ll_4 := ll 4 _ rfl
  have mm_0 := mm 0 _ rfl
  have mm_1 := mm 1 _ rfl
  have mm_2 := mm 2 _ rfl
  go_wp2_with (first | ((with_reducible refine ld_lay ll rfl ?a77 ?h77); (case a77 => exact ⟨_, rfl, rfl, rfl⟩)))
  ((with_reducible refine (rkind_any _ _).mono ?_); rintro e w' ⟨rfl, rfl⟩)
  go_wp2_with (first | ((with_reducible refine ld_lay ll rfl ?a78 ?h78); (case a78 => exact ⟨_, rfl, rfl, rfl⟩)))
  ((with_reducible refine (HT.out _).mono ?_); rintro e w6 ⟨rfl, hb⟩)
  clear ll_4
  clear mm_0 mm_1 mm_2
  have hsz := hb.size
  (try simp at hsz)
  replace ll := cellsAt_keep ll hb
  replace mm := cellsAt_keep mm hb
  replace llz : w.heap.size < w6.heap.size := by omega
  replace mmz : w.heap.size + 1 < w6.heap.size := by omega
  have h6 := curAt_keep h5 hb
  replace G := gb_trans G (gb_of_below (some g) hb)
  clear hb hsz
  replace hS0 := G.size
  have ll_4 := ll 4 _ rfl
  have mm_0 := mm 0 _ rfl
  have mm_1 := mm 1 _ rfl
  have mm_2 := mm 2 _ rfl
  go_wp2_with (first | ((with_reducible refine ld_lay ll rfl ?a79 ?h79); (case a79 => exact ⟨_, rfl, rfl, rfl⟩)))
  ((with_reducible refine (HL2.out _ h6).mono ?_); rintro e w7 ⟨rfl, h7, hb⟩)
  clear ll_4
  clear mm_0 mm_1 mm_2
  have hsz := hb.size
  (try simp at hsz)
  replace ll := cellsAt_gb ll hb (by omega)
  replace mm := cellsAt_gb mm hb (by omega)
  replace llz : w.heap.size < w7.heap.size := by omega
  replace mmz : w.heap.size + 1 < w7.heap.size := by omega
  replace G := gb_trans G hb
  clear hb hsz
  replace hS0 := G.size
  have ll_4 := ll 4 _ rfl
  have mm_0 := mm 0 _ rfl
  have mm_1 := mm 1 _ rfl
  have mm_2 := mm 2 _ rfl
  go_wp2_with (first | ((with_reducible refine ld_lay ll rfl ?a80 ?h80); (case a80 => exact ⟨_, rfl, rfl, rfl⟩)))
  ((with_reducible refine (HK.out _).mono ?_); rintro e w8 ⟨rfl, hb⟩)
  clear ll_4
  clear mm_0 mm_1 mm_2
  have hsz := hb.size
  (try simp at hsz)
  replace ll := cellsAt_keep ll hb
  replace mm := cellsAt_keep mm hb
  replace llz : w.heap.size < w8.heap.size := by omega
  replace mmz : w.heap.size + 1 < w8.heap.size := by omega
  have h8 := curAt_keep h7 hb
  replace G := gb_trans G (gb_of_below (some g) hb)
  clear hb hsz
  replace hS0 := G.size
  have ll_4 := ll 4 _ rfl
  have mm_0 := mm 0 _ rfl
  have mm_1 := mm 1 _ rfl
  have mm_2 := mm 2 _ rfl
  go_wp2_with (first | ((with_reducible refine ld_lay ll rfl ?a81 ?h81); (case a81 => exact ⟨_, rfl, rfl, rfl⟩)))
  ((with_reducible refine (HL3.out _ h8).mono ?_); rintro e w9 ⟨rfl, h9, hb⟩)
  clear ll_4
  clear mm_0 mm_1 mm_2
  have hsz := hb.size
  (try simp at hsz)
  replace ll := cellsAt_gb ll hb (by omega)
  replace mm := cellsAt_gb mm hb (by omega)
  replace llz : w.heap.size < w9.heap.size := by omega
  replace mmz : w.heap.size + 1 < w9.heap.size := by omega
  replace G := gb_trans G hb
  clear hb hsz
  replace hS0 := G.size
  have ll_4 := ll 4 _ rfl
  have mm_0 := mm 0 _ rfl
  have mm_1 := mm 1 _ rfl
  have mm_2 := mm 2 _ rfl
  go_wp2_with (first | ((with_reducible refine ld_lay ll rfl ?a82 ?h82); (case a82 => exact ⟨_, rfl, rfl, rfl⟩)))
  ((with_reducible refine (rtry_any _ hi _).mono ?_); rintro e w' ⟨rfl, rfl⟩)
  go_wp2_with (first | ((with_reducible refine ld_lay ll rfl ?a83 ?h83); (case a83 => exact ⟨_, rfl, rfl, rfl⟩)))
  ((with_reducible refine (HC.out _).mono ?_); rintro e w10 ⟨rfl, hb⟩)
  clear ll_4
  clear mm_0 mm_1 mm_2
  have hsz := hb.size
  (try simp at hsz)
  replace ll := cellsAt_keep ll hb
  replace mm := cellsAt_keep mm hb
  replace llz : w.heap.size < w10.heap.size := by omega
  replace mmz : w.heap.size + 1 < w10.heap.size := by omega
  have h10 := curAt_keep h9 hb
  replace G := gb_trans G (gb_of_below (some g) hb)
  clear hb hsz
  replace hS0 := G.size
  have ll_4 := ll 4 _ rfl
  have mm_0 := mm 0 _ rfl
  have mm_1 := mm 1 _ rfl
  have mm_2 := mm 2 _ rfl
  go_wp2_with (first | ((with_reducible refine ld_lay ll rfl ?a84 ?h84); (case a84 => exact ⟨_, rfl, rfl, rfl⟩)))
  go_ret2
  exact ⟨rfl, h10, G⟩

theorem ask_t_k3 (w : World) (g : Nat) (L : Ly) (hok : L.ok) (me other : Int) (m : Ct) (c0 : CSt) (h0 : CurAt w g c0) (r0 : Int) (b0 : Bool) (ca : CSt) (eca : cdo c0 ⟨1, atStatus L me, 0, 0⟩ = ((r0, b0), ca)) (ho : ¬r0 % 4 = 3) (s : Int) (b1 : Bool) (c1 : CSt) (ec1 : cdo ca ⟨1, atStatus L other, 0, 0⟩ = ((s, b1), c1)) (hs : ¬s % 4 = 0) (hi : I64 s) (x : Int) (b2 : Bool) (c2 : CSt) (ec2 : cdo c1 ⟨1, atStamp L other, 0, 0⟩ = ((x, b2), c2)) (y : Int) (b3 : Bool) (c3 : CSt) (ec3 : cdo c2 ⟨1, atKarma L other, 0, 0⟩ = ((y, b3), c3)) (hv : chooseD L.c.m m ⟨x, y, s / 4⟩ = 2) (hk : s % 4 = 3) :
    Calls Try.prog 63 #[.pointer (some ⟨g, 0, none⟩), L.v, .int .i64 me, .int .i64 other, .bool true, m.v] w fun e w' => e = .returned (.tuple #[.int .i64 2, .bool false]) ∧ CurAt w' g c3 ∧ w.grownBy w' (some g) := by
  have HS : Hid (∀ w, Calls Try.prog 62 #[L.v, .int .i64 other] w fun e w' => e = .returned (.int .i64 (atStatus L other)) ∧ Below w.heap.size w w') := Lib.hid (fun w => rstatus_any L other w hok)
  have HM : Hid (∀ w, Calls Try.prog 62 #[L.v, .int .i64 me] w fun e w' => e = .returned (.int .i64 (atStatus L me)) ∧ Below w.heap.size w w') := Lib.hid (fun w => rstatus_any L me w hok)
  have HL0 : Hid (∀ w, CurAt w g c0 → Calls Try.prog 78 #[.pointer (some ⟨g, 0, none⟩), .int .i64 (atStatus L me)] w fun e w' => e = .returned (.int .i64 r0) ∧ CurAt w' g ca ∧ w.grownBy w' (some g)) := Lib.hid (fun w h => by have := rload_any02 w g c0 (atStatus L me) h; rw [eca] at this; exact this)
  have q0 : (r0 % 4 == 3) = false := by simp [ho]
  have HL1 : Hid (∀ w, CurAt w g ca → Calls Try.prog 78 #[.pointer (some ⟨g, 0, none⟩), .int .i64 (atStatus L other)] w fun e w' => e = .returned (.int .i64 s) ∧ CurAt w' g c1 ∧ w.grownBy w' (some g)) := Lib.hid (fun w h => by have := rload_any02 w g ca (atStatus L other) h; rw [ec1] at this; exact this)
  have q1 : (s % 4 == 0) = false := by simp [hs]
  have HT : Hid (∀ w, Calls Try.prog 94 #[L.v, .int .i64 other] w fun e w' => e = .returned (.int .i64 (atStamp L other)) ∧ Below w.heap.size w w') := Lib.hid (fun w => rstamp_any L other w hok)
  have HK : Hid (∀ w, Calls Try.prog 95 #[L.v, .int .i64 other] w fun e w' => e = .returned (.int .i64 (atKarma L other)) ∧ Below w.heap.size w w') := Lib.hid (fun w => rkarma_any L other w hok)
  have HL2 : Hid (∀ w, CurAt w g c1 → Calls Try.prog 78 #[.pointer (some ⟨g, 0, none⟩), .int .i64 (atStamp L other)] w fun e w' => e = .returned (.int .i64 x) ∧ CurAt w' g c2 ∧ w.grownBy w' (some g)) := Lib.hid (fun w h => by have := rload_any02 w g c1 (atStamp L other) h; rw [ec2] at this; exact this)
  have HL3 : Hid (∀ w, CurAt w g c2 → Calls Try.prog 78 #[.pointer (some ⟨g, 0, none⟩), .int .i64 (atKarma L other)] w fun e w' => e = .returned (.int .i64 y) ∧ CurAt w' g c3 ∧ w.grownBy w' (some g)) := Lib.hid (fun w h => by have := rload_any02 w g c2 (atKarma L other) h; rw [ec3] at this; exact this)
  have HC : Hid (∀ w, Calls Try.prog 31 #[.int .i64 L.c.m, m.v, Ct.v ⟨x, y, s / 4⟩] w fun e w' => e = .returned (.int .i64 2) ∧ Below w.heap.size w w') := Lib.hid (fun w => by have := rchoose_any L.c.m m ⟨x, y, s / 4⟩ w; rwa [hv] at this)
  unfold Ct.v at HC
  have q3 : (s % 4 == 3) = true := by simp [hk]
  unfold Ly.v at HS HM HT HK ⊢
  unfold Ct.v
  have hg0 := curAt_lt h0
  have G : w.grownBy w (some g) := gb_refl _ _
  have hS0 : w.heap.size + 0 ≤ w.heap.size := Nat.le_refl _
  go_enter Try.func63, Try.ntmps63
  go_wp2_with fail
  obtain ⟨w1, hwr⟩ : ∃ W, W = ((w.alloc (.cells #[.int .i64 L.c.t, .int .i64 L.c.l, .int .i64 L.c.k, .int .i64 L.c.s, .int .i64 L.c.m, .int .i64 L.clock, .int .i64 L.stamps, .int .i64 L.log, .int .i64 L.fin, .int .i64 L.thread, .int .i64 L.lock, .int .i64 L.loc, .int .i64 L.size] 41)).alloc (.cells #[.int .i64 m.s, .int .i64 m.k, .int .i64 m.a] 23)) := ⟨_, rfl⟩
  rw [← hwr]
  have hb : Below w.heap.size w w1 := by rw [hwr]; exact (Below.alloc (Below.alloc (Below.refl _ _) (by first | exact Nat.le_refl _ | (simp; omega) | simp) _) (by first | exact Nat.le_refl _ | (simp; omega) | simp) _)
  have ll : CellsAt w1 (w.heap.size) [.int .i64 L.c.t, .int .i64 L.c.l, .int .i64 L.c.k, .int .i64 L.c.s, .int .i64 L.c.m, .int .i64 L.clock, .int .i64 L.stamps, .int .i64 L.log, .int .i64 L.fin, .int .i64 L.thread, .int .i64 L.lock, .int .i64 L.loc, .int .i64 L.size] := by rw [hwr]; exact (cellsAt_alloc (cellsAt_new' w _ _ (w.heap.size) (by simp)) _)
  have llz : w.heap.size < w1.heap.size := World.block_lt_of_cell? _ _ (ll 0 _ rfl)
  have mm : CellsAt w1 (w.heap.size + 1) [.int .i64 m.s, .int .i64 m.k, .int .i64 m.a] := by rw [hwr]; exact (cellsAt_new' (w.alloc (.cells #[.int .i64 L.c.t, .int .i64 L.c.l, .int .i64 L.c.k, .int .i64 L.c.s, .int .i64 L.c.m, .int .i64 L.clock, .int .i64 L.stamps, .int .i64 L.log, .int .i64 L.fin, .int .i64 L.thread, .int .i64 L.lock, .int .i64 L.loc, .int .i64 L.size] 41)) _ _ (w.heap.size + 1) (by simp))
  have mmz : w.heap.size + 1 < w1.heap.size := World.block_lt_of_cell? _ _ (mm 0 _ rfl)
  have h1 := curAt_keep h0 hb
  replace G := gb_trans G (gb_of_below (some g) hb)
  clear hb hwr
  replace hS0 := G.size
  have ll_4 := ll 4 _ rfl
  have mm_0 := mm 0 _ rfl
  have mm_1 := mm 1 _ rfl
  have mm_2 := mm 2 _ rfl
  go_wp2_with (first | ((with_reducible refine ld_lay ll rfl ?a85 ?h85); (case a85 => exact ⟨_, rfl, rfl, rfl⟩)))
  ((with_reducible refine (HM.out _).mono ?_); rintro e w2 ⟨rfl, hb⟩)
  clear ll_4
  clear mm_0 mm_1 mm_2
  have hsz := hb.size
  (try simp at hsz)
  replace ll := cellsAt_keep ll hb
  replace mm := cellsAt_keep mm hb
  replace llz : w.heap.size < w2.heap.size := by omega
  replace mmz : w.heap.size + 1 < w2.heap.size := by omega
  have h2 := curAt_keep h1 hb
  replace G := gb_trans G (gb_of_below (some g) hb)
  clear hb hsz
  replace hS0 := G.size
  have ll_4 := ll 4 _ rfl
  have mm_0 := mm 0 _ rfl
  have mm_1 := mm 1 _ rfl
  have mm_2 := mm 2 _ rfl
  go_wp2_with (first | ((with_reducible refine ld_lay ll rfl ?a86 ?h86); (case a86 => exact ⟨_, rfl, rfl, rfl⟩)))
  ((with_reducible refine (HL0.out _ h2).mono ?_); rintro e w3 ⟨rfl, h3, hb⟩)
  clear ll_4
  clear mm_0 mm_1 mm_2
  have hsz := hb.size
  (try simp at hsz)
  replace ll := cellsAt_gb ll hb (by omega)
  replace mm := cellsAt_gb mm hb (by omega)
  replace llz : w.heap.size < w3.heap.size := by omega
  replace mmz : w.heap.size + 1 < w3.heap.size := by omega
  replace G := gb_trans G hb
  clear hb hsz
  replace hS0 := G.size
  have ll_4 := ll 4 _ rfl
  have mm_0 := mm 0 _ rfl
  have mm_1 := mm 1 _ rfl
  have mm_2 := mm 2 _ rfl
  go_wp2_with (first | ((with_reducible refine ld_lay ll rfl ?a87 ?h87); (case a87 => exact ⟨_, rfl, rfl, rfl⟩)))
  ((with_reducible refine (rkind_any _ _).mono ?_); rintro e w' ⟨rfl, rfl⟩)
  go_wp2_with (first | ((with_reducible refine ld_lay ll rfl ?a88 ?h88); (case a88 => exact ⟨_, rfl, rfl, rfl⟩)))
  ((with_reducible refine (HS.out _).mono ?_); rintro e w4 ⟨rfl, hb⟩)
  clear ll_4
  clear mm_0 mm_1 mm_2
  have hsz := hb.size
  (try simp at hsz)
  replace ll := cellsAt_keep ll hb
  replace mm := cellsAt_keep mm hb
  replace llz : w.heap.size < w4.heap.size := by omega
  replace mmz : w.heap.size + 1 < w4.heap.size := by omega
  have h4 := curAt_keep h3 hb
  replace G := gb_trans G (gb_of_below (some g) hb)
  clear hb hsz
  replace hS0 := G.size
  have ll_4 := ll 4 _ rfl
  have mm_0 := mm 0 _ rfl
  have mm_1 := mm 1 _ rfl
  have mm_2 := mm 2 _ rfl
  go_wp2_with (first | ((with_reducible refine ld_lay ll rfl ?a89 ?h89); (case a89 => exact ⟨_, rfl, rfl, rfl⟩)))
  ((with_reducible refine (HL1.out _ h4).mono ?_); rintro e w5 ⟨rfl, h5, hb⟩)
  clear ll_4
  clear mm_0 mm_1 mm_2
  have hsz := hb.size
  (try simp at hsz)
  replace ll := cellsAt_gb ll hb (by omega)
  replace mm := cellsAt_gb mm hb (by omega)
  replace llz : w.heap.size < w5.heap.size := by omega
  replace mmz : w.heap.size + 1 < w5.heap.size := by omega
  replace G := gb_trans G hb
  clear hb hsz
  replace hS0 := G.size
  have ll_4 := ll 4 _ rfl
  have mm_0 := mm 0 _ rfl
  have mm_1 := mm 1 _ rfl
  have mm_2 := mm 2 _ rfl
  go_wp2_with (first | ((with_reducible refine ld_lay ll rfl ?a90 ?h90); (case a90 => exact ⟨_, rfl, rfl, rfl⟩)))
  ((with_reducible refine (rkind_any _ _).mono ?_); rintro e w' ⟨rfl, rfl⟩)
  go_wp2_with (first | ((with_reducible refine ld_lay ll rfl ?a91 ?h91); (case a91 => exact ⟨_, rfl, rfl, rfl⟩)))
  ((with_reducible refine (HT.out _).mono ?_); rintro e w6 ⟨rfl, hb⟩)
  clear ll_4
  clear mm_0 mm_1 mm_2
  have hsz := hb.size
  (try simp at hsz)
  replace ll := cellsAt_keep ll hb
  replace mm := cellsAt_keep mm hb
  replace llz : w.heap.size < w6.heap.size := by omega
  replace mmz : w.heap.size + 1 < w6.heap.size := by omega
  have h6 := curAt_keep h5 hb
  replace G := gb_trans G (gb_of_below (some g) hb)
  clear hb hsz
  replace hS0 := G.size
  have ll_4 := ll 4 _ rfl
  have mm_0 := mm 0 _ rfl
  have mm_1 := mm 1 _ rfl
  have mm_2 := mm 2 _ rfl
  go_wp2_with (first | ((with_reducible refine ld_lay ll rfl ?a92 ?h92); (case a92 => exact ⟨_, rfl, rfl, rfl⟩)))
  ((with_reducible refine (HL2.out _ h6).mono ?_); rintro e w7 ⟨rfl, h7, hb⟩)
  clear ll_4
  clear mm_0 mm_1 mm_2
  have hsz := hb.size
  (try simp at hsz)
  replace ll := cellsAt_gb ll hb (by omega)
  replace mm := cellsAt_gb mm hb (by omega)
  replace llz : w.heap.size < w7.heap.size := by omega
  replace mmz : w.heap.size + 1 < w7.heap.size := by omega
  replace G := gb_trans G hb
  clear hb hsz
  replace hS0 := G.size
  have ll_4 := ll 4 _ rfl
  have mm_0 := mm 0 _ rfl
  have mm_1 := mm 1 _ rfl
  have mm_2 := mm 2 _ rfl
  go_wp2_with (first | ((with_reducible refine ld_lay ll rfl ?a93 ?h93); (case a93 => exact ⟨_, rfl, rfl, rfl⟩)))
  ((with_reducible refine (HK.out _).mono ?_); rintro e w8 ⟨rfl, hb⟩)
  clear ll_4
  clear mm_0 mm_1 mm_2
  have hsz := hb.size
  (try simp at hsz)
  replace ll := cellsAt_keep ll hb
  replace mm := cellsAt_keep mm hb
  replace llz : w.heap.size < w8.heap.size := by omega
  replace mmz : w.heap.size + 1 < w8.heap.size := by omega
  have h8 := curAt_keep h7 hb
  replace G := gb_trans G (gb_of_below (some g) hb)
  clear hb hsz
  replace hS0 := G.size
  have ll_4 := ll 4 _ rfl
  have mm_0 := mm 0 _ rfl
  have mm_1 := mm 1 _ rfl
  have mm_2 := mm 2 _ rfl
  go_wp2_with (first | ((with_reducible refine ld_lay ll rfl ?a94 ?h94); (case a94 => exact ⟨_, rfl, rfl, rfl⟩)))
  ((with_reducible refine (HL3.out _ h8).mono ?_); rintro e w9 ⟨rfl, h9, hb⟩)
  clear ll_4
  clear mm_0 mm_1 mm_2
  have hsz := hb.size
  (try simp at hsz)
  replace ll := cellsAt_gb ll hb (by omega)
  replace mm := cellsAt_gb mm hb (by omega)
  replace llz : w.heap.size < w9.heap.size := by omega
  replace mmz : w.heap.size + 1 < w9.heap.size := by omega
  replace G := gb_trans G hb
  clear hb hsz
  replace hS0 := G.size
  have ll_4 := ll 4 _ rfl
  have mm_0 := mm 0 _ rfl
  have mm_1 := mm 1 _ rfl
  have mm_2 := mm 2 _ rfl
  go_wp2_with (first | ((with_reducible refine ld_lay ll rfl ?a95 ?h95); (case a95 => exact ⟨_, rfl, rfl, rfl⟩)))
  ((with_reducible refine (rtry_any _ hi _).mono ?_); rintro e w' ⟨rfl, rfl⟩)
  go_wp2_with (first | ((with_reducible refine ld_lay ll rfl ?a96 ?h96); (case a96 => exact ⟨_, rfl, rfl, rfl⟩)))
  ((with_reducible refine (HC.out _).mono ?_); rintro e w10 ⟨rfl, hb⟩)
  clear ll_4
  clear mm_0 mm_1 mm_2
  have hsz := hb.size
  (try simp at hsz)
  replace ll := cellsAt_keep ll hb
  replace mm := cellsAt_keep mm hb
  replace llz : w.heap.size < w10.heap.size := by omega
  replace mmz : w.heap.size + 1 < w10.heap.size := by omega
  have h10 := curAt_keep h9 hb
  replace G := gb_trans G (gb_of_below (some g) hb)
  clear hb hsz
  replace hS0 := G.size
  have ll_4 := ll 4 _ rfl
  have mm_0 := mm 0 _ rfl
  have mm_1 := mm 1 _ rfl
  have mm_2 := mm 2 _ rfl
  go_wp2_with (first | ((with_reducible refine ld_lay ll rfl ?a97 ?h97); (case a97 => exact ⟨_, rfl, rfl, rfl⟩)))
  go_ret2
  exact ⟨rfl, h10, G⟩

theorem ask_t_k2 (w : World) (g : Nat) (L : Ly) (hok : L.ok) (me other : Int) (m : Ct) (c0 : CSt) (h0 : CurAt w g c0) (r0 : Int) (b0 : Bool) (ca : CSt) (eca : cdo c0 ⟨1, atStatus L me, 0, 0⟩ = ((r0, b0), ca)) (ho : ¬r0 % 4 = 3) (s : Int) (b1 : Bool) (c1 : CSt) (ec1 : cdo ca ⟨1, atStatus L other, 0, 0⟩ = ((s, b1), c1)) (hs : ¬s % 4 = 0) (hi : I64 s) (x : Int) (b2 : Bool) (c2 : CSt) (ec2 : cdo c1 ⟨1, atStamp L other, 0, 0⟩ = ((x, b2), c2)) (y : Int) (b3 : Bool) (c3 : CSt) (ec3 : cdo c2 ⟨1, atKarma L other, 0, 0⟩ = ((y, b3), c3)) (hv : chooseD L.c.m m ⟨x, y, s / 4⟩ = 2) (hk : s % 4 = 2) :
    Calls Try.prog 63 #[.pointer (some ⟨g, 0, none⟩), L.v, .int .i64 me, .int .i64 other, .bool true, m.v] w fun e w' => e = .returned (.tuple #[.int .i64 3, .bool false]) ∧ CurAt w' g c3 ∧ w.grownBy w' (some g) := by
  have HS : Hid (∀ w, Calls Try.prog 62 #[L.v, .int .i64 other] w fun e w' => e = .returned (.int .i64 (atStatus L other)) ∧ Below w.heap.size w w') := Lib.hid (fun w => rstatus_any L other w hok)
  have HM : Hid (∀ w, Calls Try.prog 62 #[L.v, .int .i64 me] w fun e w' => e = .returned (.int .i64 (atStatus L me)) ∧ Below w.heap.size w w') := Lib.hid (fun w => rstatus_any L me w hok)
  have HL0 : Hid (∀ w, CurAt w g c0 → Calls Try.prog 78 #[.pointer (some ⟨g, 0, none⟩), .int .i64 (atStatus L me)] w fun e w' => e = .returned (.int .i64 r0) ∧ CurAt w' g ca ∧ w.grownBy w' (some g)) := Lib.hid (fun w h => by have := rload_any02 w g c0 (atStatus L me) h; rw [eca] at this; exact this)
  have q0 : (r0 % 4 == 3) = false := by simp [ho]
  have HL1 : Hid (∀ w, CurAt w g ca → Calls Try.prog 78 #[.pointer (some ⟨g, 0, none⟩), .int .i64 (atStatus L other)] w fun e w' => e = .returned (.int .i64 s) ∧ CurAt w' g c1 ∧ w.grownBy w' (some g)) := Lib.hid (fun w h => by have := rload_any02 w g ca (atStatus L other) h; rw [ec1] at this; exact this)
  have q1 : (s % 4 == 0) = false := by simp [hs]
  have HT : Hid (∀ w, Calls Try.prog 94 #[L.v, .int .i64 other] w fun e w' => e = .returned (.int .i64 (atStamp L other)) ∧ Below w.heap.size w w') := Lib.hid (fun w => rstamp_any L other w hok)
  have HK : Hid (∀ w, Calls Try.prog 95 #[L.v, .int .i64 other] w fun e w' => e = .returned (.int .i64 (atKarma L other)) ∧ Below w.heap.size w w') := Lib.hid (fun w => rkarma_any L other w hok)
  have HL2 : Hid (∀ w, CurAt w g c1 → Calls Try.prog 78 #[.pointer (some ⟨g, 0, none⟩), .int .i64 (atStamp L other)] w fun e w' => e = .returned (.int .i64 x) ∧ CurAt w' g c2 ∧ w.grownBy w' (some g)) := Lib.hid (fun w h => by have := rload_any02 w g c1 (atStamp L other) h; rw [ec2] at this; exact this)
  have HL3 : Hid (∀ w, CurAt w g c2 → Calls Try.prog 78 #[.pointer (some ⟨g, 0, none⟩), .int .i64 (atKarma L other)] w fun e w' => e = .returned (.int .i64 y) ∧ CurAt w' g c3 ∧ w.grownBy w' (some g)) := Lib.hid (fun w h => by have := rload_any02 w g c2 (atKarma L other) h; rw [ec3] at this; exact this)
  have HC : Hid (∀ w, Calls Try.prog 31 #[.int .i64 L.c.m, m.v, Ct.v ⟨x, y, s / 4⟩] w fun e w' => e = .returned (.int .i64 2) ∧ Below w.heap.size w w') := Lib.hid (fun w => by have := rchoose_any L.c.m m ⟨x, y, s / 4⟩ w; rwa [hv] at this)
  unfold Ct.v at HC
  have q3 : (s % 4 == 3) = false := by simp [hk]
  have q2 : (s % 4 == 2) = true := by simp [hk]
  unfold Ly.v at HS HM HT HK ⊢
  unfold Ct.v
  have hg0 := curAt_lt h0
  have G : w.grownBy w (some g) := gb_refl _ _
  have hS0 : w.heap.size + 0 ≤ w.heap.size := Nat.le_refl _
  go_enter Try.func63, Try.ntmps63
  go_wp2_with fail
  obtain ⟨w1, hwr⟩ : ∃ W, W = ((w.alloc (.cells #[.int .i64 L.c.t, .int .i64 L.c.l, .int .i64 L.c.k, .int .i64 L.c.s, .int .i64 L.c.m, .int .i64 L.clock, .int .i64 L.stamps, .int .i64 L.log, .int .i64 L.fin, .int .i64 L.thread, .int .i64 L.lock, .int .i64 L.loc, .int .i64 L.size] 41)).alloc (.cells #[.int .i64 m.s, .int .i64 m.k, .int .i64 m.a] 23)) := ⟨_, rfl⟩
  rw [← hwr]
  have hb : Below w.heap.size w w1 := by rw [hwr]; exact (Below.alloc (Below.alloc (Below.refl _ _) (by first | exact Nat.le_refl _ | (simp; omega) | simp) _) (by first | exact Nat.le_refl _ | (simp; omega) | simp) _)
  have ll : CellsAt w1 (w.heap.size) [.int .i64 L.c.t, .int .i64 L.c.l, .int .i64 L.c.k, .int .i64 L.c.s, .int .i64 L.c.m, .int .i64 L.clock, .int .i64 L.stamps, .int .i64 L.log, .int .i64 L.fin, .int .i64 L.thread, .int .i64 L.lock, .int .i64 L.loc, .int .i64 L.size] := by rw [hwr]; exact (cellsAt_alloc (cellsAt_new' w _ _ (w.heap.size) (by simp)) _)
  have llz : w.heap.size < w1.heap.size := World.block_lt_of_cell? _ _ (ll 0 _ rfl)
  have mm : CellsAt w1 (w.heap.size + 1) [.int .i64 m.s, .int .i64 m.k, .int .i64 m.a] := by rw [hwr]; exact (cellsAt_new' (w.alloc (.cells #[.int .i64 L.c.t, .int .i64 L.c.l, .int .i64 L.c.k, .int .i64 L.c.s, .int .i64 L.c.m, .int .i64 L.clock, .int .i64 L.stamps, .int .i64 L.log, .int .i64 L.fin, .int .i64 L.thread, .int .i64 L.lock, .int .i64 L.loc, .int .i64 L.size] 41)) _ _ (w.heap.size + 1) (by simp))
  have mmz : w.heap.size + 1 < w1.heap.size := World.block_lt_of_cell? _ _ (mm 0 _ rfl)
  have h1 := curAt_keep h0 hb
  replace G := gb_trans G (gb_of_below (some g) hb)
  clear hb hwr
  replace hS0 := G.size
  have ll_4 := ll 4 _ rfl
  have mm_0 := mm 0 _ rfl
  have mm_1 := mm 1 _ rfl
  have mm_2 := mm 2 _ rfl
  go_wp2_with (first | ((with_reducible refine ld_lay ll rfl ?a98 ?h98); (case a98 => exact ⟨_, rfl, rfl, rfl⟩)))
  ((with_reducible refine (HM.out _).mono ?_); rintro e w2 ⟨rfl, hb⟩)
  clear ll_4
  clear mm_0 mm_1 mm_2
  have hsz := hb.size
  (try simp at hsz)
  replace ll := cellsAt_keep ll hb
  replace mm := cellsAt_keep mm hb
  replace llz : w.heap.size < w2.heap.size := by omega
  replace mmz : w.heap.size + 1 < w2.heap.size := by omega
  have h2 := curAt_keep h1 hb
  replace G := gb_trans G (gb_of_below (some g) hb)
  clear hb hsz
  replace hS0 := G.size
  have ll_4 := ll 4 _ rfl
  have mm_0 := mm 0 _ rfl
  have mm_1 := mm 1 _ rfl
  have mm_2 := mm 2 _ rfl
  go_wp2_with (first | ((with_reducible refine ld_lay ll rfl ?a99 ?h99); (case a99 => exact ⟨_, rfl, rfl, rfl⟩)))
  ((with_reducible refine (HL0.out _ h2).mono ?_); rintro e w3 ⟨rfl, h3, hb⟩)
  clear ll_4
  clear mm_0 mm_1 mm_2
  have hsz := hb.size
  (try simp at hsz)
  replace ll := cellsAt_gb ll hb (by omega)
  replace mm := cellsAt_gb mm hb (by omega)
  replace llz : w.heap.size < w3.heap.size := by omega
  replace mmz : w.heap.size + 1 < w3.heap.size := by omega
  replace G := gb_trans G hb
  clear hb hsz
  replace hS0 := G.size
  have ll_4 := ll 4 _ rfl
  have mm_0 := mm 0 _ rfl
  have mm_1 := mm 1 _ rfl
  have mm_2 := mm 2 _ rfl
  go_wp2_with (first | ((with_reducible refine ld_lay ll rfl ?a100 ?h100); (case a100 => exact ⟨_, rfl, rfl, rfl⟩)))
  ((with_reducible refine (rkind_any _ _).mono ?_); rintro e w' ⟨rfl, rfl⟩)
  go_wp2_with (first | ((with_reducible refine ld_lay ll rfl ?a101 ?h101); (case a101 => exact ⟨_, rfl, rfl, rfl⟩)))
  ((with_reducible refine (HS.out _).mono ?_); rintro e w4 ⟨rfl, hb⟩)
  clear ll_4
  clear mm_0 mm_1 mm_2
  have hsz := hb.size
  (try simp at hsz)
  replace ll := cellsAt_keep ll hb
  replace mm := cellsAt_keep mm hb
  replace llz : w.heap.size < w4.heap.size := by omega
  replace mmz : w.heap.size + 1 < w4.heap.size := by omega
  have h4 := curAt_keep h3 hb
  replace G := gb_trans G (gb_of_below (some g) hb)
  clear hb hsz
  replace hS0 := G.size
  have ll_4 := ll 4 _ rfl
  have mm_0 := mm 0 _ rfl
  have mm_1 := mm 1 _ rfl
  have mm_2 := mm 2 _ rfl
  go_wp2_with (first | ((with_reducible refine ld_lay ll rfl ?a102 ?h102); (case a102 => exact ⟨_, rfl, rfl, rfl⟩)))
  ((with_reducible refine (HL1.out _ h4).mono ?_); rintro e w5 ⟨rfl, h5, hb⟩)
  clear ll_4
  clear mm_0 mm_1 mm_2
  have hsz := hb.size
  (try simp at hsz)
  replace ll := cellsAt_gb ll hb (by omega)
  replace mm := cellsAt_gb mm hb (by omega)
  replace llz : w.heap.size < w5.heap.size := by omega
  replace mmz : w.heap.size + 1 < w5.heap.size := by omega
  replace G := gb_trans G hb
  clear hb hsz
  replace hS0 := G.size
  have ll_4 := ll 4 _ rfl
  have mm_0 := mm 0 _ rfl
  have mm_1 := mm 1 _ rfl
  have mm_2 := mm 2 _ rfl
  go_wp2_with (first | ((with_reducible refine ld_lay ll rfl ?a103 ?h103); (case a103 => exact ⟨_, rfl, rfl, rfl⟩)))
  ((with_reducible refine (rkind_any _ _).mono ?_); rintro e w' ⟨rfl, rfl⟩)
  go_wp2_with (first | ((with_reducible refine ld_lay ll rfl ?a104 ?h104); (case a104 => exact ⟨_, rfl, rfl, rfl⟩)))
  ((with_reducible refine (HT.out _).mono ?_); rintro e w6 ⟨rfl, hb⟩)
  clear ll_4
  clear mm_0 mm_1 mm_2
  have hsz := hb.size
  (try simp at hsz)
  replace ll := cellsAt_keep ll hb
  replace mm := cellsAt_keep mm hb
  replace llz : w.heap.size < w6.heap.size := by omega
  replace mmz : w.heap.size + 1 < w6.heap.size := by omega
  have h6 := curAt_keep h5 hb
  replace G := gb_trans G (gb_of_below (some g) hb)
  clear hb hsz
  replace hS0 := G.size
  have ll_4 := ll 4 _ rfl
  have mm_0 := mm 0 _ rfl
  have mm_1 := mm 1 _ rfl
  have mm_2 := mm 2 _ rfl
  go_wp2_with (first | ((with_reducible refine ld_lay ll rfl ?a105 ?h105); (case a105 => exact ⟨_, rfl, rfl, rfl⟩)))
  ((with_reducible refine (HL2.out _ h6).mono ?_); rintro e w7 ⟨rfl, h7, hb⟩)
  clear ll_4
  clear mm_0 mm_1 mm_2
  have hsz := hb.size
  (try simp at hsz)
  replace ll := cellsAt_gb ll hb (by omega)
  replace mm := cellsAt_gb mm hb (by omega)
  replace llz : w.heap.size < w7.heap.size := by omega
  replace mmz : w.heap.size + 1 < w7.heap.size := by omega
  replace G := gb_trans G hb
  clear hb hsz
  replace hS0 := G.size
  have ll_4 := ll 4 _ rfl
  have mm_0 := mm 0 _ rfl
  have mm_1 := mm 1 _ rfl
  have mm_2 := mm 2 _ rfl
  go_wp2_with (first | ((with_reducible refine ld_lay ll rfl ?a106 ?h106); (case a106 => exact ⟨_, rfl, rfl, rfl⟩)))
  ((with_reducible refine (HK.out _).mono ?_); rintro e w8 ⟨rfl, hb⟩)
  clear ll_4
  clear mm_0 mm_1 mm_2
  have hsz := hb.size
  (try simp at hsz)
  replace ll := cellsAt_keep ll hb
  replace mm := cellsAt_keep mm hb
  replace llz : w.heap.size < w8.heap.size := by omega
  replace mmz : w.heap.size + 1 < w8.heap.size := by omega
  have h8 := curAt_keep h7 hb
  replace G := gb_trans G (gb_of_below (some g) hb)
  clear hb hsz
  replace hS0 := G.size
  have ll_4 := ll 4 _ rfl
  have mm_0 := mm 0 _ rfl
  have mm_1 := mm 1 _ rfl
  have mm_2 := mm 2 _ rfl
  go_wp2_with (first | ((with_reducible refine ld_lay ll rfl ?a107 ?h107); (case a107 => exact ⟨_, rfl, rfl, rfl⟩)))
  ((with_reducible refine (HL3.out _ h8).mono ?_); rintro e w9 ⟨rfl, h9, hb⟩)
  clear ll_4
  clear mm_0 mm_1 mm_2
  have hsz := hb.size
  (try simp at hsz)
  replace ll := cellsAt_gb ll hb (by omega)
  replace mm := cellsAt_gb mm hb (by omega)
  replace llz : w.heap.size < w9.heap.size := by omega
  replace mmz : w.heap.size + 1 < w9.heap.size := by omega
  replace G := gb_trans G hb
  clear hb hsz
  replace hS0 := G.size
  have ll_4 := ll 4 _ rfl
  have mm_0 := mm 0 _ rfl
  have mm_1 := mm 1 _ rfl
  have mm_2 := mm 2 _ rfl
  go_wp2_with (first | ((with_reducible refine ld_lay ll rfl ?a108 ?h108); (case a108 => exact ⟨_, rfl, rfl, rfl⟩)))
  ((with_reducible refine (rtry_any _ hi _).mono ?_); rintro e w' ⟨rfl, rfl⟩)
  go_wp2_with (first | ((with_reducible refine ld_lay ll rfl ?a109 ?h109); (case a109 => exact ⟨_, rfl, rfl, rfl⟩)))
  ((with_reducible refine (HC.out _).mono ?_); rintro e w10 ⟨rfl, hb⟩)
  clear ll_4
  clear mm_0 mm_1 mm_2
  have hsz := hb.size
  (try simp at hsz)
  replace ll := cellsAt_keep ll hb
  replace mm := cellsAt_keep mm hb
  replace llz : w.heap.size < w10.heap.size := by omega
  replace mmz : w.heap.size + 1 < w10.heap.size := by omega
  have h10 := curAt_keep h9 hb
  replace G := gb_trans G (gb_of_below (some g) hb)
  clear hb hsz
  replace hS0 := G.size
  have ll_4 := ll 4 _ rfl
  have mm_0 := mm 0 _ rfl
  have mm_1 := mm 1 _ rfl
  have mm_2 := mm 2 _ rfl
  go_wp2_with (first | ((with_reducible refine ld_lay ll rfl ?a110 ?h110); (case a110 => exact ⟨_, rfl, rfl, rfl⟩)))
  go_ret2
  exact ⟨rfl, h10, G⟩

theorem ask_t_cast (w : World) (g : Nat) (L : Ly) (hok : L.ok) (me other : Int) (m : Ct) (c0 : CSt) (h0 : CurAt w g c0) (r0 : Int) (b0 : Bool) (ca : CSt) (eca : cdo c0 ⟨1, atStatus L me, 0, 0⟩ = ((r0, b0), ca)) (ho : ¬r0 % 4 = 3) (s : Int) (b1 : Bool) (c1 : CSt) (ec1 : cdo ca ⟨1, atStatus L other, 0, 0⟩ = ((s, b1), c1)) (hs : ¬s % 4 = 0) (hi : I64 s) (x : Int) (b2 : Bool) (c2 : CSt) (ec2 : cdo c1 ⟨1, atStamp L other, 0, 0⟩ = ((x, b2), c2)) (y : Int) (b3 : Bool) (c3 : CSt) (ec3 : cdo c2 ⟨1, atKarma L other, 0, 0⟩ = ((y, b3), c3)) (hv : chooseD L.c.m m ⟨x, y, s / 4⟩ = 2) (hk : s % 4 = 1) (z : Int) (c4 : CSt) (ec4 : cdo c3 ⟨3, atStatus L other, s, wrap64 (4 * (s / 4) + 3)⟩ = ((z, true), c4)) :
    Calls Try.prog 63 #[.pointer (some ⟨g, 0, none⟩), L.v, .int .i64 me, .int .i64 other, .bool true, m.v] w fun e w' => e = .returned (.tuple #[.int .i64 2, .bool false]) ∧ CurAt w' g c4 ∧ w.grownBy w' (some g) := by
  have HS : Hid (∀ w, Calls Try.prog 62 #[L.v, .int .i64 other] w fun e w' => e = .returned (.int .i64 (atStatus L other)) ∧ Below w.heap.size w w') := Lib.hid (fun w => rstatus_any L other w hok)
  have HM : Hid (∀ w, Calls Try.prog 62 #[L.v, .int .i64 me] w fun e w' => e = .returned (.int .i64 (atStatus L me)) ∧ Below w.heap.size w w') := Lib.hid (fun w => rstatus_any L me w hok)
  have HL0 : Hid (∀ w, CurAt w g c0 → Calls Try.prog 78 #[.pointer (some ⟨g, 0, none⟩), .int .i64 (atStatus L me)] w fun e w' => e = .returned (.int .i64 r0) ∧ CurAt w' g ca ∧ w.grownBy w' (some g)) := Lib.hid (fun w h => by have := rload_any02 w g c0 (atStatus L me) h; rw [eca] at this; exact this)
  have q0 : (r0 % 4 == 3) = false := by simp [ho]
  have HL1 : Hid (∀ w, CurAt w g ca → Calls Try.prog 78 #[.pointer (some ⟨g, 0, none⟩), .int .i64 (atStatus L other)] w fun e w' => e = .returned (.int .i64 s) ∧ CurAt w' g c1 ∧ w.grownBy w' (some g)) := Lib.hid (fun w h => by have := rload_any02 w g ca (atStatus L other) h; rw [ec1] at this; exact this)
  have q1 : (s % 4 == 0) = false := by simp [hs]
  have HT : Hid (∀ w, Calls Try.prog 94 #[L.v, .int .i64 other] w fun e w' => e = .returned (.int .i64 (atStamp L other)) ∧ Below w.heap.size w w') := Lib.hid (fun w => rstamp_any L other w hok)
  have HK : Hid (∀ w, Calls Try.prog 95 #[L.v, .int .i64 other] w fun e w' => e = .returned (.int .i64 (atKarma L other)) ∧ Below w.heap.size w w') := Lib.hid (fun w => rkarma_any L other w hok)
  have HL2 : Hid (∀ w, CurAt w g c1 → Calls Try.prog 78 #[.pointer (some ⟨g, 0, none⟩), .int .i64 (atStamp L other)] w fun e w' => e = .returned (.int .i64 x) ∧ CurAt w' g c2 ∧ w.grownBy w' (some g)) := Lib.hid (fun w h => by have := rload_any02 w g c1 (atStamp L other) h; rw [ec2] at this; exact this)
  have HL3 : Hid (∀ w, CurAt w g c2 → Calls Try.prog 78 #[.pointer (some ⟨g, 0, none⟩), .int .i64 (atKarma L other)] w fun e w' => e = .returned (.int .i64 y) ∧ CurAt w' g c3 ∧ w.grownBy w' (some g)) := Lib.hid (fun w h => by have := rload_any02 w g c2 (atKarma L other) h; rw [ec3] at this; exact this)
  have HC : Hid (∀ w, Calls Try.prog 31 #[.int .i64 L.c.m, m.v, Ct.v ⟨x, y, s / 4⟩] w fun e w' => e = .returned (.int .i64 2) ∧ Below w.heap.size w w') := Lib.hid (fun w => by have := rchoose_any L.c.m m ⟨x, y, s / 4⟩ w; rwa [hv] at this)
  unfold Ct.v at HC
  have q3 : (s % 4 == 3) = false := by simp [hk]
  have q2 : (s % 4 == 2) = false := by simp [hk]
  have HX : Hid (∀ w, CurAt w g c3 → Calls Try.prog 81 #[.pointer (some ⟨g, 0, none⟩), .int .i64 (atStatus L other), .int .i64 s, .int .i64 (wrap64 (4 * (s / 4) + 3))] w fun e w' => e = .returned (.bool true) ∧ CurAt w' g c4 ∧ w.grownBy w' (some g)) := Lib.hid (fun w h => by have := rcas_any02 w g c3 (atStatus L other) s (wrap64 (4 * (s / 4) + 3)) h; rw [ec4] at this; exact this)
  unfold Ly.v at HS HM HT HK ⊢
  unfold Ct.v
  have hg0 := curAt_lt h0
  have G : w.grownBy w (some g) := gb_refl _ _
  have hS0 : w.heap.size + 0 ≤ w.heap.size := Nat.le_refl _
  go_enter Try.func63, Try.ntmps63
  go_wp2_with fail
  obtain ⟨w1, hwr⟩ : ∃ W, W = ((w.alloc (.cells #[.int .i64 L.c.t, .int .i64 L.c.l, .int .i64 L.c.k, .int .i64 L.c.s, .int .i64 L.c.m, .int .i64 L.clock, .int .i64 L.stamps, .int .i64 L.log, .int .i64 L.fin, .int .i64 L.thread, .int .i64 L.lock, .int .i64 L.loc, .int .i64 L.size] 41)).alloc (.cells #[.int .i64 m.s, .int .i64 m.k, .int .i64 m.a] 23)) := ⟨_, rfl⟩
  rw [← hwr]
  have hb : Below w.heap.size w w1 := by rw [hwr]; exact (Below.alloc (Below.alloc (Below.refl _ _) (by first | exact Nat.le_refl _ | (simp; omega) | simp) _) (by first | exact Nat.le_refl _ | (simp; omega) | simp) _)
  have ll : CellsAt w1 (w.heap.size) [.int .i64 L.c.t, .int .i64 L.c.l, .int .i64 L.c.k, .int .i64 L.c.s, .int .i64 L.c.m, .int .i64 L.clock, .int .i64 L.stamps, .int .i64 L.log, .int .i64 L.fin, .int .i64 L.thread, .int .i64 L.lock, .int .i64 L.loc, .int .i64 L.size] := by rw [hwr]; exact (cellsAt_alloc (cellsAt_new' w _ _ (w.heap.size) (by simp)) _)
  have llz : w.heap.size < w1.heap.size := World.block_lt_of_cell? _ _ (ll 0 _ rfl)
  have mm : CellsAt w1 (w.heap.size + 1) [.int .i64 m.s, .int .i64 m.k, .int .i64 m.a] := by rw [hwr]; exact (cellsAt_new' (w.alloc (.cells #[.int .i64 L.c.t, .int .i64 L.c.l, .int .i64 L.c.k, .int .i64 L.c.s, .int .i64 L.c.m, .int .i64 L.clock, .int .i64 L.stamps, .int .i64 L.log, .int .i64 L.fin, .int .i64 L.thread, .int .i64 L.lock, .int .i64 L.loc, .int .i64 L.size] 41)) _ _ (w.heap.size + 1) (by simp))
  have mmz : w.heap.size + 1 < w1.heap.size := World.block_lt_of_cell? _ _ (mm 0 _ rfl)
  have h1 := curAt_keep h0 hb
  replace G := gb_trans G (gb_of_below (some g) hb)
  clear hb hwr
  replace hS0 := G.size
  have ll_4 := ll 4 _ rfl
  have mm_0 := mm 0 _ rfl
  have mm_1 := mm 1 _ rfl
  have mm_2 := mm 2 _ rfl
  go_wp2_with (first | ((with_reducible refine ld_lay ll rfl ?a111 ?h111); (case a111 => exact ⟨_, rfl, rfl, rfl⟩)))
  ((with_reducible refine (HM.out _).mono ?_); rintro e w2 ⟨rfl, hb⟩)
  clear ll_4
  clear mm_0 mm_1 mm_2
  have hsz := hb.size
  (try simp at hsz)
  replace ll := cellsAt_keep ll hb
  replace mm := cellsAt_keep mm hb
  replace llz : w.heap.size < w2.heap.size := by omega
  replace mmz : w.heap.size + 1 < w2.heap.size := by omega
  have h2 := curAt_keep h1 hb
  replace G := gb_trans G (gb_of_below (some g) hb)
  clear hb hsz
  replace hS0 := G.size
  have ll_4 := ll 4 _ rfl
  have mm_0 := mm 0 _ rfl
  have mm_1 := mm 1 _ rfl
  have mm_2 := mm 2 _ rfl
  go_wp2_with (first | ((with_reducible refine ld_lay ll rfl ?a112 ?h112); (case a112 => exact ⟨_, rfl, rfl, rfl⟩)))
  ((with_reducible refine (HL0.out _ h2).mono ?_); rintro e w3 ⟨rfl, h3, hb⟩)
  clear ll_4
  clear mm_0 mm_1 mm_2
  have hsz := hb.size
  (try simp at hsz)
  replace ll := cellsAt_gb ll hb (by omega)
  replace mm := cellsAt_gb mm hb (by omega)
  replace llz : w.heap.size < w3.heap.size := by omega
  replace mmz : w.heap.size + 1 < w3.heap.size := by omega
  replace G := gb_trans G hb
  clear hb hsz
  replace hS0 := G.size
  have ll_4 := ll 4 _ rfl
  have mm_0 := mm 0 _ rfl
  have mm_1 := mm 1 _ rfl
  have mm_2 := mm 2 _ rfl
  go_wp2_with (first | ((with_reducible refine ld_lay ll rfl ?a113 ?h113); (case a113 => exact ⟨_, rfl, rfl, rfl⟩)))
  ((with_reducible refine (rkind_any _ _).mono ?_); rintro e w' ⟨rfl, rfl⟩)
  go_wp2_with (first | ((with_reducible refine ld_lay ll rfl ?a114 ?h114); (case a114 => exact ⟨_, rfl, rfl, rfl⟩)))
  ((with_reducible refine (HS.out _).mono ?_); rintro e w4 ⟨rfl, hb⟩)
  clear ll_4
  clear mm_0 mm_1 mm_2
  have hsz := hb.size
  (try simp at hsz)
  replace ll := cellsAt_keep ll hb
  replace mm := cellsAt_keep mm hb
  replace llz : w.heap.size < w4.heap.size := by omega
  replace mmz : w.heap.size + 1 < w4.heap.size := by omega
  have h4 := curAt_keep h3 hb
  replace G := gb_trans G (gb_of_below (some g) hb)
  clear hb hsz
  replace hS0 := G.size
  have ll_4 := ll 4 _ rfl
  have mm_0 := mm 0 _ rfl
  have mm_1 := mm 1 _ rfl
  have mm_2 := mm 2 _ rfl
  go_wp2_with (first | ((with_reducible refine ld_lay ll rfl ?a115 ?h115); (case a115 => exact ⟨_, rfl, rfl, rfl⟩)))
  ((with_reducible refine (HL1.out _ h4).mono ?_); rintro e w5 ⟨rfl, h5, hb⟩)
  clear ll_4
  clear mm_0 mm_1 mm_2
  have hsz := hb.size
  (try simp at hsz)
  replace ll := cellsAt_gb ll hb (by omega)
  replace mm := cellsAt_gb mm hb (by omega)
  replace llz : w.heap.size < w5.heap.size := by omega
  replace mmz : w.heap.size + 1 < w5.heap.size := by omega
  replace G := gb_trans G hb
  clear hb hsz
  replace hS0 := G.size
  have ll_4 := ll 4 _ rfl
  have mm_0 := mm 0 _ rfl
  have mm_1 := mm 1 _ rfl
  have mm_2 := mm 2 _ rfl
  go_wp2_with (first | ((with_reducible refine ld_lay ll rfl ?a116 ?h116); (case a116 => exact ⟨_, rfl, rfl, rfl⟩)))
  ((with_reducible refine (rkind_any _ _).mono ?_); rintro e w' ⟨rfl, rfl⟩)
  go_wp2_with (first | ((with_reducible refine ld_lay ll rfl ?a117 ?h117); (case a117 => exact ⟨_, rfl, rfl, rfl⟩)))
  ((with_reducible refine (HT.out _).mono ?_); rintro e w6 ⟨rfl, hb⟩)
  clear ll_4
  clear mm_0 mm_1 mm_2
  have hsz := hb.size
  (try simp at hsz)
  replace ll := cellsAt_keep ll hb
  replace mm := cellsAt_keep mm hb
  replace llz : w.heap.size < w6.heap.size := by omega
  replace mmz : w.heap.size + 1 < w6.heap.size := by omega
  have h6 := curAt_keep h5 hb
  replace G := gb_trans G (gb_of_below (some g) hb)
  clear hb hsz
  replace hS0 := G.size
  have ll_4 := ll 4 _ rfl
  have mm_0 := mm 0 _ rfl
  have mm_1 := mm 1 _ rfl
  have mm_2 := mm 2 _ rfl
  go_wp2_with (first | ((with_reducible refine ld_lay ll rfl ?a118 ?h118); (case a118 => exact ⟨_, rfl, rfl, rfl⟩)))
  ((with_reducible refine (HL2.out _ h6).mono ?_); rintro e w7 ⟨rfl, h7, hb⟩)
  clear ll_4
  clear mm_0 mm_1 mm_2
  have hsz := hb.size
  (try simp at hsz)
  replace ll := cellsAt_gb ll hb (by omega)
  replace mm := cellsAt_gb mm hb (by omega)
  replace llz : w.heap.size < w7.heap.size := by omega
  replace mmz : w.heap.size + 1 < w7.heap.size := by omega
  replace G := gb_trans G hb
  clear hb hsz
  replace hS0 := G.size
  have ll_4 := ll 4 _ rfl
  have mm_0 := mm 0 _ rfl
  have mm_1 := mm 1 _ rfl
  have mm_2 := mm 2 _ rfl
  go_wp2_with (first | ((with_reducible refine ld_lay ll rfl ?a119 ?h119); (case a119 => exact ⟨_, rfl, rfl, rfl⟩)))
  ((with_reducible refine (HK.out _).mono ?_); rintro e w8 ⟨rfl, hb⟩)
  clear ll_4
  clear mm_0 mm_1 mm_2
  have hsz := hb.size
  (try simp at hsz)
  replace ll := cellsAt_keep ll hb
  replace mm := cellsAt_keep mm hb
  replace llz : w.heap.size < w8.heap.size := by omega
  replace mmz : w.heap.size + 1 < w8.heap.size := by omega
  have h8 := curAt_keep h7 hb
  replace G := gb_trans G (gb_of_below (some g) hb)
  clear hb hsz
  replace hS0 := G.size
  have ll_4 := ll 4 _ rfl
  have mm_0 := mm 0 _ rfl
  have mm_1 := mm 1 _ rfl
  have mm_2 := mm 2 _ rfl
  go_wp2_with (first | ((with_reducible refine ld_lay ll rfl ?a120 ?h120); (case a120 => exact ⟨_, rfl, rfl, rfl⟩)))
  ((with_reducible refine (HL3.out _ h8).mono ?_); rintro e w9 ⟨rfl, h9, hb⟩)
  clear ll_4
  clear mm_0 mm_1 mm_2
  have hsz := hb.size
  (try simp at hsz)
  replace ll := cellsAt_gb ll hb (by omega)
  replace mm := cellsAt_gb mm hb (by omega)
  replace llz : w.heap.size < w9.heap.size := by omega
  replace mmz : w.heap.size + 1 < w9.heap.size := by omega
  replace G := gb_trans G hb
  clear hb hsz
  replace hS0 := G.size
  have ll_4 := ll 4 _ rfl
  have mm_0 := mm 0 _ rfl
  have mm_1 := mm 1 _ rfl
  have mm_2 := mm 2 _ rfl
  go_wp2_with (first | ((with_reducible refine ld_lay ll rfl ?a121 ?h121); (case a121 => exact ⟨_, rfl, rfl, rfl⟩)))
  ((with_reducible refine (rtry_any _ hi _).mono ?_); rintro e w' ⟨rfl, rfl⟩)
  go_wp2_with (first | ((with_reducible refine ld_lay ll rfl ?a122 ?h122); (case a122 => exact ⟨_, rfl, rfl, rfl⟩)))
  ((with_reducible refine (HC.out _).mono ?_); rintro e w10 ⟨rfl, hb⟩)
  clear ll_4
  clear mm_0 mm_1 mm_2
  have hsz := hb.size
  (try simp at hsz)
  replace ll := cellsAt_keep ll hb
  replace mm := cellsAt_keep mm hb
  replace llz : w.heap.size < w10.heap.size := by omega
  replace mmz : w.heap.size + 1 < w10.heap.size := by omega
  have h10 := curAt_keep h9 hb
  replace G := gb_trans G (gb_of_below (some g) hb)
  clear hb hsz
  replace hS0 := G.size
  have ll_4 := ll 4 _ rfl
  have mm_0 := mm 0 _ rfl
  have mm_1 := mm 1 _ rfl
  have mm_2 := mm 2 _ rfl
  go_wp2_with (first | ((with_reducible refine ld_lay ll rfl ?a123 ?h123); (case a123 => exact ⟨_, rfl, rfl, rfl⟩)))
  ((with_reducible refine (HS.out _).mono ?_); rintro e w11 ⟨rfl, hb⟩)
  clear ll_4
  clear mm_0 mm_1 mm_2
  have hsz := hb.size
  (try simp at hsz)
  replace ll := cellsAt_keep ll hb
  replace mm := cellsAt_keep mm hb
  replace llz : w.heap.size < w11.heap.size := by omega
  replace mmz : w.heap.size + 1 < w11.heap.size := by omega
  have h11 := curAt_keep h10 hb
  replace G := gb_trans G (gb_of_below (some g) hb)
  clear hb hsz
  replace hS0 := G.size
  have ll_4 := ll 4 _ rfl
  have mm_0 := mm 0 _ rfl
  have mm_1 := mm 1 _ rfl
  have mm_2 := mm 2 _ rfl
  go_wp2_with (first | ((with_reducible refine ld_lay ll rfl ?a124 ?h124); (case a124 => exact ⟨_, rfl, rfl, rfl⟩)))
  ((with_reducible refine (rwstatus_any _ _ _).mono ?_); rintro e w' ⟨rfl, rfl⟩)
  go_wp2_with (first | ((with_reducible refine ld_lay ll rfl ?a125 ?h125); (case a125 => exact ⟨_, rfl, rfl, rfl⟩)))
  ((with_reducible refine (HX.out _ h11).mono ?_); rintro e w12 ⟨rfl, h12, hb⟩)
  clear ll_4
  clear mm_0 mm_1 mm_2
  have hsz := hb.size
  (try simp at hsz)
  replace ll := cellsAt_gb ll hb (by omega)
  replace mm := cellsAt_gb mm hb (by omega)
  replace llz : w.heap.size < w12.heap.size := by omega
  replace mmz : w.heap.size + 1 < w12.heap.size := by omega
  replace G := gb_trans G hb
  clear hb hsz
  replace hS0 := G.size
  have ll_4 := ll 4 _ rfl
  have mm_0 := mm 0 _ rfl
  have mm_1 := mm 1 _ rfl
  have mm_2 := mm 2 _ rfl
  go_wp2_with (first | ((with_reducible refine ld_lay ll rfl ?a126 ?h126); (case a126 => exact ⟨_, rfl, rfl, rfl⟩)))
  go_ret2
  exact ⟨rfl, h12, G⟩

theorem ask_t_casf (w : World) (g : Nat) (L : Ly) (hok : L.ok) (me other : Int) (m : Ct) (c0 : CSt) (h0 : CurAt w g c0) (r0 : Int) (b0 : Bool) (ca : CSt) (eca : cdo c0 ⟨1, atStatus L me, 0, 0⟩ = ((r0, b0), ca)) (ho : ¬r0 % 4 = 3) (s : Int) (b1 : Bool) (c1 : CSt) (ec1 : cdo ca ⟨1, atStatus L other, 0, 0⟩ = ((s, b1), c1)) (hs : ¬s % 4 = 0) (hi : I64 s) (x : Int) (b2 : Bool) (c2 : CSt) (ec2 : cdo c1 ⟨1, atStamp L other, 0, 0⟩ = ((x, b2), c2)) (y : Int) (b3 : Bool) (c3 : CSt) (ec3 : cdo c2 ⟨1, atKarma L other, 0, 0⟩ = ((y, b3), c3)) (hv : chooseD L.c.m m ⟨x, y, s / 4⟩ = 2) (hk : s % 4 = 1) (z : Int) (c4 : CSt) (ec4 : cdo c3 ⟨3, atStatus L other, s, wrap64 (4 * (s / 4) + 3)⟩ = ((z, false), c4)) :
    Calls Try.prog 63 #[.pointer (some ⟨g, 0, none⟩), L.v, .int .i64 me, .int .i64 other, .bool true, m.v] w fun e w' => e = .returned (.tuple #[.int .i64 0, .bool false]) ∧ CurAt w' g c4 ∧ w.grownBy w' (some g) := by
  have HS : Hid (∀ w, Calls Try.prog 62 #[L.v, .int .i64 other] w fun e w' => e = .returned (.int .i64 (atStatus L other)) ∧ Below w.heap.size w w') := Lib.hid (fun w => rstatus_any L other w hok)
  have HM : Hid (∀ w, Calls Try.prog 62 #[L.v, .int .i64 me] w fun e w' => e = .returned (.int .i64 (atStatus L me)) ∧ Below w.heap.size w w') := Lib.hid (fun w => rstatus_any L me w hok)
  have HL0 : Hid (∀ w, CurAt w g c0 → Calls Try.prog 78 #[.pointer (some ⟨g, 0, none⟩), .int .i64 (atStatus L me)] w fun e w' => e = .returned (.int .i64 r0) ∧ CurAt w' g ca ∧ w.grownBy w' (some g)) := Lib.hid (fun w h => by have := rload_any02 w g c0 (atStatus L me) h; rw [eca] at this; exact this)
  have q0 : (r0 % 4 == 3) = false := by simp [ho]
  have HL1 : Hid (∀ w, CurAt w g ca → Calls Try.prog 78 #[.pointer (some ⟨g, 0, none⟩), .int .i64 (atStatus L other)] w fun e w' => e = .returned (.int .i64 s) ∧ CurAt w' g c1 ∧ w.grownBy w' (some g)) := Lib.hid (fun w h => by have := rload_any02 w g ca (atStatus L other) h; rw [ec1] at this; exact this)
  have q1 : (s % 4 == 0) = false := by simp [hs]
  have HT : Hid (∀ w, Calls Try.prog 94 #[L.v, .int .i64 other] w fun e w' => e = .returned (.int .i64 (atStamp L other)) ∧ Below w.heap.size w w') := Lib.hid (fun w => rstamp_any L other w hok)
  have HK : Hid (∀ w, Calls Try.prog 95 #[L.v, .int .i64 other] w fun e w' => e = .returned (.int .i64 (atKarma L other)) ∧ Below w.heap.size w w') := Lib.hid (fun w => rkarma_any L other w hok)
  have HL2 : Hid (∀ w, CurAt w g c1 → Calls Try.prog 78 #[.pointer (some ⟨g, 0, none⟩), .int .i64 (atStamp L other)] w fun e w' => e = .returned (.int .i64 x) ∧ CurAt w' g c2 ∧ w.grownBy w' (some g)) := Lib.hid (fun w h => by have := rload_any02 w g c1 (atStamp L other) h; rw [ec2] at this; exact this)
  have HL3 : Hid (∀ w, CurAt w g c2 → Calls Try.prog 78 #[.pointer (some ⟨g, 0, none⟩), .int .i64 (atKarma L other)] w fun e w' => e = .returned (.int .i64 y) ∧ CurAt w' g c3 ∧ w.grownBy w' (some g)) := Lib.hid (fun w h => by have := rload_any02 w g c2 (atKarma L other) h; rw [ec3] at this; exact this)
  have HC : Hid (∀ w, Calls Try.prog 31 #[.int .i64 L.c.m, m.v, Ct.v ⟨x, y, s / 4⟩] w fun e w' => e = .returned (.int .i64 2) ∧ Below w.heap.size w w') := Lib.hid (fun w => by have := rchoose_any L.c.m m ⟨x, y, s / 4⟩ w; rwa [hv] at this)
  unfold Ct.v at HC
  have q3 : (s % 4 == 3) = false := by simp [hk]
  have q2 : (s % 4 == 2) = false := by simp [hk]
  have HX : Hid (∀ w, CurAt w g c3 → Calls Try.prog 81 #[.pointer (some ⟨g, 0, none⟩), .int .i64 (atStatus L other), .int .i64 s, .int .i64 (wrap64 (4 * (s / 4) + 3))] w fun e w' => e = .returned (.bool false) ∧ CurAt w' g c4 ∧ w.grownBy w' (some g)) := Lib.hid (fun w h => by have := rcas_any02 w g c3 (atStatus L other) s (wrap64 (4 * (s / 4) + 3)) h; rw [ec4] at this; exact this)
  unfold Ly.v at HS HM HT HK ⊢
  unfold Ct.v
  have hg0 := curAt_lt h0
  have G : w.grownBy w (some g) := gb_refl _ _
  have hS0 : w.heap.size + 0 ≤ w.heap.size := Nat.le_refl _
  go_enter Try.func63, Try.ntmps63
  go_wp2_with fail
  obtain ⟨w1, hwr⟩ : ∃ W, W = ((w.alloc (.cells #[.int .i64 L.c.t, .int .i64 L.c.l, .int .i64 L.c.k, .int .i64 L.c.s, .int .i64 L.c.m, .int .i64 L.clock, .int .i64 L.stamps, .int .i64 L.log, .int .i64 L.fin, .int .i64 L.thread, .int .i64 L.lock, .int .i64 L.loc, .int .i64 L.size] 41)).alloc (.cells #[.int .i64 m.s, .int .i64 m.k, .int .i64 m.a] 23)) := ⟨_, rfl⟩
  rw [← hwr]
  have hb : Below w.heap.size w w1 := by rw [hwr]; exact (Below.alloc (Below.alloc (Below.refl _ _) (by first | exact Nat.le_refl _ | (simp; omega) | simp) _) (by first | exact Nat.le_refl _ | (simp; omega) | simp) _)
  have ll : CellsAt w1 (w.heap.size) [.int .i64 L.c.t, .int .i64 L.c.l, .int .i64 L.c.k, .int .i64 L.c.s, .int .i64 L.c.m, .int .i64 L.clock, .int .i64 L.stamps, .int .i64 L.log, .int .i64 L.fin, .int .i64 L.thread, .int .i64 L.lock, .int .i64 L.loc, .int .i64 L.size] := by rw [hwr]; exact (cellsAt_alloc (cellsAt_new' w _ _ (w.heap.size) (by simp)) _)
  have llz : w.heap.size < w1.heap.size := World.block_lt_of_cell? _ _ (ll 0 _ rfl)
  have mm : CellsAt w1 (w.heap.size + 1) [.int .i64 m.s, .int .i64 m.k, .int .i64 m.a] := by rw [hwr]; exact (cellsAt_new' (w.alloc (.cells #[.int .i64 L.c.t, .int .i64 L.c.l, .int .i64 L.c.k, .int .i64 L.c.s, .int .i64 L.c.m, .int .i64 L.clock, .int .i64 L.stamps, .int .i64 L.log, .int .i64 L.fin, .int .i64 L.thread, .int .i64 L.lock, .int .i64 L.loc, .int .i64 L.size] 41)) _ _ (w.heap.size + 1) (by simp))
  have mmz : w.heap.size + 1 < w1.heap.size := World.block_lt_of_cell? _ _ (mm 0 _ rfl)
  have h1 := curAt_keep h0 hb
  replace G := gb_trans G (gb_of_below (some g) hb)
  clear hb hwr
  replace hS0 := G.size
  have ll_4 := ll 4 _ rfl
  have mm_0 := mm 0 _ rfl
  have mm_1 := mm 1 _ rfl
  have mm_2 := mm 2 _ rfl
  go_wp2_with (first | ((with_reducible refine ld_lay ll rfl ?a127 ?h127); (case a127 => exact ⟨_, rfl, rfl, rfl⟩)))
  ((with_reducible refine (HM.out _).mono ?_); rintro e w2 ⟨rfl, hb⟩)
  clear ll_4
  clear mm_0 mm_1 mm_2
  have hsz := hb.size
  (try simp at hsz)
  replace ll := cellsAt_keep ll hb
  replace mm := cellsAt_keep mm hb
  replace llz : w.heap.size < w2.heap.size := by omega
  replace mmz : w.heap.size + 1 < w2.heap.size := by omega
  have h2 := curAt_keep h1 hb
  replace G := gb_trans G (gb_of_below (some g) hb)
  clear hb hsz
  replace hS0 := G.size
  have ll_4 := ll 4 _ rfl
  have mm_0 := mm 0 _ rfl
  have mm_1 := mm 1 _ rfl
  have mm_2 := mm 2 _ rfl
  go_wp2_with (first | ((with_reducible refine ld_lay ll rfl ?a128 ?h128); (case a128 => exact ⟨_, rfl, rfl, rfl⟩)))
  ((with_reducible refine (HL0.out _ h2).mono ?_); rintro e w3 ⟨rfl, h3, hb⟩)
  clear ll_4
  clear mm_0 mm_1 mm_2
  have hsz := hb.size
  (try simp at hsz)
  replace ll := cellsAt_gb ll hb (by omega)
  replace mm := cellsAt_gb mm hb (by omega)
  replace llz : w.heap.size < w3.heap.size := by omega
  replace mmz : w.heap.size + 1 < w3.heap.size := by omega
  replace G := gb_trans G hb
  clear hb hsz
  replace hS0 := G.size
  have ll_4 := ll 4 _ rfl
  have mm_0 := mm 0 _ rfl
  have mm_1 := mm 1 _ rfl
  have mm_2 := mm 2 _ rfl
  go_wp2_with (first | ((with_reducible refine ld_lay ll rfl ?a129 ?h129); (case a129 => exact ⟨_, rfl, rfl, rfl⟩)))
  ((with_reducible refine (rkind_any _ _).mono ?_); rintro e w' ⟨rfl, rfl⟩)
  go_wp2_with (first | ((with_reducible refine ld_lay ll rfl ?a130 ?h130); (case a130 => exact ⟨_, rfl, rfl, rfl⟩)))
  ((with_reducible refine (HS.out _).mono ?_); rintro e w4 ⟨rfl, hb⟩)
  clear ll_4
  clear mm_0 mm_1 mm_2
  have hsz := hb.size
  (try simp at hsz)
  replace ll := cellsAt_keep ll hb
  replace mm := cellsAt_keep mm hb
  replace llz : w.heap.size < w4.heap.size := by omega
  replace mmz : w.heap.size + 1 < w4.heap.size := by omega
  have h4 := curAt_keep h3 hb
  replace G := gb_trans G (gb_of_below (some g) hb)
  clear hb hsz
  replace hS0 := G.size
  have ll_4 := ll 4 _ rfl
  have mm_0 := mm 0 _ rfl
  have mm_1 := mm 1 _ rfl
  have mm_2 := mm 2 _ rfl
  go_wp2_with (first | ((with_reducible refine ld_lay ll rfl ?a131 ?h131); (case a131 => exact ⟨_, rfl, rfl, rfl⟩)))
  ((with_reducible refine (HL1.out _ h4).mono ?_); rintro e w5 ⟨rfl, h5, hb⟩)
  clear ll_4
  clear mm_0 mm_1 mm_2
  have hsz := hb.size
  (try simp at hsz)
  replace ll := cellsAt_gb ll hb (by omega)
  replace mm := cellsAt_gb mm hb (by omega)
  replace llz : w.heap.size < w5.heap.size := by omega
  replace mmz : w.heap.size + 1 < w5.heap.size := by omega
  replace G := gb_trans G hb
  clear hb hsz
  replace hS0 := G.size
  have ll_4 := ll 4 _ rfl
  have mm_0 := mm 0 _ rfl
  have mm_1 := mm 1 _ rfl
  have mm_2 := mm 2 _ rfl
  go_wp2_with (first | ((with_reducible refine ld_lay ll rfl ?a132 ?h132); (case a132 => exact ⟨_, rfl, rfl, rfl⟩)))
  ((with_reducible refine (rkind_any _ _).mono ?_); rintro e w' ⟨rfl, rfl⟩)
  go_wp2_with (first | ((with_reducible refine ld_lay ll rfl ?a133 ?h133); (case a133 => exact ⟨_, rfl, rfl, rfl⟩)))
  ((with_reducible refine (HT.out _).mono ?_); rintro e w6 ⟨rfl, hb⟩)
  clear ll_4
  clear mm_0 mm_1 mm_2
  have hsz := hb.size
  (try simp at hsz)
  replace ll := cellsAt_keep ll hb
  replace mm := cellsAt_keep mm hb
  replace llz : w.heap.size < w6.heap.size := by omega
  replace mmz : w.heap.size + 1 < w6.heap.size := by omega
  have h6 := curAt_keep h5 hb
  replace G := gb_trans G (gb_of_below (some g) hb)
  clear hb hsz
  replace hS0 := G.size
  have ll_4 := ll 4 _ rfl
  have mm_0 := mm 0 _ rfl
  have mm_1 := mm 1 _ rfl
  have mm_2 := mm 2 _ rfl
  go_wp2_with (first | ((with_reducible refine ld_lay ll rfl ?a134 ?h134); (case a134 => exact ⟨_, rfl, rfl, rfl⟩)))
  ((with_reducible refine (HL2.out _ h6).mono ?_); rintro e w7 ⟨rfl, h7, hb⟩)
  clear ll_4
  clear mm_0 mm_1 mm_2
  have hsz := hb.size
  (try simp at hsz)
  replace ll := cellsAt_gb ll hb (by omega)
  replace mm := cellsAt_gb mm hb (by omega)
  replace llz : w.heap.size < w7.heap.size := by omega
  replace mmz : w.heap.size + 1 < w7.heap.size := by omega
  replace G := gb_trans G hb
  clear hb hsz
  replace hS0 := G.size
  have ll_4 := ll 4 _ rfl
  have mm_0 := mm 0 _ rfl
  have mm_1 := mm 1 _ rfl
  have mm_2 := mm 2 _ rfl
  go_wp2_with (first | ((with_reducible refine ld_lay ll rfl ?a135 ?h135); (case a135 => exact ⟨_, rfl, rfl, rfl⟩)))
  ((with_reducible refine (HK.out _).mono ?_); rintro e w8 ⟨rfl, hb⟩)
  clear ll_4
  clear mm_0 mm_1 mm_2
  have hsz := hb.size
  (try simp at hsz)
  replace ll := cellsAt_keep ll hb
  replace mm := cellsAt_keep mm hb
  replace llz : w.heap.size < w8.heap.size := by omega
  replace mmz : w.heap.size + 1 < w8.heap.size := by omega
  have h8 := curAt_keep h7 hb
  replace G := gb_trans G (gb_of_below (some g) hb)
  clear hb hsz
  replace hS0 := G.size
  have ll_4 := ll 4 _ rfl
  have mm_0 := mm 0 _ rfl
  have mm_1 := mm 1 _ rfl
  have mm_2 := mm 2 _ rfl
  go_wp2_with (first | ((with_reducible refine ld_lay ll rfl ?a136 ?h136); (case a136 => exact ⟨_, rfl, rfl, rfl⟩)))
  ((with_reducible refine (HL3.out _ h8).mono ?_); rintro e w9 ⟨rfl, h9, hb⟩)
  clear ll_4
  clear mm_0 mm_1 mm_2
  have hsz := hb.size
  (try simp at hsz)
  replace ll := cellsAt_gb ll hb (by omega)
  replace mm := cellsAt_gb mm hb (by omega)
  replace llz : w.heap.size < w9.heap.size := by omega
  replace mmz : w.heap.size + 1 < w9.heap.size := by omega
  replace G := gb_trans G hb
  clear hb hsz
  replace hS0 := G.size
  have ll_4 := ll 4 _ rfl
  have mm_0 := mm 0 _ rfl
  have mm_1 := mm 1 _ rfl
  have mm_2 := mm 2 _ rfl
  go_wp2_with (first | ((with_reducible refine ld_lay ll rfl ?a137 ?h137); (case a137 => exact ⟨_, rfl, rfl, rfl⟩)))
  ((with_reducible refine (rtry_any _ hi _).mono ?_); rintro e w' ⟨rfl, rfl⟩)
  go_wp2_with (first | ((with_reducible refine ld_lay ll rfl ?a138 ?h138); (case a138 => exact ⟨_, rfl, rfl, rfl⟩)))
  ((with_reducible refine (HC.out _).mono ?_); rintro e w10 ⟨rfl, hb⟩)
  clear ll_4
  clear mm_0 mm_1 mm_2
  have hsz := hb.size
  (try simp at hsz)
  replace ll := cellsAt_keep ll hb
  replace mm := cellsAt_keep mm hb
  replace llz : w.heap.size < w10.heap.size := by omega
  replace mmz : w.heap.size + 1 < w10.heap.size := by omega
  have h10 := curAt_keep h9 hb
  replace G := gb_trans G (gb_of_below (some g) hb)
  clear hb hsz
  replace hS0 := G.size
  have ll_4 := ll 4 _ rfl
  have mm_0 := mm 0 _ rfl
  have mm_1 := mm 1 _ rfl
  have mm_2 := mm 2 _ rfl
  go_wp2_with (first | ((with_reducible refine ld_lay ll rfl ?a139 ?h139); (case a139 => exact ⟨_, rfl, rfl, rfl⟩)))
  ((with_reducible refine (HS.out _).mono ?_); rintro e w11 ⟨rfl, hb⟩)
  clear ll_4
  clear mm_0 mm_1 mm_2
  have hsz := hb.size
  (try simp at hsz)
  replace ll := cellsAt_keep ll hb
  replace mm := cellsAt_keep mm hb
  replace llz : w.heap.size < w11.heap.size := by omega
  replace mmz : w.heap.size + 1 < w11.heap.size := by omega
  have h11 := curAt_keep h10 hb
  replace G := gb_trans G (gb_of_below (some g) hb)
  clear hb hsz
  replace hS0 := G.size
  have ll_4 := ll 4 _ rfl
  have mm_0 := mm 0 _ rfl
  have mm_1 := mm 1 _ rfl
  have mm_2 := mm 2 _ rfl
  go_wp2_with (first | ((with_reducible refine ld_lay ll rfl ?a140 ?h140); (case a140 => exact ⟨_, rfl, rfl, rfl⟩)))
  ((with_reducible refine (rwstatus_any _ _ _).mono ?_); rintro e w' ⟨rfl, rfl⟩)
  go_wp2_with (first | ((with_reducible refine ld_lay ll rfl ?a141 ?h141); (case a141 => exact ⟨_, rfl, rfl, rfl⟩)))
  ((with_reducible refine (HX.out _ h11).mono ?_); rintro e w12 ⟨rfl, h12, hb⟩)
  clear ll_4
  clear mm_0 mm_1 mm_2
  have hsz := hb.size
  (try simp at hsz)
  replace ll := cellsAt_gb ll hb (by omega)
  replace mm := cellsAt_gb mm hb (by omega)
  replace llz : w.heap.size < w12.heap.size := by omega
  replace mmz : w.heap.size + 1 < w12.heap.size := by omega
  replace G := gb_trans G hb
  clear hb hsz
  replace hS0 := G.size
  have ll_4 := ll 4 _ rfl
  have mm_0 := mm 0 _ rfl
  have mm_1 := mm 1 _ rfl
  have mm_2 := mm 2 _ rfl
  go_wp2_with (first | ((with_reducible refine ld_lay ll rfl ?a142 ?h142); (case a142 => exact ⟨_, rfl, rfl, rfl⟩)))
  go_ret2
  exact ⟨rfl, h12, G⟩

end Go.Proofs.Ytaclnaedinfhmaa
