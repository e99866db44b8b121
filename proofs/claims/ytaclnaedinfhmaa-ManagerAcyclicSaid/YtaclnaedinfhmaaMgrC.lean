
/-
  Layer 17: Resolve, the own status not asked.
-/
import Derived.Test.YtaclnaedinfhmaaRows
import Derived.Test.YtaclnaedinfhmaaBase
import Derived.Test.YtaclnaedinfhmaaAux
import Derived.Test.YtaclnaedinfhmaaWord2
import Derived.Test.YtaclnaedinfhmaaLayA
import Derived.Test.YtaclnaedinfhmaaStepC
import Derived.Test.YtaclnaedinfhmaaStepD
import Derived.Test.YtaclnaedinfhmaaTake
import Derived.Test.YtaclnaedinfhmaaMgrA
import Derived.Test.YtaclnaedinfhmaaMgrB
import Derived.WalkKit
import Derived.WalkLawsBesides
import Derived.Lib.Hide
namespace Go.Proofs.Ytaclnaedinfhmaa
set_option linter.unusedVariables false
set_option linter.unusedSimpArgs false
set_option maxRecDepth 100000
set_option maxHeartbeats 4000000
open Go.ChangeShapes Go.WideShapes Go.ChangeAt Go.RowKit

theorem res_f0 (w : World) (g : Nat) (L : Ly) (hok : L.ok) (me other : Int) (m : Ct)  (h0 : RunAt w g []) :
    Calls Try.prog 61 #[caseV L me other false m, .pointer (some ⟨g, 0, none⟩)] w fun e w' => e = .panicked [{ v := .iface 124 (Ask.v ⟨1, atStatus L other, 0, 0⟩), recovered := false }] ∧ w.grownBy w' (some g) := by
  unfold caseV
  have HM : Hid (∀ w, Calls Try.prog 38 #[L.v, .int .i64 me] w fun e w' => e = .returned (.int .i64 (atStatus L me)) ∧ Below w.heap.size w w') := Lib.hid (fun w => status_any L me w hok)
  have HS : Hid (∀ w, Calls Try.prog 38 #[L.v, .int .i64 other] w fun e w' => e = .returned (.int .i64 (atStatus L other)) ∧ Below w.heap.size w w') := Lib.hid (fun w => status_any L other w hok)
  have HT : Hid (∀ w, Calls Try.prog 64 #[L.v, .int .i64 other] w fun e w' => e = .returned (.int .i64 (atStamp L other)) ∧ Below w.heap.size w w') := Lib.hid (fun w => stamp_any L other w hok)
  have HK : Hid (∀ w, Calls Try.prog 65 #[L.v, .int .i64 other] w fun e w' => e = .returned (.int .i64 (atKarma L other)) ∧ Below w.heap.size w w') := Lib.hid (fun w => karma_any L other w hok)
  unfold Ly.v at HM HS HT HK
  have hg0 := runAt_lt h0
  have G : w.grownBy w (some g) := gb_refl _ _
  have hS0 : w.heap.size + 0 ≤ w.heap.size := Nat.le_refl _
  go_enter Try.func61, Try.ntmps61
  go_wp2_with fail
  obtain ⟨w1, hwr⟩ : ∃ W, W = ((w.alloc (.cells #[.int .i64 L.c.t, .int .i64 L.c.l, .int .i64 L.c.k, .int .i64 L.c.s, .int .i64 L.c.m, .int .i64 L.clock, .int .i64 L.stamps, .int .i64 L.log, .int .i64 L.fin, .int .i64 L.thread, .int .i64 L.lock, .int .i64 L.loc, .int .i64 L.size, .int .i64 me, .int .i64 other, .bool false, .int .i64 m.s, .int .i64 m.k, .int .i64 m.a, .func (.func 30) #[] #[]] 119)).alloc (.cells #[.int .i64 0, .int .i64 0, .int .i64 0, .int .i64 0, .bool false, .bool false, .int .i64 0] 35)) := ⟨_, rfl⟩
  rw [← hwr]
  have hb : Below w.heap.size w w1 := by rw [hwr]; exact (Below.alloc (Below.alloc (Below.refl _ _) (by first | exact Nat.le_refl _ | (simp; omega) | simp) _) (by first | exact Nat.le_refl _ | (simp; omega) | simp) _)
  have cc : CellsAt w1 (w.heap.size) [.int .i64 L.c.t, .int .i64 L.c.l, .int .i64 L.c.k, .int .i64 L.c.s, .int .i64 L.c.m, .int .i64 L.clock, .int .i64 L.stamps, .int .i64 L.log, .int .i64 L.fin, .int .i64 L.thread, .int .i64 L.lock, .int .i64 L.loc, .int .i64 L.size, .int .i64 me, .int .i64 other, .bool false, .int .i64 m.s, .int .i64 m.k, .int .i64 m.a, .func (.func 30) #[] #[]] := by rw [hwr]; exact (cellsAt_alloc (cellsAt_new' w _ _ (w.heap.size) (by simp)) _)
  have ccz : w.heap.size < w1.heap.size := World.block_lt_of_cell? _ _ (cc 0 _ rfl)
  have oz : OutZ w1 (w.heap.size + 1) := by rw [hwr]; exact (OutZ.new' (w.alloc (.cells #[.int .i64 L.c.t, .int .i64 L.c.l, .int .i64 L.c.k, .int .i64 L.c.s, .int .i64 L.c.m, .int .i64 L.clock, .int .i64 L.stamps, .int .i64 L.log, .int .i64 L.fin, .int .i64 L.thread, .int .i64 L.lock, .int .i64 L.loc, .int .i64 L.size, .int .i64 me, .int .i64 other, .bool false, .int .i64 m.s, .int .i64 m.k, .int .i64 m.a, .func (.func 30) #[] #[]] 119)) _ (w.heap.size + 1) (by simp))
  have ozz : w.heap.size + 1 < w1.heap.size := OutZ.lt oz
  have h1 := runAt_keep h0 hb
  replace G := gb_trans G (gb_of_below (some g) hb)
  clear hb hwr
  replace hS0 := G.size
  have cc_4 := cc 4 _ rfl
  have cc_13 := cc 13 _ rfl
  have cc_14 := cc 14 _ rfl
  have cc_15 := cc 15 _ rfl
  have cc_16 := cc 16 _ rfl
  have cc_17 := cc 17 _ rfl
  have cc_18 := cc 18 _ rfl
  have cc_19 := cc 19 _ rfl
  go_wp2_with (first | ((with_reducible refine ld_layT cc ?a55 ?h55); (case a55 => exact ⟨_, rfl, rfl, rfl⟩)) | ((with_reducible refine ld_case cc rfl ?a56 ?h56); (case a56 => exact ⟨_, rfl, rfl, rfl⟩)))
  ((with_reducible refine (HS.out _).mono ?_); rintro e w2 ⟨rfl, hb⟩)
  clear cc_4 cc_13 cc_14 cc_15 cc_16 cc_17 cc_18 cc_19
  have hsz := hb.size
  (try simp at hsz)
  replace cc := cellsAt_keep cc hb
  replace oz := OutZ.below oz hb
  replace ccz : w.heap.size < w2.heap.size := by omega
  replace ozz : w.heap.size + 1 < w2.heap.size := by omega
  have h2 := runAt_keep h1 hb
  replace G := gb_trans G (gb_of_below (some g) hb)
  clear hb hsz
  replace hS0 := G.size
  have cc_4 := cc 4 _ rfl
  have cc_13 := cc 13 _ rfl
  have cc_14 := cc 14 _ rfl
  have cc_15 := cc 15 _ rfl
  have cc_16 := cc 16 _ rfl
  have cc_17 := cc 17 _ rfl
  have cc_18 := cc 18 _ rfl
  have cc_19 := cc 19 _ rfl
  go_wp2_with (first | ((with_reducible refine ld_layT cc ?a57 ?h57); (case a57 => exact ⟨_, rfl, rfl, rfl⟩)) | ((with_reducible refine ld_case cc rfl ?a58 ?h58); (case a58 => exact ⟨_, rfl, rfl, rfl⟩)))
  ((with_reducible refine (load_none _ g _ h2).mono ?_); rintro e w3 ⟨rfl, hb⟩)
  exact ⟨rfl, rfl, gb_trans G (gb_of_below (some g) hb)⟩

theorem res_fidle (w : World) (g : Nat) (L : Ly) (hok : L.ok) (me other : Int) (m : Ct) (s : Int × Bool) (l : List (Int × Bool)) (h0 : RunAt w g (s :: l)) (hs : s.1 % 4 = 0) :
    Calls Try.prog 61 #[caseV L me other false m, .pointer (some ⟨g, 0, none⟩)] w fun e w' => e = .returned (OutD.v { val := 0 }) ∧ w.grownBy w' (some g) := by
  unfold caseV
  have HM : Hid (∀ w, Calls Try.prog 38 #[L.v, .int .i64 me] w fun e w' => e = .returned (.int .i64 (atStatus L me)) ∧ Below w.heap.size w w') := Lib.hid (fun w => status_any L me w hok)
  have HS : Hid (∀ w, Calls Try.prog 38 #[L.v, .int .i64 other] w fun e w' => e = .returned (.int .i64 (atStatus L other)) ∧ Below w.heap.size w w') := Lib.hid (fun w => status_any L other w hok)
  have HT : Hid (∀ w, Calls Try.prog 64 #[L.v, .int .i64 other] w fun e w' => e = .returned (.int .i64 (atStamp L other)) ∧ Below w.heap.size w w') := Lib.hid (fun w => stamp_any L other w hok)
  have HK : Hid (∀ w, Calls Try.prog 65 #[L.v, .int .i64 other] w fun e w' => e = .returned (.int .i64 (atKarma L other)) ∧ Below w.heap.size w w') := Lib.hid (fun w => karma_any L other w hok)
  unfold Ly.v at HM HS HT HK
  have hs0 : (s.1 % 4 == 0) = true := by simp [hs]
  have hg0 := runAt_lt h0
  have G : w.grownBy w (some g) := gb_refl _ _
  have hS0 : w.heap.size + 0 ≤ w.heap.size := Nat.le_refl _
  go_enter Try.func61, Try.ntmps61
  go_wp2_with fail
  obtain ⟨w1, hwr⟩ : ∃ W, W = ((w.alloc (.cells #[.int .i64 L.c.t, .int .i64 L.c.l, .int .i64 L.c.k, .int .i64 L.c.s, .int .i64 L.c.m, .int .i64 L.clock, .int .i64 L.stamps, .int .i64 L.log, .int .i64 L.fin, .int .i64 L.thread, .int .i64 L.lock, .int .i64 L.loc, .int .i64 L.size, .int .i64 me, .int .i64 other, .bool false, .int .i64 m.s, .int .i64 m.k, .int .i64 m.a, .func (.func 30) #[] #[]] 119)).alloc (.cells #[.int .i64 0, .int .i64 0, .int .i64 0, .int .i64 0, .bool false, .bool false, .int .i64 0] 35)) := ⟨_, rfl⟩
  rw [← hwr]
  have hb : Below w.heap.size w w1 := by rw [hwr]; exact (Below.alloc (Below.alloc (Below.refl _ _) (by first | exact Nat.le_refl _ | (simp; omega) | simp) _) (by first | exact Nat.le_refl _ | (simp; omega) | simp) _)
  have cc : CellsAt w1 (w.heap.size) [.int .i64 L.c.t, .int .i64 L.c.l, .int .i64 L.c.k, .int .i64 L.c.s, .int .i64 L.c.m, .int .i64 L.clock, .int .i64 L.stamps, .int .i64 L.log, .int .i64 L.fin, .int .i64 L.thread, .int .i64 L.lock, .int .i64 L.loc, .int .i64 L.size, .int .i64 me, .int .i64 other, .bool false, .int .i64 m.s, .int .i64 m.k, .int .i64 m.a, .func (.func 30) #[] #[]] := by rw [hwr]; exact (cellsAt_alloc (cellsAt_new' w _ _ (w.heap.size) (by simp)) _)
  have ccz : w.heap.size < w1.heap.size := World.block_lt_of_cell? _ _ (cc 0 _ rfl)
  have oz : OutZ w1 (w.heap.size + 1) := by rw [hwr]; exact (OutZ.new' (w.alloc (.cells #[.int .i64 L.c.t, .int .i64 L.c.l, .int .i64 L.c.k, .int .i64 L.c.s, .int .i64 L.c.m, .int .i64 L.clock, .int .i64 L.stamps, .int .i64 L.log, .int .i64 L.fin, .int .i64 L.thread, .int .i64 L.lock, .int .i64 L.loc, .int .i64 L.size, .int .i64 me, .int .i64 other, .bool false, .int .i64 m.s, .int .i64 m.k, .int .i64 m.a, .func (.func 30) #[] #[]] 119)) _ (w.heap.size + 1) (by simp))
  have ozz : w.heap.size + 1 < w1.heap.size := OutZ.lt oz
  have h1 := runAt_keep h0 hb
  replace G := gb_trans G (gb_of_below (some g) hb)
  clear hb hwr
  replace hS0 := G.size
  have cc_4 := cc 4 _ rfl
  have cc_13 := cc 13 _ rfl
  have cc_14 := cc 14 _ rfl
  have cc_15 := cc 15 _ rfl
  have cc_16 := cc 16 _ rfl
  have cc_17 := cc 17 _ rfl
  have cc_18 := cc 18 _ rfl
  have cc_19 := cc 19 _ rfl
  go_wp2_with (first | ((with_reducible refine ld_layT cc ?a59 ?h59); (case a59 => exact ⟨_, rfl, rfl, rfl⟩)) | ((with_reducible refine ld_case cc rfl ?a60 ?h60); (case a60 => exact ⟨_, rfl, rfl, rfl⟩)))
  ((with_reducible refine (HS.out _).mono ?_); rintro e w2 ⟨rfl, hb⟩)
  clear cc_4 cc_13 cc_14 cc_15 cc_16 cc_17 cc_18 cc_19
  have hsz := hb.size
  (try simp at hsz)
  replace cc := cellsAt_keep cc hb
  replace oz := OutZ.below oz hb
  replace ccz : w.heap.size < w2.heap.size := by omega
  replace ozz : w.heap.size + 1 < w2.heap.size := by omega
  have h2 := runAt_keep h1 hb
  replace G := gb_trans G (gb_of_below (some g) hb)
  clear hb hsz
  replace hS0 := G.size
  have cc_4 := cc 4 _ rfl
  have cc_13 := cc 13 _ rfl
  have cc_14 := cc 14 _ rfl
  have cc_15 := cc 15 _ rfl
  have cc_16 := cc 16 _ rfl
  have cc_17 := cc 17 _ rfl
  have cc_18 := cc 18 _ rfl
  have cc_19 := cc 19 _ rfl
  go_wp2_with (first | ((with_reducible refine ld_layT cc ?a61 ?h61); (case a61 => exact ⟨_, rfl, rfl, rfl⟩)) | ((with_reducible refine ld_case cc rfl ?a62 ?h62); (case a62 => exact ⟨_, rfl, rfl, rfl⟩)))
  ((with_reducible refine (load_some _ g _ _ _ h2).mono ?_); rintro e w3 ⟨rfl, h3, hb⟩)
  clear cc_4 cc_13 cc_14 cc_15 cc_16 cc_17 cc_18 cc_19
  have hsz := hb.size
  (try simp at hsz)
  replace cc := cellsAt_gb cc hb (by omega)
  replace oz := OutZ.gb oz hb (by omega)
  replace ccz : w.heap.size < w3.heap.size := by omega
  replace ozz : w.heap.size + 1 < w3.heap.size := by omega
  replace G := gb_trans G hb
  clear hb hsz
  replace hS0 := G.size
  have cc_4 := cc 4 _ rfl
  have cc_13 := cc 13 _ rfl
  have cc_14 := cc 14 _ rfl
  have cc_15 := cc 15 _ rfl
  have cc_16 := cc 16 _ rfl
  have cc_17 := cc 17 _ rfl
  have cc_18 := cc 18 _ rfl
  have cc_19 := cc 19 _ rfl
  go_wp2_with (first | ((with_reducible refine ld_layT cc ?a63 ?h63); (case a63 => exact ⟨_, rfl, rfl, rfl⟩)) | ((with_reducible refine ld_case cc rfl ?a64 ?h64); (case a64 => exact ⟨_, rfl, rfl, rfl⟩)))
  ((with_reducible refine (kind_any _ _).mono ?_); rintro e w' ⟨rfl, rfl⟩)
  have oq0 := oz.c0
  have oq1 := oz.c1
  have oq2 := oz.c2
  have oq3 := oz.c3
  have oq4 := oz.c4
  have oq5 := oz.c5
  have oq6 := oz.c6
  have of := oz.fr
  go_wp2_with (first | ((with_reducible refine ld_layT cc ?a65 ?h65); (case a65 => exact ⟨_, rfl, rfl, rfl⟩)) | ((with_reducible refine ld_case cc rfl ?a66 ?h66); (case a66 => exact ⟨_, rfl, rfl, rfl⟩)))
  obtain ⟨W, hW, k0, k1, k2, k3, k4, k5, k6⟩ := outs_at oz (.int .i64 (0)) (.int .i64 (0)) (.int .i64 (0)) (.int .i64 (0)) (.bool false) (.bool false) (.int .i64 (0))
  rw [← hW]
  simp [bodyPost, results, Try.results61, go_sem, k0, k1, k2, k3, k4, k5, k6, OutD.v]
  rw [hW]
  exact gb_outs G (by first | exact Nat.le_refl _ | omega) _ _ _ _ _ _ _

theorem res_f1 (w : World) (g : Nat) (L : Ly) (hok : L.ok) (me other : Int) (m : Ct) (s : Int × Bool) (h0 : RunAt w g [s]) (hi : I64 s.1) (hs : ¬s.1 % 4 = 0) :
    Calls Try.prog 61 #[caseV L me other false m, .pointer (some ⟨g, 0, none⟩)] w fun e w' => e = .panicked [{ v := .iface 124 (Ask.v ⟨1, atStamp L other, 0, 0⟩), recovered := false }] ∧ w.grownBy w' (some g) := by
  unfold caseV
  have HM : Hid (∀ w, Calls Try.prog 38 #[L.v, .int .i64 me] w fun e w' => e = .returned (.int .i64 (atStatus L me)) ∧ Below w.heap.size w w') := Lib.hid (fun w => status_any L me w hok)
  have HS : Hid (∀ w, Calls Try.prog 38 #[L.v, .int .i64 other] w fun e w' => e = .returned (.int .i64 (atStatus L other)) ∧ Below w.heap.size w w') := Lib.hid (fun w => status_any L other w hok)
  have HT : Hid (∀ w, Calls Try.prog 64 #[L.v, .int .i64 other] w fun e w' => e = .returned (.int .i64 (atStamp L other)) ∧ Below w.heap.size w w') := Lib.hid (fun w => stamp_any L other w hok)
  have HK : Hid (∀ w, Calls Try.prog 65 #[L.v, .int .i64 other] w fun e w' => e = .returned (.int .i64 (atKarma L other)) ∧ Below w.heap.size w w') := Lib.hid (fun w => karma_any L other w hok)
  unfold Ly.v at HM HS HT HK
  have hs0 : (s.1 % 4 == 0) = false := by simp [hs]
  have hg0 := runAt_lt h0
  have G : w.grownBy w (some g) := gb_refl _ _
  have hS0 : w.heap.size + 0 ≤ w.heap.size := Nat.le_refl _
  go_enter Try.func61, Try.ntmps61
  go_wp2_with fail
  obtain ⟨w1, hwr⟩ : ∃ W, W = ((w.alloc (.cells #[.int .i64 L.c.t, .int .i64 L.c.l, .int .i64 L.c.k, .int .i64 L.c.s, .int .i64 L.c.m, .int .i64 L.clock, .int .i64 L.stamps, .int .i64 L.log, .int .i64 L.fin, .int .i64 L.thread, .int .i64 L.lock, .int .i64 L.loc, .int .i64 L.size, .int .i64 me, .int .i64 other, .bool false, .int .i64 m.s, .int .i64 m.k, .int .i64 m.a, .func (.func 30) #[] #[]] 119)).alloc (.cells #[.int .i64 0, .int .i64 0, .int .i64 0, .int .i64 0, .bool false, .bool false, .int .i64 0] 35)) := ⟨_, rfl⟩
  rw [← hwr]
  have hb : Below w.heap.size w w1 := by rw [hwr]; exact (Below.alloc (Below.alloc (Below.refl _ _) (by first | exact Nat.le_refl _ | (simp; omega) | simp) _) (by first | exact Nat.le_refl _ | (simp; omega) | simp) _)
  have cc : CellsAt w1 (w.heap.size) [.int .i64 L.c.t, .int .i64 L.c.l, .int .i64 L.c.k, .int .i64 L.c.s, .int .i64 L.c.m, .int .i64 L.clock, .int .i64 L.stamps, .int .i64 L.log, .int .i64 L.fin, .int .i64 L.thread, .int .i64 L.lock, .int .i64 L.loc, .int .i64 L.size, .int .i64 me, .int .i64 other, .bool false, .int .i64 m.s, .int .i64 m.k, .int .i64 m.a, .func (.func 30) #[] #[]] := by rw [hwr]; exact (cellsAt_alloc (cellsAt_new' w _ _ (w.heap.size) (by simp)) _)
  have ccz : w.heap.size < w1.heap.size := World.block_lt_of_cell? _ _ (cc 0 _ rfl)
  have oz : OutZ w1 (w.heap.size + 1) := by rw [hwr]; exact (OutZ.new' (w.alloc (.cells #[.int .i64 L.c.t, .int .i64 L.c.l, .int .i64 L.c.k, .int .i64 L.c.s, .int .i64 L.c.m, .int .i64 L.clock, .int .i64 L.stamps, .int .i64 L.log, .int .i64 L.fin, .int .i64 L.thread, .int .i64 L.lock, .int .i64 L.loc, .int .i64 L.size, .int .i64 me, .int .i64 other, .bool false, .int .i64 m.s, .int .i64 m.k, .int .i64 m.a, .func (.func 30) #[] #[]] 119)) _ (w.heap.size + 1) (by simp))
  have ozz : w.heap.size + 1 < w1.heap.size := OutZ.lt oz
  have h1 := runAt_keep h0 hb
  replace G := gb_trans G (gb_of_below (some g) hb)
  clear hb hwr
  replace hS0 := G.size
  have cc_4 := cc 4 _ rfl
  have cc_13 := cc 13 _ rfl
  have cc_14 := cc 14 _ rfl
  have cc_15 := cc 15 _ rfl
  have cc_16 := cc 16 _ rfl
  have cc_17 := cc 17 _ rfl
  have cc_18 := cc 18 _ rfl
  have cc_19 := cc 19 _ rfl
  go_wp2_with (first | ((with_reducible refine ld_layT cc ?a67 ?h67); (case a67 => exact ⟨_, rfl, rfl, rfl⟩)) | ((with_reducible refine ld_case cc rfl ?a68 ?h68); (case a68 => exact ⟨_, rfl, rfl, rfl⟩)))
  ((with_reducible refine (HS.out _).mono ?_); rintro e w2 ⟨rfl, hb⟩)
  clear cc_4 cc_13 cc_14 cc_15 cc_16 cc_17 cc_18 cc_19
  have hsz := hb.size
  (try simp at hsz)
  replace cc := cellsAt_keep cc hb
  replace oz := OutZ.below oz hb
  replace ccz : w.heap.size < w2.heap.size := by omega
  replace ozz : w.heap.size + 1 < w2.heap.size := by omega
  have h2 := runAt_keep h1 hb
  replace G := gb_trans G (gb_of_below (some g) hb)
  clear hb hsz
  replace hS0 := G.size
  have cc_4 := cc 4 _ rfl
  have cc_13 := cc 13 _ rfl
  have cc_14 := cc 14 _ rfl
  have cc_15 := cc 15 _ rfl
  have cc_16 := cc 16 _ rfl
  have cc_17 := cc 17 _ rfl
  have cc_18 := cc 18 _ rfl
  have cc_19 := cc 19 _ rfl
  go_wp2_with (first | ((with_reducible refine ld_layT cc ?a69 ?h69); (case a69 => exact ⟨_, rfl, rfl, rfl⟩)) | ((with_reducible refine ld_case cc rfl ?a70 ?h70); (case a70 => exact ⟨_, rfl, rfl, rfl⟩)))
  ((with_reducible refine (load_some _ g _ _ _ h2).mono ?_); rintro e w3 ⟨rfl, h3, hb⟩)
  clear cc_4 cc_13 cc_14 cc_15 cc_16 cc_17 cc_18 cc_19
  have hsz := hb.size
  (try simp at hsz)
  replace cc := cellsAt_gb cc hb (by omega)
  replace oz := OutZ.gb oz hb (by omega)
  replace ccz : w.heap.size < w3.heap.size := by omega
  replace ozz : w.heap.size + 1 < w3.heap.size := by omega
  replace G := gb_trans G hb
  clear hb hsz
  replace hS0 := G.size
  have cc_4 := cc 4 _ rfl
  have cc_13 := cc 13 _ rfl
  have cc_14 := cc 14 _ rfl
  have cc_15 := cc 15 _ rfl
  have cc_16 := cc 16 _ rfl
  have cc_17 := cc 17 _ rfl
  have cc_18 := cc 18 _ rfl
  have cc_19 := cc 19 _ rfl
  go_wp2_with (first | ((with_reducible refine ld_layT cc ?a71 ?h71); (case a71 => exact ⟨_, rfl, rfl, rfl⟩)) | ((with_reducible refine ld_case cc rfl ?a72 ?h72); (case a72 => exact ⟨_, rfl, rfl, rfl⟩)))
  ((with_reducible refine (kind_any _ _).mono ?_); rintro e w' ⟨rfl, rfl⟩)
  go_wp2_with (first | ((with_reducible refine ld_layT cc ?a73 ?h73); (case a73 => exact ⟨_, rfl, rfl, rfl⟩)) | ((with_reducible refine ld_case cc rfl ?a74 ?h74); (case a74 => exact ⟨_, rfl, rfl, rfl⟩)))
  ((with_reducible refine (try_any _ hi _).mono ?_); rintro e w' ⟨rfl, rfl⟩)
  go_wp2_with (first | ((with_reducible refine ld_layT (cellsAt_alloc cc _) ?a75 ?h75); (case a75 => exact ⟨_, rfl, rfl, rfl⟩)) | ((with_reducible refine ld_layT cc ?a76 ?h76); (case a76 => exact ⟨_, rfl, rfl, rfl⟩)) | ((with_reducible refine ld_case (cellsAt_alloc cc _) rfl ?a77 ?h77); (case a77 => exact ⟨_, rfl, rfl, rfl⟩)) | ((with_reducible refine ld_case cc rfl ?a78 ?h78); (case a78 => exact ⟨_, rfl, rfl, rfl⟩)))
  ((with_reducible refine (HT.out _).mono ?_); rintro e w4 ⟨rfl, hb⟩)
  clear cc_4 cc_13 cc_14 cc_15 cc_16 cc_17 cc_18 cc_19
  have hsz := hb.size
  (try simp at hsz)
  have xcczn : w.heap.size ≠ w3.heap.size := by omega
  have xozzn : w.heap.size + 1 ≠ w3.heap.size := by omega
  have xgn : w3.heap.size ≠ g := by omega
  have xlo : w.heap.size ≤ w3.heap.size := by omega
  replace cc := cellsAt_keep (cellsAt_alloc cc _) hb
  replace oz := OutZ.below (OutZ.alloc oz _) hb
  have xq0 : w4.cell? ⟨w3.heap.size, 0, none⟩ = some (.int .i64 0) := cel_below hb (by rw [World.cell?_alloc_at _ _ _ _ (by simp)]; rfl)
  have xq1 : w4.cell? ⟨w3.heap.size, 1, none⟩ = some (.int .i64 0) := cel_below hb (by rw [World.cell?_alloc_at _ _ _ _ (by simp)]; rfl)
  have xq2 : w4.cell? ⟨w3.heap.size, 2, none⟩ = some (.int .i64 (s.1 / 4)) := cel_below hb (by rw [World.cell?_alloc_at _ _ _ _ (by simp)]; rfl)
  have xf : ∀ o, w4.frozen? ⟨w3.heap.size, o, none⟩ = false := fun o => fro_below hb (by first | omega | (simp; done) | (simp; omega)) (World.frozen?_alloc_at _ _ _ _ (by simp))
  replace ccz : w.heap.size < w4.heap.size := by omega
  replace ozz : w.heap.size + 1 < w4.heap.size := by omega
  have xz : w3.heap.size < w4.heap.size := World.block_lt_of_cell? _ _ xq0
  have h4 := runAt_keep (runAt_alloc h3 _) hb
  replace G := gb_trans (gb_alloc G _) (gb_of_below (some g) hb)
  clear hb hsz
  replace hS0 := G.size
  have cc_4 := cc 4 _ rfl
  have cc_13 := cc 13 _ rfl
  have cc_14 := cc 14 _ rfl
  have cc_15 := cc 15 _ rfl
  have cc_16 := cc 16 _ rfl
  have cc_17 := cc 17 _ rfl
  have cc_18 := cc 18 _ rfl
  have cc_19 := cc 19 _ rfl
  go_wp2_with (first | ((with_reducible refine ld_layT cc ?a79 ?h79); (case a79 => exact ⟨_, rfl, rfl, rfl⟩)) | ((with_reducible refine ld_case cc rfl ?a80 ?h80); (case a80 => exact ⟨_, rfl, rfl, rfl⟩)))
  ((with_reducible refine (load_none _ g _ h4).mono ?_); rintro e w5 ⟨rfl, hb⟩)
  exact ⟨rfl, rfl, gb_trans G (gb_of_below (some g) hb)⟩

theorem res_f2 (w : World) (g : Nat) (L : Ly) (hok : L.ok) (me other : Int) (m : Ct) (s t : Int × Bool) (h0 : RunAt w g [s, t]) (hi : I64 s.1) (hs : ¬s.1 % 4 = 0) :
    Calls Try.prog 61 #[caseV L me other false m, .pointer (some ⟨g, 0, none⟩)] w fun e w' => e = .panicked [{ v := .iface 124 (Ask.v ⟨1, atKarma L other, 0, 0⟩), recovered := false }] ∧ w.grownBy w' (some g) := by
  unfold caseV
  have HM : Hid (∀ w, Calls Try.prog 38 #[L.v, .int .i64 me] w fun e w' => e = .returned (.int .i64 (atStatus L me)) ∧ Below w.heap.size w w') := Lib.hid (fun w => status_any L me w hok)
  have HS : Hid (∀ w, Calls Try.prog 38 #[L.v, .int .i64 other] w fun e w' => e = .returned (.int .i64 (atStatus L other)) ∧ Below w.heap.size w w') := Lib.hid (fun w => status_any L other w hok)
  have HT : Hid (∀ w, Calls Try.prog 64 #[L.v, .int .i64 other] w fun e w' => e = .returned (.int .i64 (atStamp L other)) ∧ Below w.heap.size w w') := Lib.hid (fun w => stamp_any L other w hok)
  have HK : Hid (∀ w, Calls Try.prog 65 #[L.v, .int .i64 other] w fun e w' => e = .returned (.int .i64 (atKarma L other)) ∧ Below w.heap.size w w') := Lib.hid (fun w => karma_any L other w hok)
  unfold Ly.v at HM HS HT HK
  have hs0 : (s.1 % 4 == 0) = false := by simp [hs]
  have hg0 := runAt_lt h0
  have G : w.grownBy w (some g) := gb_refl _ _
  have hS0 : w.heap.size + 0 ≤ w.heap.size := Nat.le_refl _
  go_enter Try.func61, Try.ntmps61
  go_wp2_with fail
  obtain ⟨w1, hwr⟩ : ∃ W, W = ((w.alloc (.cells #[.int .i64 L.c.t, .int .i64 L.c.l, .int .i64 L.c.k, .int .i64 L.c.s, .int .i64 L.c.m, .int .i64 L.clock, .int .i64 L.stamps, .int .i64 L.log, .int .i64 L.fin, .int .i64 L.thread, .int .i64 L.lock, .int .i64 L.loc, .int .i64 L.size, .int .i64 me, .int .i64 other, .bool false, .int .i64 m.s, .int .i64 m.k, .int .i64 m.a, .func (.func 30) #[] #[]] 119)).alloc (.cells #[.int .i64 0, .int .i64 0, .int .i64 0, .int .i64 0, .bool false, .bool false, .int .i64 0] 35)) := ⟨_, rfl⟩
  rw [← hwr]
  have hb : Below w.heap.size w w1 := by rw [hwr]; exact (Below.alloc (Below.alloc (Below.refl _ _) (by first | exact Nat.le_refl _ | (simp; omega) | simp) _) (by first | exact Nat.le_refl _ | (simp; omega) | simp) _)
  have cc : CellsAt w1 (w.heap.size) [.int .i64 L.c.t, .int .i64 L.c.l, .int .i64 L.c.k, .int .i64 L.c.s, .int .i64 L.c.m, .int .i64 L.clock, .int .i64 L.stamps, .int .i64 L.log, .int .i64 L.fin, .int .i64 L.thread, .int .i64 L.lock, .int .i64 L.loc, .int .i64 L.size, .int .i64 me, .int .i64 other, .bool false, .int .i64 m.s, .int .i64 m.k, .int .i64 m.a, .func (.func 30) #[] #[]] := by rw [hwr]; exact (cellsAt_alloc (cellsAt_new' w _ _ (w.heap.size) (by simp)) _)
  have ccz : w.heap.size < w1.heap.size := World.block_lt_of_cell? _ _ (cc 0 _ rfl)
  have oz : OutZ w1 (w.heap.size + 1) := by rw [hwr]; exact (OutZ.new' (w.alloc (.cells #[.int .i64 L.c.t, .int .i64 L.c.l, .int .i64 L.c.k, .int .i64 L.c.s, .int .i64 L.c.m, .int .i64 L.clock, .int .i64 L.stamps, .int .i64 L.log, .int .i64 L.fin, .int .i64 L.thread, .int .i64 L.lock, .int .i64 L.loc, .int .i64 L.size, .int .i64 me, .int .i64 other, .bool false, .int .i64 m.s, .int .i64 m.k, .int .i64 m.a, .func (.func 30) #[] #[]] 119)) _ (w.heap.size + 1) (by simp))
  have ozz : w.heap.size + 1 < w1.heap.size := OutZ.lt oz
  have h1 := runAt_keep h0 hb
  replace G := gb_trans G (gb_of_below (some g) hb)
  clear hb hwr
  replace hS0 := G.size
  have cc_4 := cc 4 _ rfl
  have cc_13 := cc 13 _ rfl
  have cc_14 := cc 14 _ rfl
  have cc_15 := cc 15 _ rfl
  have cc_16 := cc 16 _ rfl
  have cc_17 := cc 17 _ rfl
  have cc_18 := cc 18 _ rfl
  have cc_19 := cc 19 _ rfl
  go_wp2_with (first | ((with_reducible refine ld_layT cc ?a81 ?h81); (case a81 => exact ⟨_, rfl, rfl, rfl⟩)) | ((with_reducible refine ld_case cc rfl ?a82 ?h82); (case a82 => exact ⟨_, rfl, rfl, rfl⟩)))
  ((with_reducible refine (HS.out _).mono ?_); rintro e w2 ⟨rfl, hb⟩)
  clear cc_4 cc_13 cc_14 cc_15 cc_16 cc_17 cc_18 cc_19
  have hsz := hb.size
  (try simp at hsz)
  replace cc := cellsAt_keep cc hb
  replace oz := OutZ.below oz hb
  replace ccz : w.heap.size < w2.heap.size := by omega
  replace ozz : w.heap.size + 1 < w2.heap.size := by omega
  have h2 := runAt_keep h1 hb
  replace G := gb_trans G (gb_of_below (some g) hb)
  clear hb hsz
  replace hS0 := G.size
  have cc_4 := cc 4 _ rfl
  have cc_13 := cc 13 _ rfl
  have cc_14 := cc 14 _ rfl
  have cc_15 := cc 15 _ rfl
  have cc_16 := cc 16 _ rfl
  have cc_17 := cc 17 _ rfl
  have cc_18 := cc 18 _ rfl
  have cc_19 := cc 19 _ rfl
  go_wp2_with (first | ((with_reducible refine ld_layT cc ?a83 ?h83); (case a83 => exact ⟨_, rfl, rfl, rfl⟩)) | ((with_reducible refine ld_case cc rfl ?a84 ?h84); (case a84 => exact ⟨_, rfl, rfl, rfl⟩)))
  ((with_reducible refine (load_some _ g _ _ _ h2).mono ?_); rintro e w3 ⟨rfl, h3, hb⟩)
  clear cc_4 cc_13 cc_14 cc_15 cc_16 cc_17 cc_18 cc_19
  have hsz := hb.size
  (try simp at hsz)
  replace cc := cellsAt_gb cc hb (by omega)
  replace oz := OutZ.gb oz hb (by omega)
  replace ccz : w.heap.size < w3.heap.size := by omega
  replace ozz : w.heap.size + 1 < w3.heap.size := by omega
  replace G := gb_trans G hb
  clear hb hsz
  replace hS0 := G.size
  have cc_4 := cc 4 _ rfl
  have cc_13 := cc 13 _ rfl
  have cc_14 := cc 14 _ rfl
  have cc_15 := cc 15 _ rfl
  have cc_16 := cc 16 _ rfl
  have cc_17 := cc 17 _ rfl
  have cc_18 := cc 18 _ rfl
  have cc_19 := cc 19 _ rfl
  go_wp2_with (first | ((with_reducible refine ld_layT cc ?a85 ?h85); (case a85 => exact ⟨_, rfl, rfl, rfl⟩)) | ((with_reducible refine ld_case cc rfl ?a86 ?h86); (case a86 => exact ⟨_, rfl, rfl, rfl⟩)))
  ((with_reducible refine (kind_any _ _).mono ?_); rintro e w' ⟨rfl, rfl⟩)
  go_wp2_with (first | ((with_reducible refine ld_layT cc ?a87 ?h87); (case a87 => exact ⟨_, rfl, rfl, rfl⟩)) | ((with_reducible refine ld_case cc rfl ?a88 ?h88); (case a88 => exact ⟨_, rfl, rfl, rfl⟩)))
  ((with_reducible refine (try_any _ hi _).mono ?_); rintro e w' ⟨rfl, rfl⟩)
  go_wp2_with (first | ((with_reducible refine ld_layT (cellsAt_alloc cc _) ?a89 ?h89); (case a89 => exact ⟨_, rfl, rfl, rfl⟩)) | ((with_reducible refine ld_layT cc ?a90 ?h90); (case a90 => exact ⟨_, rfl, rfl, rfl⟩)) | ((with_reducible refine ld_case (cellsAt_alloc cc _) rfl ?a91 ?h91); (case a91 => exact ⟨_, rfl, rfl, rfl⟩)) | ((with_reducible refine ld_case cc rfl ?a92 ?h92); (case a92 => exact ⟨_, rfl, rfl, rfl⟩)))
  ((with_reducible refine (HT.out _).mono ?_); rintro e w4 ⟨rfl, hb⟩)
  clear cc_4 cc_13 cc_14 cc_15 cc_16 cc_17 cc_18 cc_19
  have hsz := hb.size
  (try simp at hsz)
  have xcczn : w.heap.size ≠ w3.heap.size := by omega
  have xozzn : w.heap.size + 1 ≠ w3.heap.size := by omega
  have xgn : w3.heap.size ≠ g := by omega
  have xlo : w.heap.size ≤ w3.heap.size := by omega
  replace cc := cellsAt_keep (cellsAt_alloc cc _) hb
  replace oz := OutZ.below (OutZ.alloc oz _) hb
  have xq0 : w4.cell? ⟨w3.heap.size, 0, none⟩ = some (.int .i64 0) := cel_below hb (by rw [World.cell?_alloc_at _ _ _ _ (by simp)]; rfl)
  have xq1 : w4.cell? ⟨w3.heap.size, 1, none⟩ = some (.int .i64 0) := cel_below hb (by rw [World.cell?_alloc_at _ _ _ _ (by simp)]; rfl)
  have xq2 : w4.cell? ⟨w3.heap.size, 2, none⟩ = some (.int .i64 (s.1 / 4)) := cel_below hb (by rw [World.cell?_alloc_at _ _ _ _ (by simp)]; rfl)
  have xf : ∀ o, w4.frozen? ⟨w3.heap.size, o, none⟩ = false := fun o => fro_below hb (by first | omega | (simp; done) | (simp; omega)) (World.frozen?_alloc_at _ _ _ _ (by simp))
  replace ccz : w.heap.size < w4.heap.size := by omega
  replace ozz : w.heap.size + 1 < w4.heap.size := by omega
  have xz : w3.heap.size < w4.heap.size := World.block_lt_of_cell? _ _ xq0
  have h4 := runAt_keep (runAt_alloc h3 _) hb
  replace G := gb_trans (gb_alloc G _) (gb_of_below (some g) hb)
  clear hb hsz
  replace hS0 := G.size
  have cc_4 := cc 4 _ rfl
  have cc_13 := cc 13 _ rfl
  have cc_14 := cc 14 _ rfl
  have cc_15 := cc 15 _ rfl
  have cc_16 := cc 16 _ rfl
  have cc_17 := cc 17 _ rfl
  have cc_18 := cc 18 _ rfl
  have cc_19 := cc 19 _ rfl
  go_wp2_with (first | ((with_reducible refine ld_layT cc ?a93 ?h93); (case a93 => exact ⟨_, rfl, rfl, rfl⟩)) | ((with_reducible refine ld_case cc rfl ?a94 ?h94); (case a94 => exact ⟨_, rfl, rfl, rfl⟩)))
  ((with_reducible refine (load_some _ g _ _ _ h4).mono ?_); rintro e w5 ⟨rfl, h5, hb⟩)
  clear cc_4 cc_13 cc_14 cc_15 cc_16 cc_17 cc_18 cc_19
  have hsz := hb.size
  (try simp at hsz)
  replace cc := cellsAt_gb cc hb (by omega)
  replace oz := OutZ.gb oz hb (by omega)
  replace xq0 : w5.cell? ⟨w3.heap.size, 0, none⟩ = some (.int .i64 0) := gbc hb xq0 (by omega)
  replace xq1 : w5.cell? ⟨w3.heap.size, 1, none⟩ = some (.int .i64 0) := gbc hb xq1 (by omega)
  replace xq2 : w5.cell? ⟨w3.heap.size, 2, none⟩ = some (.int .i64 (s.1 / 4)) := gbc hb xq2 (by omega)
  replace xf : ∀ o, w5.frozen? ⟨w3.heap.size, o, none⟩ = false := fun o => gbf hb (by first | omega | (simp; done) | (simp; omega)) (by omega) (xf o)
  replace ccz : w.heap.size < w5.heap.size := by omega
  replace ozz : w.heap.size + 1 < w5.heap.size := by omega
  replace xz : w3.heap.size < w5.heap.size := by omega
  replace G := gb_trans G hb
  clear hb hsz
  replace hS0 := G.size
  have cc_4 := cc 4 _ rfl
  have cc_13 := cc 13 _ rfl
  have cc_14 := cc 14 _ rfl
  have cc_15 := cc 15 _ rfl
  have cc_16 := cc 16 _ rfl
  have cc_17 := cc 17 _ rfl
  have cc_18 := cc 18 _ rfl
  have cc_19 := cc 19 _ rfl
  go_wp2_with (first | ((with_reducible refine ld_layT (cellsAt_set cc (by omega) _) ?a95 ?h95); (case a95 => exact ⟨_, rfl, rfl, rfl⟩)) | ((with_reducible refine ld_layT cc ?a96 ?h96); (case a96 => exact ⟨_, rfl, rfl, rfl⟩)) | ((with_reducible refine ld_case (cellsAt_set cc (by omega) _) rfl ?a97 ?h97); (case a97 => exact ⟨_, rfl, rfl, rfl⟩)) | ((with_reducible refine ld_case cc rfl ?a98 ?h98); (case a98 => exact ⟨_, rfl, rfl, rfl⟩)))
  ((with_reducible refine (HK.out _).mono ?_); rintro e w6 ⟨rfl, hb⟩)
  clear cc_4 cc_13 cc_14 cc_15 cc_16 cc_17 cc_18 cc_19
  have hsz := hb.size
  (try simp at hsz)
  replace cc := cellsAt_keep (cellsAt_set cc (by omega) _) hb
  replace oz := OutZ.below (OutZ.set oz (by omega) _) hb
  replace xq0 : w6.cell? ⟨w3.heap.size, 0, none⟩ = some (.int .i64 t.1) := cel_below hb (World.cell?_setCell_same _ _ _ xq0)
  replace xq1 : w6.cell? ⟨w3.heap.size, 1, none⟩ = some (.int .i64 0) := cel_below hb (keepA_ xq1 (by omega))
  replace xq2 : w6.cell? ⟨w3.heap.size, 2, none⟩ = some (.int .i64 (s.1 / 4)) := cel_below hb (keepA_ xq2 (by omega))
  replace xf : ∀ o, w6.frozen? ⟨w3.heap.size, o, none⟩ = false := fun o => fro_below hb (by first | omega | (simp; done) | (simp; omega)) ((World.frozen?_setCell _ _ _ _).trans (xf o))
  replace ccz : w.heap.size < w6.heap.size := by omega
  replace ozz : w.heap.size + 1 < w6.heap.size := by omega
  replace xz : w3.heap.size < w6.heap.size := by omega
  have h6 := runAt_keep (runAt_set h5 (by omega) _) hb
  replace G := gb_trans (gb_set G (Or.inr (by first | exact Nat.le_refl _ | (dsimp only; omega))) _) (gb_of_below (some g) hb)
  clear hb hsz
  replace hS0 := G.size
  have cc_4 := cc 4 _ rfl
  have cc_13 := cc 13 _ rfl
  have cc_14 := cc 14 _ rfl
  have cc_15 := cc 15 _ rfl
  have cc_16 := cc 16 _ rfl
  have cc_17 := cc 17 _ rfl
  have cc_18 := cc 18 _ rfl
  have cc_19 := cc 19 _ rfl
  go_wp2_with (first | ((with_reducible refine ld_layT cc ?a99 ?h99); (case a99 => exact ⟨_, rfl, rfl, rfl⟩)) | ((with_reducible refine ld_case cc rfl ?a100 ?h100); (case a100 => exact ⟨_, rfl, rfl, rfl⟩)))
  ((with_reducible refine (load_none _ g _ h6).mono ?_); rintro e w7 ⟨rfl, hb⟩)
  exact ⟨rfl, rfl, gb_trans G (gb_of_below (some g) hb)⟩

theorem res_fabort (w : World) (g : Nat) (L : Ly) (hok : L.ok) (me other : Int) (m : Ct) (s t k : Int × Bool) (l : List (Int × Bool)) (h0 : RunAt w g (s :: t :: k :: l)) (hi : I64 s.1) (hs : ¬s.1 % 4 = 0) (hc : chooseD L.c.m m ⟨t.1, k.1, s.1 / 4⟩ = 1) :
    Calls Try.prog 61 #[caseV L me other false m, .pointer (some ⟨g, 0, none⟩)] w fun e w' => e = .returned (OutD.v { val := 1 }) ∧ w.grownBy w' (some g) := by
  unfold caseV
  have HM : Hid (∀ w, Calls Try.prog 38 #[L.v, .int .i64 me] w fun e w' => e = .returned (.int .i64 (atStatus L me)) ∧ Below w.heap.size w w') := Lib.hid (fun w => status_any L me w hok)
  have HS : Hid (∀ w, Calls Try.prog 38 #[L.v, .int .i64 other] w fun e w' => e = .returned (.int .i64 (atStatus L other)) ∧ Below w.heap.size w w') := Lib.hid (fun w => status_any L other w hok)
  have HT : Hid (∀ w, Calls Try.prog 64 #[L.v, .int .i64 other] w fun e w' => e = .returned (.int .i64 (atStamp L other)) ∧ Below w.heap.size w w') := Lib.hid (fun w => stamp_any L other w hok)
  have HK : Hid (∀ w, Calls Try.prog 65 #[L.v, .int .i64 other] w fun e w' => e = .returned (.int .i64 (atKarma L other)) ∧ Below w.heap.size w w') := Lib.hid (fun w => karma_any L other w hok)
  unfold Ly.v at HM HS HT HK
  have hs0 : (s.1 % 4 == 0) = false := by simp [hs]
  have HC : Hid (∀ w, Calls Try.prog 30 #[.int .i64 L.c.m, m.v, Ct.v ⟨t.1, k.1, s.1 / 4⟩] w fun e w' => e = .returned (.int .i64 1) ∧ Below w.heap.size w w') := Lib.hid (fun w => by rw [← hc]; exact choose_any _ _ _ w)
  unfold Ct.v at HC
  have hg0 := runAt_lt h0
  have G : w.grownBy w (some g) := gb_refl _ _
  have hS0 : w.heap.size + 0 ≤ w.heap.size := Nat.le_refl _
  go_enter Try.func61, Try.ntmps61
  go_wp2_with fail
  obtain ⟨w1, hwr⟩ : ∃ W, W = ((w.alloc (.cells #[.int .i64 L.c.t, .int .i64 L.c.l, .int .i64 L.c.k, .int .i64 L.c.s, .int .i64 L.c.m, .int .i64 L.clock, .int .i64 L.stamps, .int .i64 L.log, .int .i64 L.fin, .int .i64 L.thread, .int .i64 L.lock, .int .i64 L.loc, .int .i64 L.size, .int .i64 me, .int .i64 other, .bool false, .int .i64 m.s, .int .i64 m.k, .int .i64 m.a, .func (.func 30) #[] #[]] 119)).alloc (.cells #[.int .i64 0, .int .i64 0, .int .i64 0, .int .i64 0, .bool false, .bool false, .int .i64 0] 35)) := ⟨_, rfl⟩
  rw [← hwr]
  have hb : Below w.heap.size w w1 := by rw [hwr]; exact (Below.alloc (Below.alloc (Below.refl _ _) (by first | exact Nat.le_refl _ | (simp; omega) | simp) _) (by first | exact Nat.le_refl _ | (simp; omega) | simp) _)
  have cc : CellsAt w1 (w.heap.size) [.int .i64 L.c.t, .int .i64 L.c.l, .int .i64 L.c.k, .int .i64 L.c.s, .int .i64 L.c.m, .int .i64 L.clock, .int .i64 L.stamps, .int .i64 L.log, .int .i64 L.fin, .int .i64 L.thread, .int .i64 L.lock, .int .i64 L.loc, .int .i64 L.size, .int .i64 me, .int .i64 other, .bool false, .int .i64 m.s, .int .i64 m.k, .int .i64 m.a, .func (.func 30) #[] #[]] := by rw [hwr]; exact (cellsAt_alloc (cellsAt_new' w _ _ (w.heap.size) (by simp)) _)
  have ccz : w.heap.size < w1.heap.size := World.block_lt_of_cell? _ _ (cc 0 _ rfl)
  have oz : OutZ w1 (w.heap.size + 1) := by rw [hwr]; exact (OutZ.new' (w.alloc (.cells #[.int .i64 L.c.t, .int .i64 L.c.l, .int .i64 L.c.k, .int .i64 L.c.s, .int .i64 L.c.m, .int .i64 L.clock, .int .i64 L.stamps, .int .i64 L.log, .int .i64 L.fin, .int .i64 L.thread, .int .i64 L.lock, .int .i64 L.loc, .int .i64 L.size, .int .i64 me, .int .i64 other, .bool false, .int .i64 m.s, .int .i64 m.k, .int .i64 m.a, .func (.func 30) #[] #[]] 119)) _ (w.heap.size + 1) (by simp))
  have ozz : w.heap.size + 1 < w1.heap.size := OutZ.lt oz
  have h1 := runAt_keep h0 hb
  replace G := gb_trans G (gb_of_below (some g) hb)
  clear hb hwr
  replace hS0 := G.size
  have cc_4 := cc 4 _ rfl
  have cc_13 := cc 13 _ rfl
  have cc_14 := cc 14 _ rfl
  have cc_15 := cc 15 _ rfl
  have cc_16 := cc 16 _ rfl
  have cc_17 := cc 17 _ rfl
  have cc_18 := cc 18 _ rfl
  have cc_19 := cc 19 _ rfl
  go_wp2_with (first | ((with_reducible refine ld_layT cc ?a101 ?h101); (case a101 => exact ⟨_, rfl, rfl, rfl⟩)) | ((with_reducible refine ld_case cc rfl ?a102 ?h102); (case a102 => exact ⟨_, rfl, rfl, rfl⟩)))
  ((with_reducible refine (HS.out _).mono ?_); rintro e w2 ⟨rfl, hb⟩)
  clear cc_4 cc_13 cc_14 cc_15 cc_16 cc_17 cc_18 cc_19
  have hsz := hb.size
  (try simp at hsz)
  replace cc := cellsAt_keep cc hb
  replace oz := OutZ.below oz hb
  replace ccz : w.heap.size < w2.heap.size := by omega
  replace ozz : w.heap.size + 1 < w2.heap.size := by omega
  have h2 := runAt_keep h1 hb
  replace G := gb_trans G (gb_of_below (some g) hb)
  clear hb hsz
  replace hS0 := G.size
  have cc_4 := cc 4 _ rfl
  have cc_13 := cc 13 _ rfl
  have cc_14 := cc 14 _ rfl
  have cc_15 := cc 15 _ rfl
  have cc_16 := cc 16 _ rfl
  have cc_17 := cc 17 _ rfl
  have cc_18 := cc 18 _ rfl
  have cc_19 := cc 19 _ rfl
  go_wp2_with (first | ((with_reducible refine ld_layT cc ?a103 ?h103); (case a103 => exact ⟨_, rfl, rfl, rfl⟩)) | ((with_reducible refine ld_case cc rfl ?a104 ?h104); (case a104 => exact ⟨_, rfl, rfl, rfl⟩)))
  ((with_reducible refine (load_some _ g _ _ _ h2).mono ?_); rintro e w3 ⟨rfl, h3, hb⟩)
  clear cc_4 cc_13 cc_14 cc_15 cc_16 cc_17 cc_18 cc_19
  have hsz := hb.size
  (try simp at hsz)
  replace cc := cellsAt_gb cc hb (by omega)
  replace oz := OutZ.gb oz hb (by omega)
  replace ccz : w.heap.size < w3.heap.size := by omega
  replace ozz : w.heap.size + 1 < w3.heap.size := by omega
  replace G := gb_trans G hb
  clear hb hsz
  replace hS0 := G.size
  have cc_4 := cc 4 _ rfl
  have cc_13 := cc 13 _ rfl
  have cc_14 := cc 14 _ rfl
  have cc_15 := cc 15 _ rfl
  have cc_16 := cc 16 _ rfl
  have cc_17 := cc 17 _ rfl
  have cc_18 := cc 18 _ rfl
  have cc_19 := cc 19 _ rfl
  go_wp2_with (first | ((with_reducible refine ld_layT cc ?a105 ?h105); (case a105 => exact ⟨_, rfl, rfl, rfl⟩)) | ((with_reducible refine ld_case cc rfl ?a106 ?h106); (case a106 => exact ⟨_, rfl, rfl, rfl⟩)))
  ((with_reducible refine (kind_any _ _).mono ?_); rintro e w' ⟨rfl, rfl⟩)
  go_wp2_with (first | ((with_reducible refine ld_layT cc ?a107 ?h107); (case a107 => exact ⟨_, rfl, rfl, rfl⟩)) | ((with_reducible refine ld_case cc rfl ?a108 ?h108); (case a108 => exact ⟨_, rfl, rfl, rfl⟩)))
  ((with_reducible refine (try_any _ hi _).mono ?_); rintro e w' ⟨rfl, rfl⟩)
  go_wp2_with (first | ((with_reducible refine ld_layT (cellsAt_alloc cc _) ?a109 ?h109); (case a109 => exact ⟨_, rfl, rfl, rfl⟩)) | ((with_reducible refine ld_layT cc ?a110 ?h110); (case a110 => exact ⟨_, rfl, rfl, rfl⟩)) | ((with_reducible refine ld_case (cellsAt_alloc cc _) rfl ?a111 ?h111); (case a111 => exact ⟨_, rfl, rfl, rfl⟩)) | ((with_reducible refine ld_case cc rfl ?a112 ?h112); (case a112 => exact ⟨_, rfl, rfl, rfl⟩)))
  ((with_reducible refine (HT.out _).mono ?_); rintro e w4 ⟨rfl, hb⟩)
  clear cc_4 cc_13 cc_14 cc_15 cc_16 cc_17 cc_18 cc_19
  have hsz := hb.size
  (try simp at hsz)
  have xcczn : w.heap.size ≠ w3.heap.size := by omega
  have xozzn : w.heap.size + 1 ≠ w3.heap.size := by omega
  have xgn : w3.heap.size ≠ g := by omega
  have xlo : w.heap.size ≤ w3.heap.size := by omega
  replace cc := cellsAt_keep (cellsAt_alloc cc _) hb
  replace oz := OutZ.below (OutZ.alloc oz _) hb
  have xq0 : w4.cell? ⟨w3.heap.size, 0, none⟩ = some (.int .i64 0) := cel_below hb (by rw [World.cell?_alloc_at _ _ _ _ (by simp)]; rfl)
  have xq1 : w4.cell? ⟨w3.heap.size, 1, none⟩ = some (.int .i64 0) := cel_below hb (by rw [World.cell?_alloc_at _ _ _ _ (by simp)]; rfl)
  have xq2 : w4.cell? ⟨w3.heap.size, 2, none⟩ = some (.int .i64 (s.1 / 4)) := cel_below hb (by rw [World.cell?_alloc_at _ _ _ _ (by simp)]; rfl)
  have xf : ∀ o, w4.frozen? ⟨w3.heap.size, o, none⟩ = false := fun o => fro_below hb (by first | omega | (simp; done) | (simp; omega)) (World.frozen?_alloc_at _ _ _ _ (by simp))
  replace ccz : w.heap.size < w4.heap.size := by omega
  replace ozz : w.heap.size + 1 < w4.heap.size := by omega
  have xz : w3.heap.size < w4.heap.size := World.block_lt_of_cell? _ _ xq0
  have h4 := runAt_keep (runAt_alloc h3 _) hb
  replace G := gb_trans (gb_alloc G _) (gb_of_below (some g) hb)
  clear hb hsz
  replace hS0 := G.size
  have cc_4 := cc 4 _ rfl
  have cc_13 := cc 13 _ rfl
  have cc_14 := cc 14 _ rfl
  have cc_15 := cc 15 _ rfl
  have cc_16 := cc 16 _ rfl
  have cc_17 := cc 17 _ rfl
  have cc_18 := cc 18 _ rfl
  have cc_19 := cc 19 _ rfl
  go_wp2_with (first | ((with_reducible refine ld_layT cc ?a113 ?h113); (case a113 => exact ⟨_, rfl, rfl, rfl⟩)) | ((with_reducible refine ld_case cc rfl ?a114 ?h114); (case a114 => exact ⟨_, rfl, rfl, rfl⟩)))
  ((with_reducible refine (load_some _ g _ _ _ h4).mono ?_); rintro e w5 ⟨rfl, h5, hb⟩)
  clear cc_4 cc_13 cc_14 cc_15 cc_16 cc_17 cc_18 cc_19
  have hsz := hb.size
  (try simp at hsz)
  replace cc := cellsAt_gb cc hb (by omega)
  replace oz := OutZ.gb oz hb (by omega)
  replace xq0 : w5.cell? ⟨w3.heap.size, 0, none⟩ = some (.int .i64 0) := gbc hb xq0 (by omega)
  replace xq1 : w5.cell? ⟨w3.heap.size, 1, none⟩ = some (.int .i64 0) := gbc hb xq1 (by omega)
  replace xq2 : w5.cell? ⟨w3.heap.size, 2, none⟩ = some (.int .i64 (s.1 / 4)) := gbc hb xq2 (by omega)
  replace xf : ∀ o, w5.frozen? ⟨w3.heap.size, o, none⟩ = false := fun o => gbf hb (by first | omega | (simp; done) | (simp; omega)) (by omega) (xf o)
  replace ccz : w.heap.size < w5.heap.size := by omega
  replace ozz : w.heap.size + 1 < w5.heap.size := by omega
  replace xz : w3.heap.size < w5.heap.size := by omega
  replace G := gb_trans G hb
  clear hb hsz
  replace hS0 := G.size
  have cc_4 := cc 4 _ rfl
  have cc_13 := cc 13 _ rfl
  have cc_14 := cc 14 _ rfl
  have cc_15 := cc 15 _ rfl
  have cc_16 := cc 16 _ rfl
  have cc_17 := cc 17 _ rfl
  have cc_18 := cc 18 _ rfl
  have cc_19 := cc 19 _ rfl
  go_wp2_with (first | ((with_reducible refine ld_layT (cellsAt_set cc (by omega) _) ?a115 ?h115); (case a115 => exact ⟨_, rfl, rfl, rfl⟩)) | ((with_reducible refine ld_layT cc ?a116 ?h116); (case a116 => exact ⟨_, rfl, rfl, rfl⟩)) | ((with_reducible refine ld_case (cellsAt_set cc (by omega) _) rfl ?a117 ?h117); (case a117 => exact ⟨_, rfl, rfl, rfl⟩)) | ((with_reducible refine ld_case cc rfl ?a118 ?h118); (case a118 => exact ⟨_, rfl, rfl, rfl⟩)))
  ((with_reducible refine (HK.out _).mono ?_); rintro e w6 ⟨rfl, hb⟩)
  clear cc_4 cc_13 cc_14 cc_15 cc_16 cc_17 cc_18 cc_19
  have hsz := hb.size
  (try simp at hsz)
  replace cc := cellsAt_keep (cellsAt_set cc (by omega) _) hb
  replace oz := OutZ.below (OutZ.set oz (by omega) _) hb
  replace xq0 : w6.cell? ⟨w3.heap.size, 0, none⟩ = some (.int .i64 t.1) := cel_below hb (World.cell?_setCell_same _ _ _ xq0)
  replace xq1 : w6.cell? ⟨w3.heap.size, 1, none⟩ = some (.int .i64 0) := cel_below hb (keepA_ xq1 (by omega))
  replace xq2 : w6.cell? ⟨w3.heap.size, 2, none⟩ = some (.int .i64 (s.1 / 4)) := cel_below hb (keepA_ xq2 (by omega))
  replace xf : ∀ o, w6.frozen? ⟨w3.heap.size, o, none⟩ = false := fun o => fro_below hb (by first | omega | (simp; done) | (simp; omega)) ((World.frozen?_setCell _ _ _ _).trans (xf o))
  replace ccz : w.heap.size < w6.heap.size := by omega
  replace ozz : w.heap.size + 1 < w6.heap.size := by omega
  replace xz : w3.heap.size < w6.heap.size := by omega
  have h6 := runAt_keep (runAt_set h5 (by omega) _) hb
  replace G := gb_trans (gb_set G (Or.inr (by first | exact Nat.le_refl _ | (dsimp only; omega))) _) (gb_of_below (some g) hb)
  clear hb hsz
  replace hS0 := G.size
  have cc_4 := cc 4 _ rfl
  have cc_13 := cc 13 _ rfl
  have cc_14 := cc 14 _ rfl
  have cc_15 := cc 15 _ rfl
  have cc_16 := cc 16 _ rfl
  have cc_17 := cc 17 _ rfl
  have cc_18 := cc 18 _ rfl
  have cc_19 := cc 19 _ rfl
  go_wp2_with (first | ((with_reducible refine ld_layT cc ?a119 ?h119); (case a119 => exact ⟨_, rfl, rfl, rfl⟩)) | ((with_reducible refine ld_case cc rfl ?a120 ?h120); (case a120 => exact ⟨_, rfl, rfl, rfl⟩)))
  ((with_reducible refine (load_some _ g _ _ _ h6).mono ?_); rintro e w7 ⟨rfl, h7, hb⟩)
  clear cc_4 cc_13 cc_14 cc_15 cc_16 cc_17 cc_18 cc_19
  have hsz := hb.size
  (try simp at hsz)
  replace cc := cellsAt_gb cc hb (by omega)
  replace oz := OutZ.gb oz hb (by omega)
  replace xq0 : w7.cell? ⟨w3.heap.size, 0, none⟩ = some (.int .i64 t.1) := gbc hb xq0 (by omega)
  replace xq1 : w7.cell? ⟨w3.heap.size, 1, none⟩ = some (.int .i64 0) := gbc hb xq1 (by omega)
  replace xq2 : w7.cell? ⟨w3.heap.size, 2, none⟩ = some (.int .i64 (s.1 / 4)) := gbc hb xq2 (by omega)
  replace xf : ∀ o, w7.frozen? ⟨w3.heap.size, o, none⟩ = false := fun o => gbf hb (by first | omega | (simp; done) | (simp; omega)) (by omega) (xf o)
  replace ccz : w.heap.size < w7.heap.size := by omega
  replace ozz : w.heap.size + 1 < w7.heap.size := by omega
  replace xz : w3.heap.size < w7.heap.size := by omega
  replace G := gb_trans G hb
  clear hb hsz
  replace hS0 := G.size
  have cc_4 := cc 4 _ rfl
  have cc_13 := cc 13 _ rfl
  have cc_14 := cc 14 _ rfl
  have cc_15 := cc 15 _ rfl
  have cc_16 := cc 16 _ rfl
  have cc_17 := cc 17 _ rfl
  have cc_18 := cc 18 _ rfl
  have cc_19 := cc 19 _ rfl
  go_wp2_with (first | ((with_reducible refine ld_layT (cellsAt_set cc (by omega) _) ?a121 ?h121); (case a121 => exact ⟨_, rfl, rfl, rfl⟩)) | ((with_reducible refine ld_layT cc ?a122 ?h122); (case a122 => exact ⟨_, rfl, rfl, rfl⟩)) | ((with_reducible refine ld_case (cellsAt_set cc (by omega) _) rfl ?a123 ?h123); (case a123 => exact ⟨_, rfl, rfl, rfl⟩)) | ((with_reducible refine ld_case cc rfl ?a124 ?h124); (case a124 => exact ⟨_, rfl, rfl, rfl⟩)))
  ((with_reducible refine (HC.out _).mono ?_); rintro e w8 ⟨rfl, hb⟩)
  clear cc_4 cc_13 cc_14 cc_15 cc_16 cc_17 cc_18 cc_19
  have hsz := hb.size
  (try simp at hsz)
  replace cc := cellsAt_keep (cellsAt_set cc (by omega) _) hb
  replace oz := OutZ.below (OutZ.set oz (by omega) _) hb
  replace xq0 : w8.cell? ⟨w3.heap.size, 0, none⟩ = some (.int .i64 t.1) := cel_below hb (keepA_ xq0 (by omega))
  replace xq1 : w8.cell? ⟨w3.heap.size, 1, none⟩ = some (.int .i64 k.1) := cel_below hb (World.cell?_setCell_same _ _ _ xq1)
  replace xq2 : w8.cell? ⟨w3.heap.size, 2, none⟩ = some (.int .i64 (s.1 / 4)) := cel_below hb (keepA_ xq2 (by omega))
  replace xf : ∀ o, w8.frozen? ⟨w3.heap.size, o, none⟩ = false := fun o => fro_below hb (by first | omega | (simp; done) | (simp; omega)) ((World.frozen?_setCell _ _ _ _).trans (xf o))
  replace ccz : w.heap.size < w8.heap.size := by omega
  replace ozz : w.heap.size + 1 < w8.heap.size := by omega
  replace xz : w3.heap.size < w8.heap.size := by omega
  have h8 := runAt_keep (runAt_set h7 (by omega) _) hb
  replace G := gb_trans (gb_set G (Or.inr (by first | exact Nat.le_refl _ | (dsimp only; omega))) _) (gb_of_below (some g) hb)
  clear hb hsz
  replace hS0 := G.size
  have cc_4 := cc 4 _ rfl
  have cc_13 := cc 13 _ rfl
  have cc_14 := cc 14 _ rfl
  have cc_15 := cc 15 _ rfl
  have cc_16 := cc 16 _ rfl
  have cc_17 := cc 17 _ rfl
  have cc_18 := cc 18 _ rfl
  have cc_19 := cc 19 _ rfl
  have oq0 := oz.c0
  have oq1 := oz.c1
  have oq2 := oz.c2
  have oq3 := oz.c3
  have oq4 := oz.c4
  have oq5 := oz.c5
  have oq6 := oz.c6
  have of := oz.fr
  go_wp2_with (first | ((with_reducible refine ld_layT cc ?a125 ?h125); (case a125 => exact ⟨_, rfl, rfl, rfl⟩)) | ((with_reducible refine ld_case cc rfl ?a126 ?h126); (case a126 => exact ⟨_, rfl, rfl, rfl⟩)))
  obtain ⟨W, hW, k0, k1, k2, k3, k4, k5, k6⟩ := outs_at oz (.int .i64 (1)) (.int .i64 (0)) (.int .i64 (0)) (.int .i64 (0)) (.bool false) (.bool false) (.int .i64 (0))
  rw [← hW]
  simp [bodyPost, results, Try.results61, go_sem, k0, k1, k2, k3, k4, k5, k6, OutD.v]
  rw [hW]
  exact gb_outs G (by first | exact Nat.le_refl _ | omega) _ _ _ _ _ _ _

theorem res_fret (w : World) (g : Nat) (L : Ly) (hok : L.ok) (me other : Int) (m : Ct) (s t k : Int × Bool) (l : List (Int × Bool)) (o : OutD) (h0 : RunAt w g (s :: t :: k :: l)) (hi : I64 s.1) (hs : ¬s.1 % 4 = 0) (hc : chooseD L.c.m m ⟨t.1, k.1, s.1 / 4⟩ = 2) (hd : (doomT L other s.1).run l = .inr o) :
    Calls Try.prog 61 #[caseV L me other false m, .pointer (some ⟨g, 0, none⟩)] w fun e w' => e = .returned (OutD.v o) ∧ w.grownBy w' (some g) := by
  unfold caseV
  have HM : Hid (∀ w, Calls Try.prog 38 #[L.v, .int .i64 me] w fun e w' => e = .returned (.int .i64 (atStatus L me)) ∧ Below w.heap.size w w') := Lib.hid (fun w => status_any L me w hok)
  have HS : Hid (∀ w, Calls Try.prog 38 #[L.v, .int .i64 other] w fun e w' => e = .returned (.int .i64 (atStatus L other)) ∧ Below w.heap.size w w') := Lib.hid (fun w => status_any L other w hok)
  have HT : Hid (∀ w, Calls Try.prog 64 #[L.v, .int .i64 other] w fun e w' => e = .returned (.int .i64 (atStamp L other)) ∧ Below w.heap.size w w') := Lib.hid (fun w => stamp_any L other w hok)
  have HK : Hid (∀ w, Calls Try.prog 65 #[L.v, .int .i64 other] w fun e w' => e = .returned (.int .i64 (atKarma L other)) ∧ Below w.heap.size w w') := Lib.hid (fun w => karma_any L other w hok)
  unfold Ly.v at HM HS HT HK
  have hs0 : (s.1 % 4 == 0) = false := by simp [hs]
  have HC : Hid (∀ w, Calls Try.prog 30 #[.int .i64 L.c.m, m.v, Ct.v ⟨t.1, k.1, s.1 / 4⟩] w fun e w' => e = .returned (.int .i64 2) ∧ Below w.heap.size w w') := Lib.hid (fun w => by rw [← hc]; exact choose_any _ _ _ w)
  unfold Ct.v at HC
  have HD : Hid (∀ w, RunAt w g l → Calls Try.prog 91 #[caseV L me other false m, .pointer (some ⟨g, 0, none⟩), .int .i64 s.1] w fun e w' => e = .returned o.v ∧ w.grownBy w' (some g)) := Lib.hid (fun w h => by have := doom_any w g L hok me other false m s.1 hi l h; rw [hd] at this; exact this)
  unfold caseV at HD
  unfold OutD.v at HD
  have hg0 := runAt_lt h0
  have G : w.grownBy w (some g) := gb_refl _ _
  have hS0 : w.heap.size + 0 ≤ w.heap.size := Nat.le_refl _
  go_enter Try.func61, Try.ntmps61
  go_wp2_with fail
  obtain ⟨w1, hwr⟩ : ∃ W, W = ((w.alloc (.cells #[.int .i64 L.c.t, .int .i64 L.c.l, .int .i64 L.c.k, .int .i64 L.c.s, .int .i64 L.c.m, .int .i64 L.clock, .int .i64 L.stamps, .int .i64 L.log, .int .i64 L.fin, .int .i64 L.thread, .int .i64 L.lock, .int .i64 L.loc, .int .i64 L.size, .int .i64 me, .int .i64 other, .bool false, .int .i64 m.s, .int .i64 m.k, .int .i64 m.a, .func (.func 30) #[] #[]] 119)).alloc (.cells #[.int .i64 0, .int .i64 0, .int .i64 0, .int .i64 0, .bool false, .bool false, .int .i64 0] 35)) := ⟨_, rfl⟩
  rw [← hwr]
  have hb : Below w.heap.size w w1 := by rw [hwr]; exact (Below.alloc (Below.alloc (Below.refl _ _) (by first | exact Nat.le_refl _ | (simp; omega) | simp) _) (by first | exact Nat.le_refl _ | (simp; omega) | simp) _)
  have cc : CellsAt w1 (w.heap.size) [.int .i64 L.c.t, .int .i64 L.c.l, .int .i64 L.c.k, .int .i64 L.c.s, .int .i64 L.c.m, .int .i64 L.clock, .int .i64 L.stamps, .int .i64 L.log, .int .i64 L.fin, .int .i64 L.thread, .int .i64 L.lock, .int .i64 L.loc, .int .i64 L.size, .int .i64 me, .int .i64 other, .bool false, .int .i64 m.s, .int .i64 m.k, .int .i64 m.a, .func (.func 30) #[] #[]] := by rw [hwr]; exact (cellsAt_alloc (cellsAt_new' w _ _ (w.heap.size) (by simp)) _)
  have ccz : w.heap.size < w1.heap.size := World.block_lt_of_cell? _ _ (cc 0 _ rfl)
  have oz : OutZ w1 (w.heap.size + 1) := by rw [hwr]; exact (OutZ.new' (w.alloc (.cells #[.int .i64 L.c.t, .int .i64 L.c.l, .int .i64 L.c.k, .int .i64 L.c.s, .int .i64 L.c.m, .int .i64 L.clock, .int .i64 L.stamps, .int .i64 L.log, .int .i64 L.fin, .int .i64 L.thread, .int .i64 L.lock, .int .i64 L.loc, .int .i64 L.size, .int .i64 me, .int .i64 other, .bool false, .int .i64 m.s, .int .i64 m.k, .int .i64 m.a, .func (.func 30) #[] #[]] 119)) _ (w.heap.size + 1) (by simp))
  have ozz : w.heap.size + 1 < w1.heap.size := OutZ.lt oz
  have h1 := runAt_keep h0 hb
  replace G := gb_trans G (gb_of_below (some g) hb)
  clear hb hwr
  replace hS0 := G.size
  have cc_4 := cc 4 _ rfl
  have cc_13 := cc 13 _ rfl
  have cc_14 := cc 14 _ rfl
  have cc_15 := cc 15 _ rfl
  have cc_16 := cc 16 _ rfl
  have cc_17 := cc 17 _ rfl
  have cc_18 := cc 18 _ rfl
  have cc_19 := cc 19 _ rfl
  go_wp2_with (first | ((with_reducible refine ld_layT cc ?a127 ?h127); (case a127 => exact ⟨_, rfl, rfl, rfl⟩)) | ((with_reducible refine ld_case cc rfl ?a128 ?h128); (case a128 => exact ⟨_, rfl, rfl, rfl⟩)))
  ((with_reducible refine (HS.out _).mono ?_); rintro e w2 ⟨rfl, hb⟩)
  clear cc_4 cc_13 cc_14 cc_15 cc_16 cc_17 cc_18 cc_19
  have hsz := hb.size
  (try simp at hsz)
  replace cc := cellsAt_keep cc hb
  replace oz := OutZ.below oz hb
  replace ccz : w.heap.size < w2.heap.size := by omega
  replace ozz : w.heap.size + 1 < w2.heap.size := by omega
  have h2 := runAt_keep h1 hb
  replace G := gb_trans G (gb_of_below (some g) hb)
  clear hb hsz
  replace hS0 := G.size
  have cc_4 := cc 4 _ rfl
  have cc_13 := cc 13 _ rfl
  have cc_14 := cc 14 _ rfl
  have cc_15 := cc 15 _ rfl
  have cc_16 := cc 16 _ rfl
  have cc_17 := cc 17 _ rfl
  have cc_18 := cc 18 _ rfl
  have cc_19 := cc 19 _ rfl
  go_wp2_with (first | ((with_reducible refine ld_layT cc ?a129 ?h129); (case a129 => exact ⟨_, rfl, rfl, rfl⟩)) | ((with_reducible refine ld_case cc rfl ?a130 ?h130); (case a130 => exact ⟨_, rfl, rfl, rfl⟩)))
  ((with_reducible refine (load_some _ g _ _ _ h2).mono ?_); rintro e w3 ⟨rfl, h3, hb⟩)
  clear cc_4 cc_13 cc_14 cc_15 cc_16 cc_17 cc_18 cc_19
  have hsz := hb.size
  (try simp at hsz)
  replace cc := cellsAt_gb cc hb (by omega)
  replace oz := OutZ.gb oz hb (by omega)
  replace ccz : w.heap.size < w3.heap.size := by omega
  replace ozz : w.heap.size + 1 < w3.heap.size := by omega
  replace G := gb_trans G hb
  clear hb hsz
  replace hS0 := G.size
  have cc_4 := cc 4 _ rfl
  have cc_13 := cc 13 _ rfl
  have cc_14 := cc 14 _ rfl
  have cc_15 := cc 15 _ rfl
  have cc_16 := cc 16 _ rfl
  have cc_17 := cc 17 _ rfl
  have cc_18 := cc 18 _ rfl
  have cc_19 := cc 19 _ rfl
  go_wp2_with (first | ((with_reducible refine ld_layT cc ?a131 ?h131); (case a131 => exact ⟨_, rfl, rfl, rfl⟩)) | ((with_reducible refine ld_case cc rfl ?a132 ?h132); (case a132 => exact ⟨_, rfl, rfl, rfl⟩)))
  ((with_reducible refine (kind_any _ _).mono ?_); rintro e w' ⟨rfl, rfl⟩)
  go_wp2_with (first | ((with_reducible refine ld_layT cc ?a133 ?h133); (case a133 => exact ⟨_, rfl, rfl, rfl⟩)) | ((with_reducible refine ld_case cc rfl ?a134 ?h134); (case a134 => exact ⟨_, rfl, rfl, rfl⟩)))
  ((with_reducible refine (try_any _ hi _).mono ?_); rintro e w' ⟨rfl, rfl⟩)
  go_wp2_with (first | ((with_reducible refine ld_layT (cellsAt_alloc cc _) ?a135 ?h135); (case a135 => exact ⟨_, rfl, rfl, rfl⟩)) | ((with_reducible refine ld_layT cc ?a136 ?h136); (case a136 => exact ⟨_, rfl, rfl, rfl⟩)) | ((with_reducible refine ld_case (cellsAt_alloc cc _) rfl ?a137 ?h137); (case a137 => exact ⟨_, rfl, rfl, rfl⟩)) | ((with_reducible refine ld_case cc rfl ?a138 ?h138); (case a138 => exact ⟨_, rfl, rfl, rfl⟩)))
  ((with_reducible refine (HT.out _).mono ?_); rintro e w4 ⟨rfl, hb⟩)
  clear cc_4 cc_13 cc_14 cc_15 cc_16 cc_17 cc_18 cc_19
  have hsz := hb.size
  (try simp at hsz)
  have xcczn : w.heap.size ≠ w3.heap.size := by omega
  have xozzn : w.heap.size + 1 ≠ w3.heap.size := by omega
  have xgn : w3.heap.size ≠ g := by omega
  have xlo : w.heap.size ≤ w3.heap.size := by omega
  replace cc := cellsAt_keep (cellsAt_alloc cc _) hb
  replace oz := OutZ.below (OutZ.alloc oz _) hb
  have xq0 : w4.cell? ⟨w3.heap.size, 0, none⟩ = some (.int .i64 0) := cel_below hb (by rw [World.cell?_alloc_at _ _ _ _ (by simp)]; rfl)
  have xq1 : w4.cell? ⟨w3.heap.size, 1, none⟩ = some (.int .i64 0) := cel_below hb (by rw [World.cell?_alloc_at _ _ _ _ (by simp)]; rfl)
  have xq2 : w4.cell? ⟨w3.heap.size, 2, none⟩ = some (.int .i64 (s.1 / 4)) := cel_below hb (by rw [World.cell?_alloc_at _ _ _ _ (by simp)]; rfl)
  have xf : ∀ o, w4.frozen? ⟨w3.heap.size, o, none⟩ = false := fun o => fro_below hb (by first | omega | (simp; done) | (simp; omega)) (World.frozen?_alloc_at _ _ _ _ (by simp))
  replace ccz : w.heap.size < w4.heap.size := by omega
  replace ozz : w.heap.size + 1 < w4.heap.size := by omega
  have xz : w3.heap.size < w4.heap.size := World.block_lt_of_cell? _ _ xq0
  have h4 := runAt_keep (runAt_alloc h3 _) hb
  replace G := gb_trans (gb_alloc G _) (gb_of_below (some g) hb)
  clear hb hsz
  replace hS0 := G.size
  have cc_4 := cc 4 _ rfl
  have cc_13 := cc 13 _ rfl
  have cc_14 := cc 14 _ rfl
  have cc_15 := cc 15 _ rfl
  have cc_16 := cc 16 _ rfl
  have cc_17 := cc 17 _ rfl
  have cc_18 := cc 18 _ rfl
  have cc_19 := cc 19 _ rfl
  go_wp2_with (first | ((with_reducible refine ld_layT cc ?a139 ?h139); (case a139 => exact ⟨_, rfl, rfl, rfl⟩)) | ((with_reducible refine ld_case cc rfl ?a140 ?h140); (case a140 => exact ⟨_, rfl, rfl, rfl⟩)))
  ((with_reducible refine (load_some _ g _ _ _ h4).mono ?_); rintro e w5 ⟨rfl, h5, hb⟩)
  clear cc_4 cc_13 cc_14 cc_15 cc_16 cc_17 cc_18 cc_19
  have hsz := hb.size
  (try simp at hsz)
  replace cc := cellsAt_gb cc hb (by omega)
  replace oz := OutZ.gb oz hb (by omega)
  replace xq0 : w5.cell? ⟨w3.heap.size, 0, none⟩ = some (.int .i64 0) := gbc hb xq0 (by omega)
  replace xq1 : w5.cell? ⟨w3.heap.size, 1, none⟩ = some (.int .i64 0) := gbc hb xq1 (by omega)
  replace xq2 : w5.cell? ⟨w3.heap.size, 2, none⟩ = some (.int .i64 (s.1 / 4)) := gbc hb xq2 (by omega)
  replace xf : ∀ o, w5.frozen? ⟨w3.heap.size, o, none⟩ = false := fun o => gbf hb (by first | omega | (simp; done) | (simp; omega)) (by omega) (xf o)
  replace ccz : w.heap.size < w5.heap.size := by omega
  replace ozz : w.heap.size + 1 < w5.heap.size := by omega
  replace xz : w3.heap.size < w5.heap.size := by omega
  replace G := gb_trans G hb
  clear hb hsz
  replace hS0 := G.size
  have cc_4 := cc 4 _ rfl
  have cc_13 := cc 13 _ rfl
  have cc_14 := cc 14 _ rfl
  have cc_15 := cc 15 _ rfl
  have cc_16 := cc 16 _ rfl
  have cc_17 := cc 17 _ rfl
  have cc_18 := cc 18 _ rfl
  have cc_19 := cc 19 _ rfl
  go_wp2_with (first | ((with_reducible refine ld_layT (cellsAt_set cc (by omega) _) ?a141 ?h141); (case a141 => exact ⟨_, rfl, rfl, rfl⟩)) | ((with_reducible refine ld_layT cc ?a142 ?h142); (case a142 => exact ⟨_, rfl, rfl, rfl⟩)) | ((with_reducible refine ld_case (cellsAt_set cc (by omega) _) rfl ?a143 ?h143); (case a143 => exact ⟨_, rfl, rfl, rfl⟩)) | ((with_reducible refine ld_case cc rfl ?a144 ?h144); (case a144 => exact ⟨_, rfl, rfl, rfl⟩)))
  ((with_reducible refine (HK.out _).mono ?_); rintro e w6 ⟨rfl, hb⟩)
  clear cc_4 cc_13 cc_14 cc_15 cc_16 cc_17 cc_18 cc_19
  have hsz := hb.size
  (try simp at hsz)
  replace cc := cellsAt_keep (cellsAt_set cc (by omega) _) hb
  replace oz := OutZ.below (OutZ.set oz (by omega) _) hb
  replace xq0 : w6.cell? ⟨w3.heap.size, 0, none⟩ = some (.int .i64 t.1) := cel_below hb (World.cell?_setCell_same _ _ _ xq0)
  replace xq1 : w6.cell? ⟨w3.heap.size, 1, none⟩ = some (.int .i64 0) := cel_below hb (keepA_ xq1 (by omega))
  replace xq2 : w6.cell? ⟨w3.heap.size, 2, none⟩ = some (.int .i64 (s.1 / 4)) := cel_below hb (keepA_ xq2 (by omega))
  replace xf : ∀ o, w6.frozen? ⟨w3.heap.size, o, none⟩ = false := fun o => fro_below hb (by first | omega | (simp; done) | (simp; omega)) ((World.frozen?_setCell _ _ _ _).trans (xf o))
  replace ccz : w.heap.size < w6.heap.size := by omega
  replace ozz : w.heap.size + 1 < w6.heap.size := by omega
  replace xz : w3.heap.size < w6.heap.size := by omega
  have h6 := runAt_keep (runAt_set h5 (by omega) _) hb
  replace G := gb_trans (gb_set G (Or.inr (by first | exact Nat.le_refl _ | (dsimp only; omega))) _) (gb_of_below (some g) hb)
  clear hb hsz
  replace hS0 := G.size
  have cc_4 := cc 4 _ rfl
  have cc_13 := cc 13 _ rfl
  have cc_14 := cc 14 _ rfl
  have cc_15 := cc 15 _ rfl
  have cc_16 := cc 16 _ rfl
  have cc_17 := cc 17 _ rfl
  have cc_18 := cc 18 _ rfl
  have cc_19 := cc 19 _ rfl
  go_wp2_with (first | ((with_reducible refine ld_layT cc ?a145 ?h145); (case a145 => exact ⟨_, rfl, rfl, rfl⟩)) | ((with_reducible refine ld_case cc rfl ?a146 ?h146); (case a146 => exact ⟨_, rfl, rfl, rfl⟩)))
  ((with_reducible refine (load_some _ g _ _ _ h6).mono ?_); rintro e w7 ⟨rfl, h7, hb⟩)
  clear cc_4 cc_13 cc_14 cc_15 cc_16 cc_17 cc_18 cc_19
  have hsz := hb.size
  (try simp at hsz)
  replace cc := cellsAt_gb cc hb (by omega)
  replace oz := OutZ.gb oz hb (by omega)
  replace xq0 : w7.cell? ⟨w3.heap.size, 0, none⟩ = some (.int .i64 t.1) := gbc hb xq0 (by omega)
  replace xq1 : w7.cell? ⟨w3.heap.size, 1, none⟩ = some (.int .i64 0) := gbc hb xq1 (by omega)
  replace xq2 : w7.cell? ⟨w3.heap.size, 2, none⟩ = some (.int .i64 (s.1 / 4)) := gbc hb xq2 (by omega)
  replace xf : ∀ o, w7.frozen? ⟨w3.heap.size, o, none⟩ = false := fun o => gbf hb (by first | omega | (simp; done) | (simp; omega)) (by omega) (xf o)
  replace ccz : w.heap.size < w7.heap.size := by omega
  replace ozz : w.heap.size + 1 < w7.heap.size := by omega
  replace xz : w3.heap.size < w7.heap.size := by omega
  replace G := gb_trans G hb
  clear hb hsz
  replace hS0 := G.size
  have cc_4 := cc 4 _ rfl
  have cc_13 := cc 13 _ rfl
  have cc_14 := cc 14 _ rfl
  have cc_15 := cc 15 _ rfl
  have cc_16 := cc 16 _ rfl
  have cc_17 := cc 17 _ rfl
  have cc_18 := cc 18 _ rfl
  have cc_19 := cc 19 _ rfl
  go_wp2_with (first | ((with_reducible refine ld_layT (cellsAt_set cc (by omega) _) ?a147 ?h147); (case a147 => exact ⟨_, rfl, rfl, rfl⟩)) | ((with_reducible refine ld_layT cc ?a148 ?h148); (case a148 => exact ⟨_, rfl, rfl, rfl⟩)) | ((with_reducible refine ld_case (cellsAt_set cc (by omega) _) rfl ?a149 ?h149); (case a149 => exact ⟨_, rfl, rfl, rfl⟩)) | ((with_reducible refine ld_case cc rfl ?a150 ?h150); (case a150 => exact ⟨_, rfl, rfl, rfl⟩)))
  ((with_reducible refine (HC.out _).mono ?_); rintro e w8 ⟨rfl, hb⟩)
  clear cc_4 cc_13 cc_14 cc_15 cc_16 cc_17 cc_18 cc_19
  have hsz := hb.size
  (try simp at hsz)
  replace cc := cellsAt_keep (cellsAt_set cc (by omega) _) hb
  replace oz := OutZ.below (OutZ.set oz (by omega) _) hb
  replace xq0 : w8.cell? ⟨w3.heap.size, 0, none⟩ = some (.int .i64 t.1) := cel_below hb (keepA_ xq0 (by omega))
  replace xq1 : w8.cell? ⟨w3.heap.size, 1, none⟩ = some (.int .i64 k.1) := cel_below hb (World.cell?_setCell_same _ _ _ xq1)
  replace xq2 : w8.cell? ⟨w3.heap.size, 2, none⟩ = some (.int .i64 (s.1 / 4)) := cel_below hb (keepA_ xq2 (by omega))
  replace xf : ∀ o, w8.frozen? ⟨w3.heap.size, o, none⟩ = false := fun o => fro_below hb (by first | omega | (simp; done) | (simp; omega)) ((World.frozen?_setCell _ _ _ _).trans (xf o))
  replace ccz : w.heap.size < w8.heap.size := by omega
  replace ozz : w.heap.size + 1 < w8.heap.size := by omega
  replace xz : w3.heap.size < w8.heap.size := by omega
  have h8 := runAt_keep (runAt_set h7 (by omega) _) hb
  replace G := gb_trans (gb_set G (Or.inr (by first | exact Nat.le_refl _ | (dsimp only; omega))) _) (gb_of_below (some g) hb)
  clear hb hsz
  replace hS0 := G.size
  have cc_4 := cc 4 _ rfl
  have cc_13 := cc 13 _ rfl
  have cc_14 := cc 14 _ rfl
  have cc_15 := cc 15 _ rfl
  have cc_16 := cc 16 _ rfl
  have cc_17 := cc 17 _ rfl
  have cc_18 := cc 18 _ rfl
  have cc_19 := cc 19 _ rfl
  go_wp2_with (first | ((with_reducible refine ld_layT cc ?a151 ?h151); (case a151 => exact ⟨_, rfl, rfl, rfl⟩)) | ((with_reducible refine ld_case cc rfl ?a152 ?h152); (case a152 => exact ⟨_, rfl, rfl, rfl⟩)))
  ((with_reducible refine (HD.out _ h8).mono ?_); rintro e w9 ⟨rfl, hb⟩)
  clear cc_4 cc_13 cc_14 cc_15 cc_16 cc_17 cc_18 cc_19
  have hsz := hb.size
  (try simp at hsz)
  replace cc := cellsAt_gb cc hb (by omega)
  replace oz := OutZ.gb oz hb (by omega)
  replace xq0 : w9.cell? ⟨w3.heap.size, 0, none⟩ = some (.int .i64 t.1) := gbc hb xq0 (by omega)
  replace xq1 : w9.cell? ⟨w3.heap.size, 1, none⟩ = some (.int .i64 k.1) := gbc hb xq1 (by omega)
  replace xq2 : w9.cell? ⟨w3.heap.size, 2, none⟩ = some (.int .i64 (s.1 / 4)) := gbc hb xq2 (by omega)
  replace xf : ∀ o, w9.frozen? ⟨w3.heap.size, o, none⟩ = false := fun o => gbf hb (by first | omega | (simp; done) | (simp; omega)) (by omega) (xf o)
  replace ccz : w.heap.size < w9.heap.size := by omega
  replace ozz : w.heap.size + 1 < w9.heap.size := by omega
  replace xz : w3.heap.size < w9.heap.size := by omega
  replace G := gb_trans G hb
  clear hb hsz
  replace hS0 := G.size
  have cc_4 := cc 4 _ rfl
  have cc_13 := cc 13 _ rfl
  have cc_14 := cc 14 _ rfl
  have cc_15 := cc 15 _ rfl
  have cc_16 := cc 16 _ rfl
  have cc_17 := cc 17 _ rfl
  have cc_18 := cc 18 _ rfl
  have cc_19 := cc 19 _ rfl
  have oq0 := oz.c0
  have oq1 := oz.c1
  have oq2 := oz.c2
  have oq3 := oz.c3
  have oq4 := oz.c4
  have oq5 := oz.c5
  have oq6 := oz.c6
  have of := oz.fr
  go_wp2_with (first | ((with_reducible refine ld_layT cc ?a153 ?h153); (case a153 => exact ⟨_, rfl, rfl, rfl⟩)) | ((with_reducible refine ld_case cc rfl ?a154 ?h154); (case a154 => exact ⟨_, rfl, rfl, rfl⟩)))
  obtain ⟨W, hW, k0, k1, k2, k3, k4, k5, k6⟩ := outs_at oz (.int .i64 o.val) (.int .i64 o.ver) (.int .i64 o.rv) (.int .i64 o.st) (.bool o.ok) (.bool o.lost) (.int .i64 o.err)
  rw [← hW]
  simp [bodyPost, results, Try.results61, go_sem, k0, k1, k2, k3, k4, k5, k6, OutD.v]
  rw [hW]
  exact gb_outs G (by first | exact Nat.le_refl _ | omega) _ _ _ _ _ _ _

theorem res_fpend (w : World) (g : Nat) (L : Ly) (hok : L.ok) (me other : Int) (m : Ct) (s t k : Int × Bool) (l : List (Int × Bool)) (a : Ask) (h0 : RunAt w g (s :: t :: k :: l)) (hi : I64 s.1) (hs : ¬s.1 % 4 = 0) (hc : chooseD L.c.m m ⟨t.1, k.1, s.1 / 4⟩ = 2) (hd : (doomT L other s.1).run l = .inl a) :
    Calls Try.prog 61 #[caseV L me other false m, .pointer (some ⟨g, 0, none⟩)] w fun e w' => e = .panicked [{ v := .iface 124 a.v, recovered := false }] ∧ w.grownBy w' (some g) := by
  unfold caseV
  have HM : Hid (∀ w, Calls Try.prog 38 #[L.v, .int .i64 me] w fun e w' => e = .returned (.int .i64 (atStatus L me)) ∧ Below w.heap.size w w') := Lib.hid (fun w => status_any L me w hok)
  have HS : Hid (∀ w, Calls Try.prog 38 #[L.v, .int .i64 other] w fun e w' => e = .returned (.int .i64 (atStatus L other)) ∧ Below w.heap.size w w') := Lib.hid (fun w => status_any L other w hok)
  have HT : Hid (∀ w, Calls Try.prog 64 #[L.v, .int .i64 other] w fun e w' => e = .returned (.int .i64 (atStamp L other)) ∧ Below w.heap.size w w') := Lib.hid (fun w => stamp_any L other w hok)
  have HK : Hid (∀ w, Calls Try.prog 65 #[L.v, .int .i64 other] w fun e w' => e = .returned (.int .i64 (atKarma L other)) ∧ Below w.heap.size w w') := Lib.hid (fun w => karma_any L other w hok)
  unfold Ly.v at HM HS HT HK
  have hs0 : (s.1 % 4 == 0) = false := by simp [hs]
  have HC : Hid (∀ w, Calls Try.prog 30 #[.int .i64 L.c.m, m.v, Ct.v ⟨t.1, k.1, s.1 / 4⟩] w fun e w' => e = .returned (.int .i64 2) ∧ Below w.heap.size w w') := Lib.hid (fun w => by rw [← hc]; exact choose_any _ _ _ w)
  unfold Ct.v at HC
  have HD : Hid (∀ w, RunAt w g l → Calls Try.prog 91 #[caseV L me other false m, .pointer (some ⟨g, 0, none⟩), .int .i64 s.1] w fun e w' => e = .panicked [{ v := .iface 124 a.v, recovered := false }] ∧ w.grownBy w' (some g)) := Lib.hid (fun w h => by have := doom_any w g L hok me other false m s.1 hi l h; rw [hd] at this; exact this)
  unfold caseV at HD
  have hg0 := runAt_lt h0
  have G : w.grownBy w (some g) := gb_refl _ _
  have hS0 : w.heap.size + 0 ≤ w.heap.size := Nat.le_refl _
  go_enter Try.func61, Try.ntmps61
  go_wp2_with fail
  obtain ⟨w1, hwr⟩ : ∃ W, W = ((w.alloc (.cells #[.int .i64 L.c.t, .int .i64 L.c.l, .int .i64 L.c.k, .int .i64 L.c.s, .int .i64 L.c.m, .int .i64 L.clock, .int .i64 L.stamps, .int .i64 L.log, .int .i64 L.fin, .int .i64 L.thread, .int .i64 L.lock, .int .i64 L.loc, .int .i64 L.size, .int .i64 me, .int .i64 other, .bool false, .int .i64 m.s, .int .i64 m.k, .int .i64 m.a, .func (.func 30) #[] #[]] 119)).alloc (.cells #[.int .i64 0, .int .i64 0, .int .i64 0, .int .i64 0, .bool false, .bool false, .int .i64 0] 35)) := ⟨_, rfl⟩
  rw [← hwr]
  have hb : Below w.heap.size w w1 := by rw [hwr]; exact (Below.alloc (Below.alloc (Below.refl _ _) (by first | exact Nat.le_refl _ | (simp; omega) | simp) _) (by first | exact Nat.le_refl _ | (simp; omega) | simp) _)
  have cc : CellsAt w1 (w.heap.size) [.int .i64 L.c.t, .int .i64 L.c.l, .int .i64 L.c.k, .int .i64 L.c.s, .int .i64 L.c.m, .int .i64 L.clock, .int .i64 L.stamps, .int .i64 L.log, .int .i64 L.fin, .int .i64 L.thread, .int .i64 L.lock, .int .i64 L.loc, .int .i64 L.size, .int .i64 me, .int .i64 other, .bool false, .int .i64 m.s, .int .i64 m.k, .int .i64 m.a, .func (.func 30) #[] #[]] := by rw [hwr]; exact (cellsAt_alloc (cellsAt_new' w _ _ (w.heap.size) (by simp)) _)
  have ccz : w.heap.size < w1.heap.size := World.block_lt_of_cell? _ _ (cc 0 _ rfl)
  have oz : OutZ w1 (w.heap.size + 1) := by rw [hwr]; exact (OutZ.new' (w.alloc (.cells #[.int .i64 L.c.t, .int .i64 L.c.l, .int .i64 L.c.k, .int .i64 L.c.s, .int .i64 L.c.m, .int .i64 L.clock, .int .i64 L.stamps, .int .i64 L.log, .int .i64 L.fin, .int .i64 L.thread, .int .i64 L.lock, .int .i64 L.loc, .int .i64 L.size, .int .i64 me, .int .i64 other, .bool false, .int .i64 m.s, .int .i64 m.k, .int .i64 m.a, .func (.func 30) #[] #[]] 119)) _ (w.heap.size + 1) (by simp))
  have ozz : w.heap.size + 1 < w1.heap.size := OutZ.lt oz
  have h1 := runAt_keep h0 hb
  replace G := gb_trans G (gb_of_below (some g) hb)
  clear hb hwr
  replace hS0 := G.size
  have cc_4 := cc 4 _ rfl
  have cc_13 := cc 13 _ rfl
  have cc_14 := cc 14 _ rfl
  have cc_15 := cc 15 _ rfl
  have cc_16 := cc 16 _ rfl
  have cc_17 := cc 17 _ rfl
  have cc_18 := cc 18 _ rfl
  have cc_19 := cc 19 _ rfl
  go_wp2_with (first | ((with_reducible refine ld_layT cc ?a155 ?h155); (case a155 => exact ⟨_, rfl, rfl, rfl⟩)) | ((with_reducible refine ld_case cc rfl ?a156 ?h156); (case a156 => exact ⟨_, rfl, rfl, rfl⟩)))
  ((with_reducible refine (HS.out _).mono ?_); rintro e w2 ⟨rfl, hb⟩)
  clear cc_4 cc_13 cc_14 cc_15 cc_16 cc_17 cc_18 cc_19
  have hsz := hb.size
  (try simp at hsz)
  replace cc := cellsAt_keep cc hb
  replace oz := OutZ.below oz hb
  replace ccz : w.heap.size < w2.heap.size := by omega
  replace ozz : w.heap.size + 1 < w2.heap.size := by omega
  have h2 := runAt_keep h1 hb
  replace G := gb_trans G (gb_of_below (some g) hb)
  clear hb hsz
  replace hS0 := G.size
  have cc_4 := cc 4 _ rfl
  have cc_13 := cc 13 _ rfl
  have cc_14 := cc 14 _ rfl
  have cc_15 := cc 15 _ rfl
  have cc_16 := cc 16 _ rfl
  have cc_17 := cc 17 _ rfl
  have cc_18 := cc 18 _ rfl
  have cc_19 := cc 19 _ rfl
  go_wp2_with (first | ((with_reducible refine ld_layT cc ?a157 ?h157); (case a157 => exact ⟨_, rfl, rfl, rfl⟩)) | ((with_reducible refine ld_case cc rfl ?a158 ?h158); (case a158 => exact ⟨_, rfl, rfl, rfl⟩)))
  ((with_reducible refine (load_some _ g _ _ _ h2).mono ?_); rintro e w3 ⟨rfl, h3, hb⟩)
  clear cc_4 cc_13 cc_14 cc_15 cc_16 cc_17 cc_18 cc_19
  have hsz := hb.size
  (try simp at hsz)
  replace cc := cellsAt_gb cc hb (by omega)
  replace oz := OutZ.gb oz hb (by omega)
  replace ccz : w.heap.size < w3.heap.size := by omega
  replace ozz : w.heap.size + 1 < w3.heap.size := by omega
  replace G := gb_trans G hb
  clear hb hsz
  replace hS0 := G.size
  have cc_4 := cc 4 _ rfl
  have cc_13 := cc 13 _ rfl
  have cc_14 := cc 14 _ rfl
  have cc_15 := cc 15 _ rfl
  have cc_16 := cc 16 _ rfl
  have cc_17 := cc 17 _ rfl
  have cc_18 := cc 18 _ rfl
  have cc_19 := cc 19 _ rfl
  go_wp2_with (first | ((with_reducible refine ld_layT cc ?a159 ?h159); (case a159 => exact ⟨_, rfl, rfl, rfl⟩)) | ((with_reducible refine ld_case cc rfl ?a160 ?h160); (case a160 => exact ⟨_, rfl, rfl, rfl⟩)))
  ((with_reducible refine (kind_any _ _).mono ?_); rintro e w' ⟨rfl, rfl⟩)
  go_wp2_with (first | ((with_reducible refine ld_layT cc ?a161 ?h161); (case a161 => exact ⟨_, rfl, rfl, rfl⟩)) | ((with_reducible refine ld_case cc rfl ?a162 ?h162); (case a162 => exact ⟨_, rfl, rfl, rfl⟩)))
  ((with_reducible refine (try_any _ hi _).mono ?_); rintro e w' ⟨rfl, rfl⟩)
  go_wp2_with (first | ((with_reducible refine ld_layT (cellsAt_alloc cc _) ?a163 ?h163); (case a163 => exact ⟨_, rfl, rfl, rfl⟩)) | ((with_reducible refine ld_layT cc ?a164 ?h164); (case a164 => exact ⟨_, rfl, rfl, rfl⟩)) | ((with_reducible refine ld_case (cellsAt_alloc cc _) rfl ?a165 ?h165); (case a165 => exact ⟨_, rfl, rfl, rfl⟩)) | ((with_reducible refine ld_case cc rfl ?a166 ?h166); (case a166 => exact ⟨_, rfl, rfl, rfl⟩)))
  ((with_reducible refine (HT.out _).mono ?_); rintro e w4 ⟨rfl, hb⟩)
  clear cc_4 cc_13 cc_14 cc_15 cc_16 cc_17 cc_18 cc_19
  have hsz := hb.size
  (try simp at hsz)
  have xcczn : w.heap.size ≠ w3.heap.size := by omega
  have xozzn : w.heap.size + 1 ≠ w3.heap.size := by omega
  have xgn : w3.heap.size ≠ g := by omega
  have xlo : w.heap.size ≤ w3.heap.size := by omega
  replace cc := cellsAt_keep (cellsAt_alloc cc _) hb
  replace oz := OutZ.below (OutZ.alloc oz _) hb
  have xq0 : w4.cell? ⟨w3.heap.size, 0, none⟩ = some (.int .i64 0) := cel_below hb (by rw [World.cell?_alloc_at _ _ _ _ (by simp)]; rfl)
  have xq1 : w4.cell? ⟨w3.heap.size, 1, none⟩ = some (.int .i64 0) := cel_below hb (by rw [World.cell?_alloc_at _ _ _ _ (by simp)]; rfl)
  have xq2 : w4.cell? ⟨w3.heap.size, 2, none⟩ = some (.int .i64 (s.1 / 4)) := cel_below hb (by rw [World.cell?_alloc_at _ _ _ _ (by simp)]; rfl)
  have xf : ∀ o, w4.frozen? ⟨w3.heap.size, o, none⟩ = false := fun o => fro_below hb (by first | omega | (simp; done) | (simp; omega)) (World.frozen?_alloc_at _ _ _ _ (by simp))
  replace ccz : w.heap.size < w4.heap.size := by omega
  replace ozz : w.heap.size + 1 < w4.heap.size := by omega
  have xz : w3.heap.size < w4.heap.size := World.block_lt_of_cell? _ _ xq0
  have h4 := runAt_keep (runAt_alloc h3 _) hb
  replace G := gb_trans (gb_alloc G _) (gb_of_below (some g) hb)
  clear hb hsz
  replace hS0 := G.size
  have cc_4 := cc 4 _ rfl
  have cc_13 := cc 13 _ rfl
  have cc_14 := cc 14 _ rfl
  have cc_15 := cc 15 _ rfl
  have cc_16 := cc 16 _ rfl
  have cc_17 := cc 17 _ rfl
  have cc_18 := cc 18 _ rfl
  have cc_19 := cc 19 _ rfl
  go_wp2_with (first | ((with_reducible refine ld_layT cc ?a167 ?h167); (case a167 => exact ⟨_, rfl, rfl, rfl⟩)) | ((with_reducible refine ld_case cc rfl ?a168 ?h168); (case a168 => exact ⟨_, rfl, rfl, rfl⟩)))
  ((with_reducible refine (load_some _ g _ _ _ h4).mono ?_); rintro e w5 ⟨rfl, h5, hb⟩)
  clear cc_4 cc_13 cc_14 cc_15 cc_16 cc_17 cc_18 cc_19
  have hsz := hb.size
  (try simp at hsz)
  replace cc := cellsAt_gb cc hb (by omega)
  replace oz := OutZ.gb oz hb (by omega)
  replace xq0 : w5.cell? ⟨w3.heap.size, 0, none⟩ = some (.int .i64 0) := gbc hb xq0 (by omega)
  replace xq1 : w5.cell? ⟨w3.heap.size, 1, none⟩ = some (.int .i64 0) := gbc hb xq1 (by omega)
  replace xq2 : w5.cell? ⟨w3.heap.size, 2, none⟩ = some (.int .i64 (s.1 / 4)) := gbc hb xq2 (by omega)
  replace xf : ∀ o, w5.frozen? ⟨w3.heap.size, o, none⟩ = false := fun o => gbf hb (by first | omega | (simp; done) | (simp; omega)) (by omega) (xf o)
  replace ccz : w.heap.size < w5.heap.size := by omega
  replace ozz : w.heap.size + 1 < w5.heap.size := by omega
  replace xz : w3.heap.size < w5.heap.size := by omega
  replace G := gb_trans G hb
  clear hb hsz
  replace hS0 := G.size
  have cc_4 := cc 4 _ rfl
  have cc_13 := cc 13 _ rfl
  have cc_14 := cc 14 _ rfl
  have cc_15 := cc 15 _ rfl
  have cc_16 := cc 16 _ rfl
  have cc_17 := cc 17 _ rfl
  have cc_18 := cc 18 _ rfl
  have cc_19 := cc 19 _ rfl
  go_wp2_with (first | ((with_reducible refine ld_layT (cellsAt_set cc (by omega) _) ?a169 ?h169); (case a169 => exact ⟨_, rfl, rfl, rfl⟩)) | ((with_reducible refine ld_layT cc ?a170 ?h170); (case a170 => exact ⟨_, rfl, rfl, rfl⟩)) | ((with_reducible refine ld_case (cellsAt_set cc (by omega) _) rfl ?a171 ?h171); (case a171 => exact ⟨_, rfl, rfl, rfl⟩)) | ((with_reducible refine ld_case cc rfl ?a172 ?h172); (case a172 => exact ⟨_, rfl, rfl, rfl⟩)))
  ((with_reducible refine (HK.out _).mono ?_); rintro e w6 ⟨rfl, hb⟩)
  clear cc_4 cc_13 cc_14 cc_15 cc_16 cc_17 cc_18 cc_19
  have hsz := hb.size
  (try simp at hsz)
  replace cc := cellsAt_keep (cellsAt_set cc (by omega) _) hb
  replace oz := OutZ.below (OutZ.set oz (by omega) _) hb
  replace xq0 : w6.cell? ⟨w3.heap.size, 0, none⟩ = some (.int .i64 t.1) := cel_below hb (World.cell?_setCell_same _ _ _ xq0)
  replace xq1 : w6.cell? ⟨w3.heap.size, 1, none⟩ = some (.int .i64 0) := cel_below hb (keepA_ xq1 (by omega))
  replace xq2 : w6.cell? ⟨w3.heap.size, 2, none⟩ = some (.int .i64 (s.1 / 4)) := cel_below hb (keepA_ xq2 (by omega))
  replace xf : ∀ o, w6.frozen? ⟨w3.heap.size, o, none⟩ = false := fun o => fro_below hb (by first | omega | (simp; done) | (simp; omega)) ((World.frozen?_setCell _ _ _ _).trans (xf o))
  replace ccz : w.heap.size < w6.heap.size := by omega
  replace ozz : w.heap.size + 1 < w6.heap.size := by omega
  replace xz : w3.heap.size < w6.heap.size := by omega
  have h6 := runAt_keep (runAt_set h5 (by omega) _) hb
  replace G := gb_trans (gb_set G (Or.inr (by first | exact Nat.le_refl _ | (dsimp only; omega))) _) (gb_of_below (some g) hb)
  clear hb hsz
  replace hS0 := G.size
  have cc_4 := cc 4 _ rfl
  have cc_13 := cc 13 _ rfl
  have cc_14 := cc 14 _ rfl
  have cc_15 := cc 15 _ rfl
  have cc_16 := cc 16 _ rfl
  have cc_17 := cc 17 _ rfl
  have cc_18 := cc 18 _ rfl
  have cc_19 := cc 19 _ rfl
  go_wp2_with (first | ((with_reducible refine ld_layT cc ?a173 ?h173); (case a173 => exact ⟨_, rfl, rfl, rfl⟩)) | ((with_reducible refine ld_case cc rfl ?a174 ?h174); (case a174 => exact ⟨_, rfl, rfl, rfl⟩)))
  ((with_reducible refine (load_some _ g _ _ _ h6).mono ?_); rintro e w7 ⟨rfl, h7, hb⟩)
  clear cc_4 cc_13 cc_14 cc_15 cc_16 cc_17 cc_18 cc_19
  have hsz := hb.size
  (try simp at hsz)
  replace cc := cellsAt_gb cc hb (by omega)
  replace oz := OutZ.gb oz hb (by omega)
  replace xq0 : w7.cell? ⟨w3.heap.size, 0, none⟩ = some (.int .i64 t.1) := gbc hb xq0 (by omega)
  replace xq1 : w7.cell? ⟨w3.heap.size, 1, none⟩ = some (.int .i64 0) := gbc hb xq1 (by omega)
  replace xq2 : w7.cell? ⟨w3.heap.size, 2, none⟩ = some (.int .i64 (s.1 / 4)) := gbc hb xq2 (by omega)
  replace xf : ∀ o, w7.frozen? ⟨w3.heap.size, o, none⟩ = false := fun o => gbf hb (by first | omega | (simp; done) | (simp; omega)) (by omega) (xf o)
  replace ccz : w.heap.size < w7.heap.size := by omega
  replace ozz : w.heap.size + 1 < w7.heap.size := by omega
  replace xz : w3.heap.size < w7.heap.size := by omega
  replace G := gb_trans G hb
  clear hb hsz
  replace hS0 := G.size
  have cc_4 := cc 4 _ rfl
  have cc_13 := cc 13 _ rfl
  have cc_14 := cc 14 _ rfl
  have cc_15 := cc 15 _ rfl
  have cc_16 := cc 16 _ rfl
  have cc_17 := cc 17 _ rfl
  have cc_18 := cc 18 _ rfl
  have cc_19 := cc 19 _ rfl
  go_wp2_with (first | ((with_reducible refine ld_layT (cellsAt_set cc (by omega) _) ?a175 ?h175); (case a175 => exact ⟨_, rfl, rfl, rfl⟩)) | ((with_reducible refine ld_layT cc ?a176 ?h176); (case a176 => exact ⟨_, rfl, rfl, rfl⟩)) | ((with_reducible refine ld_case (cellsAt_set cc (by omega) _) rfl ?a177 ?h177); (case a177 => exact ⟨_, rfl, rfl, rfl⟩)) | ((with_reducible refine ld_case cc rfl ?a178 ?h178); (case a178 => exact ⟨_, rfl, rfl, rfl⟩)))
  ((with_reducible refine (HC.out _).mono ?_); rintro e w8 ⟨rfl, hb⟩)
  clear cc_4 cc_13 cc_14 cc_15 cc_16 cc_17 cc_18 cc_19
  have hsz := hb.size
  (try simp at hsz)
  replace cc := cellsAt_keep (cellsAt_set cc (by omega) _) hb
  replace oz := OutZ.below (OutZ.set oz (by omega) _) hb
  replace xq0 : w8.cell? ⟨w3.heap.size, 0, none⟩ = some (.int .i64 t.1) := cel_below hb (keepA_ xq0 (by omega))
  replace xq1 : w8.cell? ⟨w3.heap.size, 1, none⟩ = some (.int .i64 k.1) := cel_below hb (World.cell?_setCell_same _ _ _ xq1)
  replace xq2 : w8.cell? ⟨w3.heap.size, 2, none⟩ = some (.int .i64 (s.1 / 4)) := cel_below hb (keepA_ xq2 (by omega))
  replace xf : ∀ o, w8.frozen? ⟨w3.heap.size, o, none⟩ = false := fun o => fro_below hb (by first | omega | (simp; done) | (simp; omega)) ((World.frozen?_setCell _ _ _ _).trans (xf o))
  replace ccz : w.heap.size < w8.heap.size := by omega
  replace ozz : w.heap.size + 1 < w8.heap.size := by omega
  replace xz : w3.heap.size < w8.heap.size := by omega
  have h8 := runAt_keep (runAt_set h7 (by omega) _) hb
  replace G := gb_trans (gb_set G (Or.inr (by first | exact Nat.le_refl _ | (dsimp only; omega))) _) (gb_of_below (some g) hb)
  clear hb hsz
  replace hS0 := G.size
  have cc_4 := cc 4 _ rfl
  have cc_13 := cc 13 _ rfl
  have cc_14 := cc 14 _ rfl
  have cc_15 := cc 15 _ rfl
  have cc_16 := cc 16 _ rfl
  have cc_17 := cc 17 _ rfl
  have cc_18 := cc 18 _ rfl
  have cc_19 := cc 19 _ rfl
  go_wp2_with (first | ((with_reducible refine ld_layT cc ?a179 ?h179); (case a179 => exact ⟨_, rfl, rfl, rfl⟩)) | ((with_reducible refine ld_case cc rfl ?a180 ?h180); (case a180 => exact ⟨_, rfl, rfl, rfl⟩)))
  ((with_reducible refine (HD.out _ h8).mono ?_); rintro e w9 ⟨rfl, hb⟩)
  exact ⟨rfl, rfl, gb_trans G hb⟩

end Go.Proofs.Ytaclnaedinfhmaa
