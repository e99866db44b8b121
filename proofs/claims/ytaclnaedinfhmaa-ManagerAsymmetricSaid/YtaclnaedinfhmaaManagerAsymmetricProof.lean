/- ManagerAsymmetric: for two transactions with distinct stamps at most one has priority over the other; under MGreedy and MKarma exactly one, under MTimid none, under MMixed exactly one if both were aborted at least twice. No condition. -/
import Derived.Test.YtaclnaedinfhmaaRows
import Derived.Test.YtaclnaedinfhmaaBase
import Derived.Test.YtaclnaedinfhmaaAux
import Derived.Test.YtaclnaedinfhmaaMgrA
import Derived.Test.YtaclnaedinfhmaaMgrO
import Derived.Test.YtaclnaedinfhmaaMgrT
import Derived.Outline
import Derived.Deep.RegionHeld3
import Derived.IntWalk
import Derived.WalkKit
import Derived.ProofKit
import Derived.OpenShut
import Derived.Lib.Hide
import Derived.Carry
namespace Go.Proofs.Ytaclnaedinfhmaa.managerAsymmetric
open Go.ChangeShapes Go.WideShapes Go.ChangeAt Go.RowKit
set_option linter.unusedVariables false

set_option maxHeartbeats 4000000 in
set_option maxRecDepth 100000 in
theorem walk_eq (w : World) (k : Int) (hk : 0 ≤ k ∧ k ≤ 255) (a b : Ct) (he : a.s = b.s) : Calls Try.prog 10 #[.int .u8 k, a.v, b.v] w fun e w' => e = .returned (.bool true) ∧ Below w.heap.size w w' := by
  have hq : (a.s == b.s) = true := by simp [he]
  clear he hk
  unfold Ct.v
  go_enter Try.func10, Try.ntmps10
  go_wp2_with fail
  ((with_reducible refine (sane17_any _).mono ?_); rintro e w1 ⟨rfl, hb⟩)
  have HW := Lib.hid (below_alloc2 hb)
  have zz : w.heap.size + 2 ≤ w1.heap.size := by have := hb.size; (try simp at this); omega
  have aq0 : w1.cell? ⟨w.heap.size, 0, none⟩ = some (.int .i64 a.s) := cel_below hb (cell_alloc _ (by rw [World.cell?_alloc_at _ _ _ _ (by simp)]; rfl))
  have aq1 : w1.cell? ⟨w.heap.size, 1, none⟩ = some (.int .i64 a.k) := cel_below hb (cell_alloc _ (by rw [World.cell?_alloc_at _ _ _ _ (by simp)]; rfl))
  have aq2 : w1.cell? ⟨w.heap.size, 2, none⟩ = some (.int .i64 a.a) := cel_below hb (cell_alloc _ (by rw [World.cell?_alloc_at _ _ _ _ (by simp)]; rfl))
  have z0 : w.heap.size < w1.heap.size := by omega
  have bq0 : w1.cell? ⟨w.heap.size + 1, 0, none⟩ = some (.int .i64 b.s) := cel_below hb (by rw [World.cell?_alloc_at _ _ _ _ (by simp)]; rfl)
  have bq1 : w1.cell? ⟨w.heap.size + 1, 1, none⟩ = some (.int .i64 b.k) := cel_below hb (by rw [World.cell?_alloc_at _ _ _ _ (by simp)]; rfl)
  have bq2 : w1.cell? ⟨w.heap.size + 1, 2, none⟩ = some (.int .i64 b.a) := cel_below hb (by rw [World.cell?_alloc_at _ _ _ _ (by simp)]; rfl)
  have z1 : w.heap.size + 1 < w1.heap.size := by omega
  clear hb zz
  go_wp2
  go_ret
  exact ⟨rfl, HW.out⟩
set_option maxHeartbeats 4000000 in
set_option maxRecDepth 100000 in
theorem walk_011 (w : World) (k : Int) (hk : 0 ≤ k ∧ k ≤ 255) (a b : Ct) (hm : k % 4 = 0) (he : ¬a.s = b.s) (h1 : chooseD 0 a b = 1) (h2 : chooseD 0 b a = 1) : Calls Try.prog 10 #[.int .u8 k, a.v, b.v] w fun e w' => e = .returned (.bool true) ∧ Below w.heap.size w w' := by
  have hq : (a.s == b.s) = false := by simp [he]
  have HC : Hid (∀ w, Calls Try.prog 30 #[.int .i64 0, a.v, b.v] w fun e w' => e = .returned (.int .i64 1) ∧ Below w.heap.size w w') := Lib.hid (fun w => by have := choose_any 0 a b w; rwa [h1] at this)
  have HD : Hid (∀ w, Calls Try.prog 30 #[.int .i64 0, b.v, a.v] w fun e w' => e = .returned (.int .i64 1) ∧ Below w.heap.size w w') := Lib.hid (fun w => by have := choose_any 0 b a w; rwa [h2] at this)
  have hm2 : k.tmod 4 = 0 := by rw [Int.tmod_eq_emod_of_nonneg hk.1]; exact hm
  clear he h1 h2 hm hk
  unfold Ct.v at HC HD ⊢
  go_enter Try.func10, Try.ntmps10
  go_wp2_with fail
  ((with_reducible refine (sane17_any _).mono ?_); rintro e w1 ⟨rfl, hb⟩)
  have HW := Lib.hid (below_alloc2 hb)
  have zz : w.heap.size + 2 ≤ w1.heap.size := by have := hb.size; (try simp at this); omega
  have aq0 : w1.cell? ⟨w.heap.size, 0, none⟩ = some (.int .i64 a.s) := cel_below hb (cell_alloc _ (by rw [World.cell?_alloc_at _ _ _ _ (by simp)]; rfl))
  have aq1 : w1.cell? ⟨w.heap.size, 1, none⟩ = some (.int .i64 a.k) := cel_below hb (cell_alloc _ (by rw [World.cell?_alloc_at _ _ _ _ (by simp)]; rfl))
  have aq2 : w1.cell? ⟨w.heap.size, 2, none⟩ = some (.int .i64 a.a) := cel_below hb (cell_alloc _ (by rw [World.cell?_alloc_at _ _ _ _ (by simp)]; rfl))
  have z0 : w.heap.size < w1.heap.size := by omega
  have bq0 : w1.cell? ⟨w.heap.size + 1, 0, none⟩ = some (.int .i64 b.s) := cel_below hb (by rw [World.cell?_alloc_at _ _ _ _ (by simp)]; rfl)
  have bq1 : w1.cell? ⟨w.heap.size + 1, 1, none⟩ = some (.int .i64 b.k) := cel_below hb (by rw [World.cell?_alloc_at _ _ _ _ (by simp)]; rfl)
  have bq2 : w1.cell? ⟨w.heap.size + 1, 2, none⟩ = some (.int .i64 b.a) := cel_below hb (by rw [World.cell?_alloc_at _ _ _ _ (by simp)]; rfl)
  have z1 : w.heap.size + 1 < w1.heap.size := by omega
  clear hb zz
  go_wp2_with fail
  ((with_reducible refine (HC.out _).mono ?_); rintro e w2 ⟨rfl, hb⟩)
  replace HW := Lib.hid (below_step HW.out (hb))
  have zz : w1.heap.size + 0 ≤ w2.heap.size := by have := hb.size; (try simp at this); omega
  replace aq0 : w2.cell? ⟨w.heap.size, 0, none⟩ = some (.int .i64 a.s) := cel_below hb (aq0)
  replace aq1 : w2.cell? ⟨w.heap.size, 1, none⟩ = some (.int .i64 a.k) := cel_below hb (aq1)
  replace aq2 : w2.cell? ⟨w.heap.size, 2, none⟩ = some (.int .i64 a.a) := cel_below hb (aq2)
  replace bq0 : w2.cell? ⟨w.heap.size + 1, 0, none⟩ = some (.int .i64 b.s) := cel_below hb (bq0)
  replace bq1 : w2.cell? ⟨w.heap.size + 1, 1, none⟩ = some (.int .i64 b.k) := cel_below hb (bq1)
  replace bq2 : w2.cell? ⟨w.heap.size + 1, 2, none⟩ = some (.int .i64 b.a) := cel_below hb (bq2)
  replace z0 : w.heap.size < w2.heap.size := by omega
  replace z1 : w.heap.size + 1 < w2.heap.size := by omega
  clear hb zz
  go_wp2_with fail
  ((with_reducible refine (HD.out _).mono ?_); rintro e w3 ⟨rfl, hb⟩)
  replace HW := Lib.hid (below_step HW.out (hb))
  have zz : w2.heap.size + 0 ≤ w3.heap.size := by have := hb.size; (try simp at this); omega
  replace aq0 : w3.cell? ⟨w.heap.size, 0, none⟩ = some (.int .i64 a.s) := cel_below hb (aq0)
  replace aq1 : w3.cell? ⟨w.heap.size, 1, none⟩ = some (.int .i64 a.k) := cel_below hb (aq1)
  replace aq2 : w3.cell? ⟨w.heap.size, 2, none⟩ = some (.int .i64 a.a) := cel_below hb (aq2)
  replace bq0 : w3.cell? ⟨w.heap.size + 1, 0, none⟩ = some (.int .i64 b.s) := cel_below hb (bq0)
  replace bq1 : w3.cell? ⟨w.heap.size + 1, 1, none⟩ = some (.int .i64 b.k) := cel_below hb (bq1)
  replace bq2 : w3.cell? ⟨w.heap.size + 1, 2, none⟩ = some (.int .i64 b.a) := cel_below hb (bq2)
  replace z0 : w.heap.size < w3.heap.size := by omega
  replace z1 : w.heap.size + 1 < w3.heap.size := by omega
  clear hb zz
  go_wp2
  go_ret
  exact ⟨rfl, HW.out⟩
set_option maxHeartbeats 4000000 in
set_option maxRecDepth 100000 in
theorem walk_121 (w : World) (k : Int) (hk : 0 ≤ k ∧ k ≤ 255) (a b : Ct) (hm : k % 4 = 1) (he : ¬a.s = b.s) (h1 : chooseD 1 a b = 2) (h2 : chooseD 1 b a = 1) : Calls Try.prog 10 #[.int .u8 k, a.v, b.v] w fun e w' => e = .returned (.bool true) ∧ Below w.heap.size w w' := by
  have hq : (a.s == b.s) = false := by simp [he]
  have HC : Hid (∀ w, Calls Try.prog 30 #[.int .i64 1, a.v, b.v] w fun e w' => e = .returned (.int .i64 2) ∧ Below w.heap.size w w') := Lib.hid (fun w => by have := choose_any 1 a b w; rwa [h1] at this)
  have HD : Hid (∀ w, Calls Try.prog 30 #[.int .i64 1, b.v, a.v] w fun e w' => e = .returned (.int .i64 1) ∧ Below w.heap.size w w') := Lib.hid (fun w => by have := choose_any 1 b a w; rwa [h2] at this)
  have hm2 : k.tmod 4 = 1 := by rw [Int.tmod_eq_emod_of_nonneg hk.1]; exact hm
  clear he h1 h2 hm hk
  unfold Ct.v at HC HD ⊢
  go_enter Try.func10, Try.ntmps10
  go_wp2_with fail
  ((with_reducible refine (sane17_any _).mono ?_); rintro e w1 ⟨rfl, hb⟩)
  have HW := Lib.hid (below_alloc2 hb)
  have zz : w.heap.size + 2 ≤ w1.heap.size := by have := hb.size; (try simp at this); omega
  have aq0 : w1.cell? ⟨w.heap.size, 0, none⟩ = some (.int .i64 a.s) := cel_below hb (cell_alloc _ (by rw [World.cell?_alloc_at _ _ _ _ (by simp)]; rfl))
  have aq1 : w1.cell? ⟨w.heap.size, 1, none⟩ = some (.int .i64 a.k) := cel_below hb (cell_alloc _ (by rw [World.cell?_alloc_at _ _ _ _ (by simp)]; rfl))
  have aq2 : w1.cell? ⟨w.heap.size, 2, none⟩ = some (.int .i64 a.a) := cel_below hb (cell_alloc _ (by rw [World.cell?_alloc_at _ _ _ _ (by simp)]; rfl))
  have z0 : w.heap.size < w1.heap.size := by omega
  have bq0 : w1.cell? ⟨w.heap.size + 1, 0, none⟩ = some (.int .i64 b.s) := cel_below hb (by rw [World.cell?_alloc_at _ _ _ _ (by simp)]; rfl)
  have bq1 : w1.cell? ⟨w.heap.size + 1, 1, none⟩ = some (.int .i64 b.k) := cel_below hb (by rw [World.cell?_alloc_at _ _ _ _ (by simp)]; rfl)
  have bq2 : w1.cell? ⟨w.heap.size + 1, 2, none⟩ = some (.int .i64 b.a) := cel_below hb (by rw [World.cell?_alloc_at _ _ _ _ (by simp)]; rfl)
  have z1 : w.heap.size + 1 < w1.heap.size := by omega
  clear hb zz
  go_wp2_with fail
  ((with_reducible refine (HC.out _).mono ?_); rintro e w2 ⟨rfl, hb⟩)
  replace HW := Lib.hid (below_step HW.out (hb))
  have zz : w1.heap.size + 0 ≤ w2.heap.size := by have := hb.size; (try simp at this); omega
  replace aq0 : w2.cell? ⟨w.heap.size, 0, none⟩ = some (.int .i64 a.s) := cel_below hb (aq0)
  replace aq1 : w2.cell? ⟨w.heap.size, 1, none⟩ = some (.int .i64 a.k) := cel_below hb (aq1)
  replace aq2 : w2.cell? ⟨w.heap.size, 2, none⟩ = some (.int .i64 a.a) := cel_below hb (aq2)
  replace bq0 : w2.cell? ⟨w.heap.size + 1, 0, none⟩ = some (.int .i64 b.s) := cel_below hb (bq0)
  replace bq1 : w2.cell? ⟨w.heap.size + 1, 1, none⟩ = some (.int .i64 b.k) := cel_below hb (bq1)
  replace bq2 : w2.cell? ⟨w.heap.size + 1, 2, none⟩ = some (.int .i64 b.a) := cel_below hb (bq2)
  replace z0 : w.heap.size < w2.heap.size := by omega
  replace z1 : w.heap.size + 1 < w2.heap.size := by omega
  clear hb zz
  go_wp2_with fail
  ((with_reducible refine (HD.out _).mono ?_); rintro e w3 ⟨rfl, hb⟩)
  replace HW := Lib.hid (below_step HW.out (hb))
  have zz : w2.heap.size + 0 ≤ w3.heap.size := by have := hb.size; (try simp at this); omega
  replace aq0 : w3.cell? ⟨w.heap.size, 0, none⟩ = some (.int .i64 a.s) := cel_below hb (aq0)
  replace aq1 : w3.cell? ⟨w.heap.size, 1, none⟩ = some (.int .i64 a.k) := cel_below hb (aq1)
  replace aq2 : w3.cell? ⟨w.heap.size, 2, none⟩ = some (.int .i64 a.a) := cel_below hb (aq2)
  replace bq0 : w3.cell? ⟨w.heap.size + 1, 0, none⟩ = some (.int .i64 b.s) := cel_below hb (bq0)
  replace bq1 : w3.cell? ⟨w.heap.size + 1, 1, none⟩ = some (.int .i64 b.k) := cel_below hb (bq1)
  replace bq2 : w3.cell? ⟨w.heap.size + 1, 2, none⟩ = some (.int .i64 b.a) := cel_below hb (bq2)
  replace z0 : w.heap.size < w3.heap.size := by omega
  replace z1 : w.heap.size + 1 < w3.heap.size := by omega
  clear hb zz
  go_wp2
  go_ret
  exact ⟨rfl, HW.out⟩
set_option maxHeartbeats 4000000 in
set_option maxRecDepth 100000 in
theorem walk_112 (w : World) (k : Int) (hk : 0 ≤ k ∧ k ≤ 255) (a b : Ct) (hm : k % 4 = 1) (he : ¬a.s = b.s) (h1 : chooseD 1 a b = 1) (h2 : chooseD 1 b a = 2) : Calls Try.prog 10 #[.int .u8 k, a.v, b.v] w fun e w' => e = .returned (.bool true) ∧ Below w.heap.size w w' := by
  have hq : (a.s == b.s) = false := by simp [he]
  have HC : Hid (∀ w, Calls Try.prog 30 #[.int .i64 1, a.v, b.v] w fun e w' => e = .returned (.int .i64 1) ∧ Below w.heap.size w w') := Lib.hid (fun w => by have := choose_any 1 a b w; rwa [h1] at this)
  have HD : Hid (∀ w, Calls Try.prog 30 #[.int .i64 1, b.v, a.v] w fun e w' => e = .returned (.int .i64 2) ∧ Below w.heap.size w w') := Lib.hid (fun w => by have := choose_any 1 b a w; rwa [h2] at this)
  have hm2 : k.tmod 4 = 1 := by rw [Int.tmod_eq_emod_of_nonneg hk.1]; exact hm
  clear he h1 h2 hm hk
  unfold Ct.v at HC HD ⊢
  go_enter Try.func10, Try.ntmps10
  go_wp2_with fail
  ((with_reducible refine (sane17_any _).mono ?_); rintro e w1 ⟨rfl, hb⟩)
  have HW := Lib.hid (below_alloc2 hb)
  have zz : w.heap.size + 2 ≤ w1.heap.size := by have := hb.size; (try simp at this); omega
  have aq0 : w1.cell? ⟨w.heap.size, 0, none⟩ = some (.int .i64 a.s) := cel_below hb (cell_alloc _ (by rw [World.cell?_alloc_at _ _ _ _ (by simp)]; rfl))
  have aq1 : w1.cell? ⟨w.heap.size, 1, none⟩ = some (.int .i64 a.k) := cel_below hb (cell_alloc _ (by rw [World.cell?_alloc_at _ _ _ _ (by simp)]; rfl))
  have aq2 : w1.cell? ⟨w.heap.size, 2, none⟩ = some (.int .i64 a.a) := cel_below hb (cell_alloc _ (by rw [World.cell?_alloc_at _ _ _ _ (by simp)]; rfl))
  have z0 : w.heap.size < w1.heap.size := by omega
  have bq0 : w1.cell? ⟨w.heap.size + 1, 0, none⟩ = some (.int .i64 b.s) := cel_below hb (by rw [World.cell?_alloc_at _ _ _ _ (by simp)]; rfl)
  have bq1 : w1.cell? ⟨w.heap.size + 1, 1, none⟩ = some (.int .i64 b.k) := cel_below hb (by rw [World.cell?_alloc_at _ _ _ _ (by simp)]; rfl)
  have bq2 : w1.cell? ⟨w.heap.size + 1, 2, none⟩ = some (.int .i64 b.a) := cel_below hb (by rw [World.cell?_alloc_at _ _ _ _ (by simp)]; rfl)
  have z1 : w.heap.size + 1 < w1.heap.size := by omega
  clear hb zz
  go_wp2_with fail
  ((with_reducible refine (HC.out _).mono ?_); rintro e w2 ⟨rfl, hb⟩)
  replace HW := Lib.hid (below_step HW.out (hb))
  have zz : w1.heap.size + 0 ≤ w2.heap.size := by have := hb.size; (try simp at this); omega
  replace aq0 : w2.cell? ⟨w.heap.size, 0, none⟩ = some (.int .i64 a.s) := cel_below hb (aq0)
  replace aq1 : w2.cell? ⟨w.heap.size, 1, none⟩ = some (.int .i64 a.k) := cel_below hb (aq1)
  replace aq2 : w2.cell? ⟨w.heap.size, 2, none⟩ = some (.int .i64 a.a) := cel_below hb (aq2)
  replace bq0 : w2.cell? ⟨w.heap.size + 1, 0, none⟩ = some (.int .i64 b.s) := cel_below hb (bq0)
  replace bq1 : w2.cell? ⟨w.heap.size + 1, 1, none⟩ = some (.int .i64 b.k) := cel_below hb (bq1)
  replace bq2 : w2.cell? ⟨w.heap.size + 1, 2, none⟩ = some (.int .i64 b.a) := cel_below hb (bq2)
  replace z0 : w.heap.size < w2.heap.size := by omega
  replace z1 : w.heap.size + 1 < w2.heap.size := by omega
  clear hb zz
  go_wp2_with fail
  ((with_reducible refine (HD.out _).mono ?_); rintro e w3 ⟨rfl, hb⟩)
  replace HW := Lib.hid (below_step HW.out (hb))
  have zz : w2.heap.size + 0 ≤ w3.heap.size := by have := hb.size; (try simp at this); omega
  replace aq0 : w3.cell? ⟨w.heap.size, 0, none⟩ = some (.int .i64 a.s) := cel_below hb (aq0)
  replace aq1 : w3.cell? ⟨w.heap.size, 1, none⟩ = some (.int .i64 a.k) := cel_below hb (aq1)
  replace aq2 : w3.cell? ⟨w.heap.size, 2, none⟩ = some (.int .i64 a.a) := cel_below hb (aq2)
  replace bq0 : w3.cell? ⟨w.heap.size + 1, 0, none⟩ = some (.int .i64 b.s) := cel_below hb (bq0)
  replace bq1 : w3.cell? ⟨w.heap.size + 1, 1, none⟩ = some (.int .i64 b.k) := cel_below hb (bq1)
  replace bq2 : w3.cell? ⟨w.heap.size + 1, 2, none⟩ = some (.int .i64 b.a) := cel_below hb (bq2)
  replace z0 : w.heap.size < w3.heap.size := by omega
  replace z1 : w.heap.size + 1 < w3.heap.size := by omega
  clear hb zz
  go_wp2
  go_ret
  exact ⟨rfl, HW.out⟩
set_option maxHeartbeats 4000000 in
set_option maxRecDepth 100000 in
theorem walk_221 (w : World) (k : Int) (hk : 0 ≤ k ∧ k ≤ 255) (a b : Ct) (hm : k % 4 = 2) (he : ¬a.s = b.s) (h1 : chooseD 2 a b = 2) (h2 : chooseD 2 b a = 1) : Calls Try.prog 10 #[.int .u8 k, a.v, b.v] w fun e w' => e = .returned (.bool true) ∧ Below w.heap.size w w' := by
  have hq : (a.s == b.s) = false := by simp [he]
  have HC : Hid (∀ w, Calls Try.prog 30 #[.int .i64 2, a.v, b.v] w fun e w' => e = .returned (.int .i64 2) ∧ Below w.heap.size w w') := Lib.hid (fun w => by have := choose_any 2 a b w; rwa [h1] at this)
  have HD : Hid (∀ w, Calls Try.prog 30 #[.int .i64 2, b.v, a.v] w fun e w' => e = .returned (.int .i64 1) ∧ Below w.heap.size w w') := Lib.hid (fun w => by have := choose_any 2 b a w; rwa [h2] at this)
  have hm2 : k.tmod 4 = 2 := by rw [Int.tmod_eq_emod_of_nonneg hk.1]; exact hm
  clear he h1 h2 hm hk
  unfold Ct.v at HC HD ⊢
  go_enter Try.func10, Try.ntmps10
  go_wp2_with fail
  ((with_reducible refine (sane17_any _).mono ?_); rintro e w1 ⟨rfl, hb⟩)
  have HW := Lib.hid (below_alloc2 hb)
  have zz : w.heap.size + 2 ≤ w1.heap.size := by have := hb.size; (try simp at this); omega
  have aq0 : w1.cell? ⟨w.heap.size, 0, none⟩ = some (.int .i64 a.s) := cel_below hb (cell_alloc _ (by rw [World.cell?_alloc_at _ _ _ _ (by simp)]; rfl))
  have aq1 : w1.cell? ⟨w.heap.size, 1, none⟩ = some (.int .i64 a.k) := cel_below hb (cell_alloc _ (by rw [World.cell?_alloc_at _ _ _ _ (by simp)]; rfl))
  have aq2 : w1.cell? ⟨w.heap.size, 2, none⟩ = some (.int .i64 a.a) := cel_below hb (cell_alloc _ (by rw [World.cell?_alloc_at _ _ _ _ (by simp)]; rfl))
  have z0 : w.heap.size < w1.heap.size := by omega
  have bq0 : w1.cell? ⟨w.heap.size + 1, 0, none⟩ = some (.int .i64 b.s) := cel_below hb (by rw [World.cell?_alloc_at _ _ _ _ (by simp)]; rfl)
  have bq1 : w1.cell? ⟨w.heap.size + 1, 1, none⟩ = some (.int .i64 b.k) := cel_below hb (by rw [World.cell?_alloc_at _ _ _ _ (by simp)]; rfl)
  have bq2 : w1.cell? ⟨w.heap.size + 1, 2, none⟩ = some (.int .i64 b.a) := cel_below hb (by rw [World.cell?_alloc_at _ _ _ _ (by simp)]; rfl)
  have z1 : w.heap.size + 1 < w1.heap.size := by omega
  clear hb zz
  go_wp2_with fail
  ((with_reducible refine (HC.out _).mono ?_); rintro e w2 ⟨rfl, hb⟩)
  replace HW := Lib.hid (below_step HW.out (hb))
  have zz : w1.heap.size + 0 ≤ w2.heap.size := by have := hb.size; (try simp at this); omega
  replace aq0 : w2.cell? ⟨w.heap.size, 0, none⟩ = some (.int .i64 a.s) := cel_below hb (aq0)
  replace aq1 : w2.cell? ⟨w.heap.size, 1, none⟩ = some (.int .i64 a.k) := cel_below hb (aq1)
  replace aq2 : w2.cell? ⟨w.heap.size, 2, none⟩ = some (.int .i64 a.a) := cel_below hb (aq2)
  replace bq0 : w2.cell? ⟨w.heap.size + 1, 0, none⟩ = some (.int .i64 b.s) := cel_below hb (bq0)
  replace bq1 : w2.cell? ⟨w.heap.size + 1, 1, none⟩ = some (.int .i64 b.k) := cel_below hb (bq1)
  replace bq2 : w2.cell? ⟨w.heap.size + 1, 2, none⟩ = some (.int .i64 b.a) := cel_below hb (bq2)
  replace z0 : w.heap.size < w2.heap.size := by omega
  replace z1 : w.heap.size + 1 < w2.heap.size := by omega
  clear hb zz
  go_wp2_with fail
  ((with_reducible refine (HD.out _).mono ?_); rintro e w3 ⟨rfl, hb⟩)
  replace HW := Lib.hid (below_step HW.out (hb))
  have zz : w2.heap.size + 0 ≤ w3.heap.size := by have := hb.size; (try simp at this); omega
  replace aq0 : w3.cell? ⟨w.heap.size, 0, none⟩ = some (.int .i64 a.s) := cel_below hb (aq0)
  replace aq1 : w3.cell? ⟨w.heap.size, 1, none⟩ = some (.int .i64 a.k) := cel_below hb (aq1)
  replace aq2 : w3.cell? ⟨w.heap.size, 2, none⟩ = some (.int .i64 a.a) := cel_below hb (aq2)
  replace bq0 : w3.cell? ⟨w.heap.size + 1, 0, none⟩ = some (.int .i64 b.s) := cel_below hb (bq0)
  replace bq1 : w3.cell? ⟨w.heap.size + 1, 1, none⟩ = some (.int .i64 b.k) := cel_below hb (bq1)
  replace bq2 : w3.cell? ⟨w.heap.size + 1, 2, none⟩ = some (.int .i64 b.a) := cel_below hb (bq2)
  replace z0 : w.heap.size < w3.heap.size := by omega
  replace z1 : w.heap.size + 1 < w3.heap.size := by omega
  clear hb zz
  go_wp2
  go_ret
  exact ⟨rfl, HW.out⟩
set_option maxHeartbeats 4000000 in
set_option maxRecDepth 100000 in
theorem walk_212 (w : World) (k : Int) (hk : 0 ≤ k ∧ k ≤ 255) (a b : Ct) (hm : k % 4 = 2) (he : ¬a.s = b.s) (h1 : chooseD 2 a b = 1) (h2 : chooseD 2 b a = 2) : Calls Try.prog 10 #[.int .u8 k, a.v, b.v] w fun e w' => e = .returned (.bool true) ∧ Below w.heap.size w w' := by
  have hq : (a.s == b.s) = false := by simp [he]
  have HC : Hid (∀ w, Calls Try.prog 30 #[.int .i64 2, a.v, b.v] w fun e w' => e = .returned (.int .i64 1) ∧ Below w.heap.size w w') := Lib.hid (fun w => by have := choose_any 2 a b w; rwa [h1] at this)
  have HD : Hid (∀ w, Calls Try.prog 30 #[.int .i64 2, b.v, a.v] w fun e w' => e = .returned (.int .i64 2) ∧ Below w.heap.size w w') := Lib.hid (fun w => by have := choose_any 2 b a w; rwa [h2] at this)
  have hm2 : k.tmod 4 = 2 := by rw [Int.tmod_eq_emod_of_nonneg hk.1]; exact hm
  clear he h1 h2 hm hk
  unfold Ct.v at HC HD ⊢
  go_enter Try.func10, Try.ntmps10
  go_wp2_with fail
  ((with_reducible refine (sane17_any _).mono ?_); rintro e w1 ⟨rfl, hb⟩)
  have HW := Lib.hid (below_alloc2 hb)
  have zz : w.heap.size + 2 ≤ w1.heap.size := by have := hb.size; (try simp at this); omega
  have aq0 : w1.cell? ⟨w.heap.size, 0, none⟩ = some (.int .i64 a.s) := cel_below hb (cell_alloc _ (by rw [World.cell?_alloc_at _ _ _ _ (by simp)]; rfl))
  have aq1 : w1.cell? ⟨w.heap.size, 1, none⟩ = some (.int .i64 a.k) := cel_below hb (cell_alloc _ (by rw [World.cell?_alloc_at _ _ _ _ (by simp)]; rfl))
  have aq2 : w1.cell? ⟨w.heap.size, 2, none⟩ = some (.int .i64 a.a) := cel_below hb (cell_alloc _ (by rw [World.cell?_alloc_at _ _ _ _ (by simp)]; rfl))
  have z0 : w.heap.size < w1.heap.size := by omega
  have bq0 : w1.cell? ⟨w.heap.size + 1, 0, none⟩ = some (.int .i64 b.s) := cel_below hb (by rw [World.cell?_alloc_at _ _ _ _ (by simp)]; rfl)
  have bq1 : w1.cell? ⟨w.heap.size + 1, 1, none⟩ = some (.int .i64 b.k) := cel_below hb (by rw [World.cell?_alloc_at _ _ _ _ (by simp)]; rfl)
  have bq2 : w1.cell? ⟨w.heap.size + 1, 2, none⟩ = some (.int .i64 b.a) := cel_below hb (by rw [World.cell?_alloc_at _ _ _ _ (by simp)]; rfl)
  have z1 : w.heap.size + 1 < w1.heap.size := by omega
  clear hb zz
  go_wp2_with fail
  ((with_reducible refine (HC.out _).mono ?_); rintro e w2 ⟨rfl, hb⟩)
  replace HW := Lib.hid (below_step HW.out (hb))
  have zz : w1.heap.size + 0 ≤ w2.heap.size := by have := hb.size; (try simp at this); omega
  replace aq0 : w2.cell? ⟨w.heap.size, 0, none⟩ = some (.int .i64 a.s) := cel_below hb (aq0)
  replace aq1 : w2.cell? ⟨w.heap.size, 1, none⟩ = some (.int .i64 a.k) := cel_below hb (aq1)
  replace aq2 : w2.cell? ⟨w.heap.size, 2, none⟩ = some (.int .i64 a.a) := cel_below hb (aq2)
  replace bq0 : w2.cell? ⟨w.heap.size + 1, 0, none⟩ = some (.int .i64 b.s) := cel_below hb (bq0)
  replace bq1 : w2.cell? ⟨w.heap.size + 1, 1, none⟩ = some (.int .i64 b.k) := cel_below hb (bq1)
  replace bq2 : w2.cell? ⟨w.heap.size + 1, 2, none⟩ = some (.int .i64 b.a) := cel_below hb (bq2)
  replace z0 : w.heap.size < w2.heap.size := by omega
  replace z1 : w.heap.size + 1 < w2.heap.size := by omega
  clear hb zz
  go_wp2_with fail
  ((with_reducible refine (HD.out _).mono ?_); rintro e w3 ⟨rfl, hb⟩)
  replace HW := Lib.hid (below_step HW.out (hb))
  have zz : w2.heap.size + 0 ≤ w3.heap.size := by have := hb.size; (try simp at this); omega
  replace aq0 : w3.cell? ⟨w.heap.size, 0, none⟩ = some (.int .i64 a.s) := cel_below hb (aq0)
  replace aq1 : w3.cell? ⟨w.heap.size, 1, none⟩ = some (.int .i64 a.k) := cel_below hb (aq1)
  replace aq2 : w3.cell? ⟨w.heap.size, 2, none⟩ = some (.int .i64 a.a) := cel_below hb (aq2)
  replace bq0 : w3.cell? ⟨w.heap.size + 1, 0, none⟩ = some (.int .i64 b.s) := cel_below hb (bq0)
  replace bq1 : w3.cell? ⟨w.heap.size + 1, 1, none⟩ = some (.int .i64 b.k) := cel_below hb (bq1)
  replace bq2 : w3.cell? ⟨w.heap.size + 1, 2, none⟩ = some (.int .i64 b.a) := cel_below hb (bq2)
  replace z0 : w.heap.size < w3.heap.size := by omega
  replace z1 : w.heap.size + 1 < w3.heap.size := by omega
  clear hb zz
  go_wp2
  go_ret
  exact ⟨rfl, HW.out⟩
set_option maxHeartbeats 4000000 in
set_option maxRecDepth 100000 in
theorem walk_321t (w : World) (k : Int) (hk : 0 ≤ k ∧ k ≤ 255) (a b : Ct) (hm : k % 4 = 3) (he : ¬a.s = b.s) (h1 : chooseD 3 a b = 2) (h2 : chooseD 3 b a = 1) (ha : a.a < 2) : Calls Try.prog 10 #[.int .u8 k, a.v, b.v] w fun e w' => e = .returned (.bool true) ∧ Below w.heap.size w w' := by
  have hq : (a.s == b.s) = false := by simp [he]
  have HC : Hid (∀ w, Calls Try.prog 30 #[.int .i64 3, a.v, b.v] w fun e w' => e = .returned (.int .i64 2) ∧ Below w.heap.size w w') := Lib.hid (fun w => by have := choose_any 3 a b w; rwa [h1] at this)
  have HD : Hid (∀ w, Calls Try.prog 30 #[.int .i64 3, b.v, a.v] w fun e w' => e = .returned (.int .i64 1) ∧ Below w.heap.size w w') := Lib.hid (fun w => by have := choose_any 3 b a w; rwa [h2] at this)
  have hm2 : k.tmod 4 = 3 := by rw [Int.tmod_eq_emod_of_nonneg hk.1]; exact hm
  have d1 : decide (a.a < 2) = true := by simp; omega
  clear he h1 h2 hm hk ha
  unfold Ct.v at HC HD ⊢
  go_enter Try.func10, Try.ntmps10
  go_wp2_with fail
  ((with_reducible refine (sane17_any _).mono ?_); rintro e w1 ⟨rfl, hb⟩)
  have HW := Lib.hid (below_alloc2 hb)
  have zz : w.heap.size + 2 ≤ w1.heap.size := by have := hb.size; (try simp at this); omega
  have aq0 : w1.cell? ⟨w.heap.size, 0, none⟩ = some (.int .i64 a.s) := cel_below hb (cell_alloc _ (by rw [World.cell?_alloc_at _ _ _ _ (by simp)]; rfl))
  have aq1 : w1.cell? ⟨w.heap.size, 1, none⟩ = some (.int .i64 a.k) := cel_below hb (cell_alloc _ (by rw [World.cell?_alloc_at _ _ _ _ (by simp)]; rfl))
  have aq2 : w1.cell? ⟨w.heap.size, 2, none⟩ = some (.int .i64 a.a) := cel_below hb (cell_alloc _ (by rw [World.cell?_alloc_at _ _ _ _ (by simp)]; rfl))
  have z0 : w.heap.size < w1.heap.size := by omega
  have bq0 : w1.cell? ⟨w.heap.size + 1, 0, none⟩ = some (.int .i64 b.s) := cel_below hb (by rw [World.cell?_alloc_at _ _ _ _ (by simp)]; rfl)
  have bq1 : w1.cell? ⟨w.heap.size + 1, 1, none⟩ = some (.int .i64 b.k) := cel_below hb (by rw [World.cell?_alloc_at _ _ _ _ (by simp)]; rfl)
  have bq2 : w1.cell? ⟨w.heap.size + 1, 2, none⟩ = some (.int .i64 b.a) := cel_below hb (by rw [World.cell?_alloc_at _ _ _ _ (by simp)]; rfl)
  have z1 : w.heap.size + 1 < w1.heap.size := by omega
  clear hb zz
  go_wp2_with fail
  ((with_reducible refine (HC.out _).mono ?_); rintro e w2 ⟨rfl, hb⟩)
  replace HW := Lib.hid (below_step HW.out (hb))
  have zz : w1.heap.size + 0 ≤ w2.heap.size := by have := hb.size; (try simp at this); omega
  replace aq0 : w2.cell? ⟨w.heap.size, 0, none⟩ = some (.int .i64 a.s) := cel_below hb (aq0)
  replace aq1 : w2.cell? ⟨w.heap.size, 1, none⟩ = some (.int .i64 a.k) := cel_below hb (aq1)
  replace aq2 : w2.cell? ⟨w.heap.size, 2, none⟩ = some (.int .i64 a.a) := cel_below hb (aq2)
  replace bq0 : w2.cell? ⟨w.heap.size + 1, 0, none⟩ = some (.int .i64 b.s) := cel_below hb (bq0)
  replace bq1 : w2.cell? ⟨w.heap.size + 1, 1, none⟩ = some (.int .i64 b.k) := cel_below hb (bq1)
  replace bq2 : w2.cell? ⟨w.heap.size + 1, 2, none⟩ = some (.int .i64 b.a) := cel_below hb (bq2)
  replace z0 : w.heap.size < w2.heap.size := by omega
  replace z1 : w.heap.size + 1 < w2.heap.size := by omega
  clear hb zz
  go_wp2_with fail
  ((with_reducible refine (HD.out _).mono ?_); rintro e w3 ⟨rfl, hb⟩)
  replace HW := Lib.hid (below_step HW.out (hb))
  have zz : w2.heap.size + 0 ≤ w3.heap.size := by have := hb.size; (try simp at this); omega
  replace aq0 : w3.cell? ⟨w.heap.size, 0, none⟩ = some (.int .i64 a.s) := cel_below hb (aq0)
  replace aq1 : w3.cell? ⟨w.heap.size, 1, none⟩ = some (.int .i64 a.k) := cel_below hb (aq1)
  replace aq2 : w3.cell? ⟨w.heap.size, 2, none⟩ = some (.int .i64 a.a) := cel_below hb (aq2)
  replace bq0 : w3.cell? ⟨w.heap.size + 1, 0, none⟩ = some (.int .i64 b.s) := cel_below hb (bq0)
  replace bq1 : w3.cell? ⟨w.heap.size + 1, 1, none⟩ = some (.int .i64 b.k) := cel_below hb (bq1)
  replace bq2 : w3.cell? ⟨w.heap.size + 1, 2, none⟩ = some (.int .i64 b.a) := cel_below hb (bq2)
  replace z0 : w.heap.size < w3.heap.size := by omega
  replace z1 : w.heap.size + 1 < w3.heap.size := by omega
  clear hb zz
  go_wp2
  go_ret
  exact ⟨rfl, HW.out⟩
set_option maxHeartbeats 4000000 in
set_option maxRecDepth 100000 in
theorem walk_321ft (w : World) (k : Int) (hk : 0 ≤ k ∧ k ≤ 255) (a b : Ct) (hm : k % 4 = 3) (he : ¬a.s = b.s) (h1 : chooseD 3 a b = 2) (h2 : chooseD 3 b a = 1) (ha : ¬a.a < 2) (hb2 : b.a < 2) : Calls Try.prog 10 #[.int .u8 k, a.v, b.v] w fun e w' => e = .returned (.bool true) ∧ Below w.heap.size w w' := by
  have hq : (a.s == b.s) = false := by simp [he]
  have HC : Hid (∀ w, Calls Try.prog 30 #[.int .i64 3, a.v, b.v] w fun e w' => e = .returned (.int .i64 2) ∧ Below w.heap.size w w') := Lib.hid (fun w => by have := choose_any 3 a b w; rwa [h1] at this)
  have HD : Hid (∀ w, Calls Try.prog 30 #[.int .i64 3, b.v, a.v] w fun e w' => e = .returned (.int .i64 1) ∧ Below w.heap.size w w') := Lib.hid (fun w => by have := choose_any 3 b a w; rwa [h2] at this)
  have hm2 : k.tmod 4 = 3 := by rw [Int.tmod_eq_emod_of_nonneg hk.1]; exact hm
  have d1 : decide (a.a < 2) = false := by simp; omega
  have d2 : decide (b.a < 2) = true := by simp; omega
  clear he h1 h2 hm hk ha hb2
  unfold Ct.v at HC HD ⊢
  go_enter Try.func10, Try.ntmps10
  go_wp2_with fail
  ((with_reducible refine (sane17_any _).mono ?_); rintro e w1 ⟨rfl, hb⟩)
  have HW := Lib.hid (below_alloc2 hb)
  have zz : w.heap.size + 2 ≤ w1.heap.size := by have := hb.size; (try simp at this); omega
  have aq0 : w1.cell? ⟨w.heap.size, 0, none⟩ = some (.int .i64 a.s) := cel_below hb (cell_alloc _ (by rw [World.cell?_alloc_at _ _ _ _ (by simp)]; rfl))
  have aq1 : w1.cell? ⟨w.heap.size, 1, none⟩ = some (.int .i64 a.k) := cel_below hb (cell_alloc _ (by rw [World.cell?_alloc_at _ _ _ _ (by simp)]; rfl))
  have aq2 : w1.cell? ⟨w.heap.size, 2, none⟩ = some (.int .i64 a.a) := cel_below hb (cell_alloc _ (by rw [World.cell?_alloc_at _ _ _ _ (by simp)]; rfl))
  have z0 : w.heap.size < w1.heap.size := by omega
  have bq0 : w1.cell? ⟨w.heap.size + 1, 0, none⟩ = some (.int .i64 b.s) := cel_below hb (by rw [World.cell?_alloc_at _ _ _ _ (by simp)]; rfl)
  have bq1 : w1.cell? ⟨w.heap.size + 1, 1, none⟩ = some (.int .i64 b.k) := cel_below hb (by rw [World.cell?_alloc_at _ _ _ _ (by simp)]; rfl)
  have bq2 : w1.cell? ⟨w.heap.size + 1, 2, none⟩ = some (.int .i64 b.a) := cel_below hb (by rw [World.cell?_alloc_at _ _ _ _ (by simp)]; rfl)
  have z1 : w.heap.size + 1 < w1.heap.size := by omega
  clear hb zz
  go_wp2_with fail
  ((with_reducible refine (HC.out _).mono ?_); rintro e w2 ⟨rfl, hb⟩)
  replace HW := Lib.hid (below_step HW.out (hb))
  have zz : w1.heap.size + 0 ≤ w2.heap.size := by have := hb.size; (try simp at this); omega
  replace aq0 : w2.cell? ⟨w.heap.size, 0, none⟩ = some (.int .i64 a.s) := cel_below hb (aq0)
  replace aq1 : w2.cell? ⟨w.heap.size, 1, none⟩ = some (.int .i64 a.k) := cel_below hb (aq1)
  replace aq2 : w2.cell? ⟨w.heap.size, 2, none⟩ = some (.int .i64 a.a) := cel_below hb (aq2)
  replace bq0 : w2.cell? ⟨w.heap.size + 1, 0, none⟩ = some (.int .i64 b.s) := cel_below hb (bq0)
  replace bq1 : w2.cell? ⟨w.heap.size + 1, 1, none⟩ = some (.int .i64 b.k) := cel_below hb (bq1)
  replace bq2 : w2.cell? ⟨w.heap.size + 1, 2, none⟩ = some (.int .i64 b.a) := cel_below hb (bq2)
  replace z0 : w.heap.size < w2.heap.size := by omega
  replace z1 : w.heap.size + 1 < w2.heap.size := by omega
  clear hb zz
  go_wp2_with fail
  ((with_reducible refine (HD.out _).mono ?_); rintro e w3 ⟨rfl, hb⟩)
  replace HW := Lib.hid (below_step HW.out (hb))
  have zz : w2.heap.size + 0 ≤ w3.heap.size := by have := hb.size; (try simp at this); omega
  replace aq0 : w3.cell? ⟨w.heap.size, 0, none⟩ = some (.int .i64 a.s) := cel_below hb (aq0)
  replace aq1 : w3.cell? ⟨w.heap.size, 1, none⟩ = some (.int .i64 a.k) := cel_below hb (aq1)
  replace aq2 : w3.cell? ⟨w.heap.size, 2, none⟩ = some (.int .i64 a.a) := cel_below hb (aq2)
  replace bq0 : w3.cell? ⟨w.heap.size + 1, 0, none⟩ = some (.int .i64 b.s) := cel_below hb (bq0)
  replace bq1 : w3.cell? ⟨w.heap.size + 1, 1, none⟩ = some (.int .i64 b.k) := cel_below hb (bq1)
  replace bq2 : w3.cell? ⟨w.heap.size + 1, 2, none⟩ = some (.int .i64 b.a) := cel_below hb (bq2)
  replace z0 : w.heap.size < w3.heap.size := by omega
  replace z1 : w.heap.size + 1 < w3.heap.size := by omega
  clear hb zz
  go_wp2
  go_ret
  exact ⟨rfl, HW.out⟩
set_option maxHeartbeats 4000000 in
set_option maxRecDepth 100000 in
theorem walk_321ff (w : World) (k : Int) (hk : 0 ≤ k ∧ k ≤ 255) (a b : Ct) (hm : k % 4 = 3) (he : ¬a.s = b.s) (h1 : chooseD 3 a b = 2) (h2 : chooseD 3 b a = 1) (ha : ¬a.a < 2) (hb2 : ¬b.a < 2) : Calls Try.prog 10 #[.int .u8 k, a.v, b.v] w fun e w' => e = .returned (.bool true) ∧ Below w.heap.size w w' := by
  have hq : (a.s == b.s) = false := by simp [he]
  have HC : Hid (∀ w, Calls Try.prog 30 #[.int .i64 3, a.v, b.v] w fun e w' => e = .returned (.int .i64 2) ∧ Below w.heap.size w w') := Lib.hid (fun w => by have := choose_any 3 a b w; rwa [h1] at this)
  have HD : Hid (∀ w, Calls Try.prog 30 #[.int .i64 3, b.v, a.v] w fun e w' => e = .returned (.int .i64 1) ∧ Below w.heap.size w w') := Lib.hid (fun w => by have := choose_any 3 b a w; rwa [h2] at this)
  have hm2 : k.tmod 4 = 3 := by rw [Int.tmod_eq_emod_of_nonneg hk.1]; exact hm
  have d1 : decide (a.a < 2) = false := by simp; omega
  have d2 : decide (b.a < 2) = false := by simp; omega
  clear he h1 h2 hm hk ha hb2
  unfold Ct.v at HC HD ⊢
  go_enter Try.func10, Try.ntmps10
  go_wp2_with fail
  ((with_reducible refine (sane17_any _).mono ?_); rintro e w1 ⟨rfl, hb⟩)
  have HW := Lib.hid (below_alloc2 hb)
  have zz : w.heap.size + 2 ≤ w1.heap.size := by have := hb.size; (try simp at this); omega
  have aq0 : w1.cell? ⟨w.heap.size, 0, none⟩ = some (.int .i64 a.s) := cel_below hb (cell_alloc _ (by rw [World.cell?_alloc_at _ _ _ _ (by simp)]; rfl))
  have aq1 : w1.cell? ⟨w.heap.size, 1, none⟩ = some (.int .i64 a.k) := cel_below hb (cell_alloc _ (by rw [World.cell?_alloc_at _ _ _ _ (by simp)]; rfl))
  have aq2 : w1.cell? ⟨w.heap.size, 2, none⟩ = some (.int .i64 a.a) := cel_below hb (cell_alloc _ (by rw [World.cell?_alloc_at _ _ _ _ (by simp)]; rfl))
  have z0 : w.heap.size < w1.heap.size := by omega
  have bq0 : w1.cell? ⟨w.heap.size + 1, 0, none⟩ = some (.int .i64 b.s) := cel_below hb (by rw [World.cell?_alloc_at _ _ _ _ (by simp)]; rfl)
  have bq1 : w1.cell? ⟨w.heap.size + 1, 1, none⟩ = some (.int .i64 b.k) := cel_below hb (by rw [World.cell?_alloc_at _ _ _ _ (by simp)]; rfl)
  have bq2 : w1.cell? ⟨w.heap.size + 1, 2, none⟩ = some (.int .i64 b.a) := cel_below hb (by rw [World.cell?_alloc_at _ _ _ _ (by simp)]; rfl)
  have z1 : w.heap.size + 1 < w1.heap.size := by omega
  clear hb zz
  go_wp2_with fail
  ((with_reducible refine (HC.out _).mono ?_); rintro e w2 ⟨rfl, hb⟩)
  replace HW := Lib.hid (below_step HW.out (hb))
  have zz : w1.heap.size + 0 ≤ w2.heap.size := by have := hb.size; (try simp at this); omega
  replace aq0 : w2.cell? ⟨w.heap.size, 0, none⟩ = some (.int .i64 a.s) := cel_below hb (aq0)
  replace aq1 : w2.cell? ⟨w.heap.size, 1, none⟩ = some (.int .i64 a.k) := cel_below hb (aq1)
  replace aq2 : w2.cell? ⟨w.heap.size, 2, none⟩ = some (.int .i64 a.a) := cel_below hb (aq2)
  replace bq0 : w2.cell? ⟨w.heap.size + 1, 0, none⟩ = some (.int .i64 b.s) := cel_below hb (bq0)
  replace bq1 : w2.cell? ⟨w.heap.size + 1, 1, none⟩ = some (.int .i64 b.k) := cel_below hb (bq1)
  replace bq2 : w2.cell? ⟨w.heap.size + 1, 2, none⟩ = some (.int .i64 b.a) := cel_below hb (bq2)
  replace z0 : w.heap.size < w2.heap.size := by omega
  replace z1 : w.heap.size + 1 < w2.heap.size := by omega
  clear hb zz
  go_wp2_with fail
  ((with_reducible refine (HD.out _).mono ?_); rintro e w3 ⟨rfl, hb⟩)
  replace HW := Lib.hid (below_step HW.out (hb))
  have zz : w2.heap.size + 0 ≤ w3.heap.size := by have := hb.size; (try simp at this); omega
  replace aq0 : w3.cell? ⟨w.heap.size, 0, none⟩ = some (.int .i64 a.s) := cel_below hb (aq0)
  replace aq1 : w3.cell? ⟨w.heap.size, 1, none⟩ = some (.int .i64 a.k) := cel_below hb (aq1)
  replace aq2 : w3.cell? ⟨w.heap.size, 2, none⟩ = some (.int .i64 a.a) := cel_below hb (aq2)
  replace bq0 : w3.cell? ⟨w.heap.size + 1, 0, none⟩ = some (.int .i64 b.s) := cel_below hb (bq0)
  replace bq1 : w3.cell? ⟨w.heap.size + 1, 1, none⟩ = some (.int .i64 b.k) := cel_below hb (bq1)
  replace bq2 : w3.cell? ⟨w.heap.size + 1, 2, none⟩ = some (.int .i64 b.a) := cel_below hb (bq2)
  replace z0 : w.heap.size < w3.heap.size := by omega
  replace z1 : w.heap.size + 1 < w3.heap.size := by omega
  clear hb zz
  go_wp2
  go_ret
  exact ⟨rfl, HW.out⟩
set_option maxHeartbeats 4000000 in
set_option maxRecDepth 100000 in
theorem walk_312t (w : World) (k : Int) (hk : 0 ≤ k ∧ k ≤ 255) (a b : Ct) (hm : k % 4 = 3) (he : ¬a.s = b.s) (h1 : chooseD 3 a b = 1) (h2 : chooseD 3 b a = 2) (ha : a.a < 2) : Calls Try.prog 10 #[.int .u8 k, a.v, b.v] w fun e w' => e = .returned (.bool true) ∧ Below w.heap.size w w' := by
  have hq : (a.s == b.s) = false := by simp [he]
  have HC : Hid (∀ w, Calls Try.prog 30 #[.int .i64 3, a.v, b.v] w fun e w' => e = .returned (.int .i64 1) ∧ Below w.heap.size w w') := Lib.hid (fun w => by have := choose_any 3 a b w; rwa [h1] at this)
  have HD : Hid (∀ w, Calls Try.prog 30 #[.int .i64 3, b.v, a.v] w fun e w' => e = .returned (.int .i64 2) ∧ Below w.heap.size w w') := Lib.hid (fun w => by have := choose_any 3 b a w; rwa [h2] at this)
  have hm2 : k.tmod 4 = 3 := by rw [Int.tmod_eq_emod_of_nonneg hk.1]; exact hm
  have d1 : decide (a.a < 2) = true := by simp; omega
  clear he h1 h2 hm hk ha
  unfold Ct.v at HC HD ⊢
  go_enter Try.func10, Try.ntmps10
  go_wp2_with fail
  ((with_reducible refine (sane17_any _).mono ?_); rintro e w1 ⟨rfl, hb⟩)
  have HW := Lib.hid (below_alloc2 hb)
  have zz : w.heap.size + 2 ≤ w1.heap.size := by have := hb.size; (try simp at this); omega
  have aq0 : w1.cell? ⟨w.heap.size, 0, none⟩ = some (.int .i64 a.s) := cel_below hb (cell_alloc _ (by rw [World.cell?_alloc_at _ _ _ _ (by simp)]; rfl))
  have aq1 : w1.cell? ⟨w.heap.size, 1, none⟩ = some (.int .i64 a.k) := cel_below hb (cell_alloc _ (by rw [World.cell?_alloc_at _ _ _ _ (by simp)]; rfl))
  have aq2 : w1.cell? ⟨w.heap.size, 2, none⟩ = some (.int .i64 a.a) := cel_below hb (cell_alloc _ (by rw [World.cell?_alloc_at _ _ _ _ (by simp)]; rfl))
  have z0 : w.heap.size < w1.heap.size := by omega
  have bq0 : w1.cell? ⟨w.heap.size + 1, 0, none⟩ = some (.int .i64 b.s) := cel_below hb (by rw [World.cell?_alloc_at _ _ _ _ (by simp)]; rfl)
  have bq1 : w1.cell? ⟨w.heap.size + 1, 1, none⟩ = some (.int .i64 b.k) := cel_below hb (by rw [World.cell?_alloc_at _ _ _ _ (by simp)]; rfl)
  have bq2 : w1.cell? ⟨w.heap.size + 1, 2, none⟩ = some (.int .i64 b.a) := cel_below hb (by rw [World.cell?_alloc_at _ _ _ _ (by simp)]; rfl)
  have z1 : w.heap.size + 1 < w1.heap.size := by omega
  clear hb zz
  go_wp2_with fail
  ((with_reducible refine (HC.out _).mono ?_); rintro e w2 ⟨rfl, hb⟩)
  replace HW := Lib.hid (below_step HW.out (hb))
  have zz : w1.heap.size + 0 ≤ w2.heap.size := by have := hb.size; (try simp at this); omega
  replace aq0 : w2.cell? ⟨w.heap.size, 0, none⟩ = some (.int .i64 a.s) := cel_below hb (aq0)
  replace aq1 : w2.cell? ⟨w.heap.size, 1, none⟩ = some (.int .i64 a.k) := cel_below hb (aq1)
  replace aq2 : w2.cell? ⟨w.heap.size, 2, none⟩ = some (.int .i64 a.a) := cel_below hb (aq2)
  replace bq0 : w2.cell? ⟨w.heap.size + 1, 0, none⟩ = some (.int .i64 b.s) := cel_below hb (bq0)
  replace bq1 : w2.cell? ⟨w.heap.size + 1, 1, none⟩ = some (.int .i64 b.k) := cel_below hb (bq1)
  replace bq2 : w2.cell? ⟨w.heap.size + 1, 2, none⟩ = some (.int .i64 b.a) := cel_below hb (bq2)
  replace z0 : w.heap.size < w2.heap.size := by omega
  replace z1 : w.heap.size + 1 < w2.heap.size := by omega
  clear hb zz
  go_wp2_with fail
  ((with_reducible refine (HD.out _).mono ?_); rintro e w3 ⟨rfl, hb⟩)
  replace HW := Lib.hid (below_step HW.out (hb))
  have zz : w2.heap.size + 0 ≤ w3.heap.size := by have := hb.size; (try simp at this); omega
  replace aq0 : w3.cell? ⟨w.heap.size, 0, none⟩ = some (.int .i64 a.s) := cel_below hb (aq0)
  replace aq1 : w3.cell? ⟨w.heap.size, 1, none⟩ = some (.int .i64 a.k) := cel_below hb (aq1)
  replace aq2 : w3.cell? ⟨w.heap.size, 2, none⟩ = some (.int .i64 a.a) := cel_below hb (aq2)
  replace bq0 : w3.cell? ⟨w.heap.size + 1, 0, none⟩ = some (.int .i64 b.s) := cel_below hb (bq0)
  replace bq1 : w3.cell? ⟨w.heap.size + 1, 1, none⟩ = some (.int .i64 b.k) := cel_below hb (bq1)
  replace bq2 : w3.cell? ⟨w.heap.size + 1, 2, none⟩ = some (.int .i64 b.a) := cel_below hb (bq2)
  replace z0 : w.heap.size < w3.heap.size := by omega
  replace z1 : w.heap.size + 1 < w3.heap.size := by omega
  clear hb zz
  go_wp2
  go_ret
  exact ⟨rfl, HW.out⟩
set_option maxHeartbeats 4000000 in
set_option maxRecDepth 100000 in
theorem walk_312ft (w : World) (k : Int) (hk : 0 ≤ k ∧ k ≤ 255) (a b : Ct) (hm : k % 4 = 3) (he : ¬a.s = b.s) (h1 : chooseD 3 a b = 1) (h2 : chooseD 3 b a = 2) (ha : ¬a.a < 2) (hb2 : b.a < 2) : Calls Try.prog 10 #[.int .u8 k, a.v, b.v] w fun e w' => e = .returned (.bool true) ∧ Below w.heap.size w w' := by
  have hq : (a.s == b.s) = false := by simp [he]
  have HC : Hid (∀ w, Calls Try.prog 30 #[.int .i64 3, a.v, b.v] w fun e w' => e = .returned (.int .i64 1) ∧ Below w.heap.size w w') := Lib.hid (fun w => by have := choose_any 3 a b w; rwa [h1] at this)
  have HD : Hid (∀ w, Calls Try.prog 30 #[.int .i64 3, b.v, a.v] w fun e w' => e = .returned (.int .i64 2) ∧ Below w.heap.size w w') := Lib.hid (fun w => by have := choose_any 3 b a w; rwa [h2] at this)
  have hm2 : k.tmod 4 = 3 := by rw [Int.tmod_eq_emod_of_nonneg hk.1]; exact hm
  have d1 : decide (a.a < 2) = false := by simp; omega
  have d2 : decide (b.a < 2) = true := by simp; omega
  clear he h1 h2 hm hk ha hb2
  unfold Ct.v at HC HD ⊢
  go_enter Try.func10, Try.ntmps10
  go_wp2_with fail
  ((with_reducible refine (sane17_any _).mono ?_); rintro e w1 ⟨rfl, hb⟩)
  have HW := Lib.hid (below_alloc2 hb)
  have zz : w.heap.size + 2 ≤ w1.heap.size := by have := hb.size; (try simp at this); omega
  have aq0 : w1.cell? ⟨w.heap.size, 0, none⟩ = some (.int .i64 a.s) := cel_below hb (cell_alloc _ (by rw [World.cell?_alloc_at _ _ _ _ (by simp)]; rfl))
  have aq1 : w1.cell? ⟨w.heap.size, 1, none⟩ = some (.int .i64 a.k) := cel_below hb (cell_alloc _ (by rw [World.cell?_alloc_at _ _ _ _ (by simp)]; rfl))
  have aq2 : w1.cell? ⟨w.heap.size, 2, none⟩ = some (.int .i64 a.a) := cel_below hb (cell_alloc _ (by rw [World.cell?_alloc_at _ _ _ _ (by simp)]; rfl))
  have z0 : w.heap.size < w1.heap.size := by omega
  have bq0 : w1.cell? ⟨w.heap.size + 1, 0, none⟩ = some (.int .i64 b.s) := cel_below hb (by rw [World.cell?_alloc_at _ _ _ _ (by simp)]; rfl)
  have bq1 : w1.cell? ⟨w.heap.size + 1, 1, none⟩ = some (.int .i64 b.k) := cel_below hb (by rw [World.cell?_alloc_at _ _ _ _ (by simp)]; rfl)
  have bq2 : w1.cell? ⟨w.heap.size + 1, 2, none⟩ = some (.int .i64 b.a) := cel_below hb (by rw [World.cell?_alloc_at _ _ _ _ (by simp)]; rfl)
  have z1 : w.heap.size + 1 < w1.heap.size := by omega
  clear hb zz
  go_wp2_with fail
  ((with_reducible refine (HC.out _).mono ?_); rintro e w2 ⟨rfl, hb⟩)
  replace HW := Lib.hid (below_step HW.out (hb))
  have zz : w1.heap.size + 0 ≤ w2.heap.size := by have := hb.size; (try simp at this); omega
  replace aq0 : w2.cell? ⟨w.heap.size, 0, none⟩ = some (.int .i64 a.s) := cel_below hb (aq0)
  replace aq1 : w2.cell? ⟨w.heap.size, 1, none⟩ = some (.int .i64 a.k) := cel_below hb (aq1)
  replace aq2 : w2.cell? ⟨w.heap.size, 2, none⟩ = some (.int .i64 a.a) := cel_below hb (aq2)
  replace bq0 : w2.cell? ⟨w.heap.size + 1, 0, none⟩ = some (.int .i64 b.s) := cel_below hb (bq0)
  replace bq1 : w2.cell? ⟨w.heap.size + 1, 1, none⟩ = some (.int .i64 b.k) := cel_below hb (bq1)
  replace bq2 : w2.cell? ⟨w.heap.size + 1, 2, none⟩ = some (.int .i64 b.a) := cel_below hb (bq2)
  replace z0 : w.heap.size < w2.heap.size := by omega
  replace z1 : w.heap.size + 1 < w2.heap.size := by omega
  clear hb zz
  go_wp2_with fail
  ((with_reducible refine (HD.out _).mono ?_); rintro e w3 ⟨rfl, hb⟩)
  replace HW := Lib.hid (below_step HW.out (hb))
  have zz : w2.heap.size + 0 ≤ w3.heap.size := by have := hb.size; (try simp at this); omega
  replace aq0 : w3.cell? ⟨w.heap.size, 0, none⟩ = some (.int .i64 a.s) := cel_below hb (aq0)
  replace aq1 : w3.cell? ⟨w.heap.size, 1, none⟩ = some (.int .i64 a.k) := cel_below hb (aq1)
  replace aq2 : w3.cell? ⟨w.heap.size, 2, none⟩ = some (.int .i64 a.a) := cel_below hb (aq2)
  replace bq0 : w3.cell? ⟨w.heap.size + 1, 0, none⟩ = some (.int .i64 b.s) := cel_below hb (bq0)
  replace bq1 : w3.cell? ⟨w.heap.size + 1, 1, none⟩ = some (.int .i64 b.k) := cel_below hb (bq1)
  replace bq2 : w3.cell? ⟨w.heap.size + 1, 2, none⟩ = some (.int .i64 b.a) := cel_below hb (bq2)
  replace z0 : w.heap.size < w3.heap.size := by omega
  replace z1 : w.heap.size + 1 < w3.heap.size := by omega
  clear hb zz
  go_wp2
  go_ret
  exact ⟨rfl, HW.out⟩
set_option maxHeartbeats 4000000 in
set_option maxRecDepth 100000 in
theorem walk_312ff (w : World) (k : Int) (hk : 0 ≤ k ∧ k ≤ 255) (a b : Ct) (hm : k % 4 = 3) (he : ¬a.s = b.s) (h1 : chooseD 3 a b = 1) (h2 : chooseD 3 b a = 2) (ha : ¬a.a < 2) (hb2 : ¬b.a < 2) : Calls Try.prog 10 #[.int .u8 k, a.v, b.v] w fun e w' => e = .returned (.bool true) ∧ Below w.heap.size w w' := by
  have hq : (a.s == b.s) = false := by simp [he]
  have HC : Hid (∀ w, Calls Try.prog 30 #[.int .i64 3, a.v, b.v] w fun e w' => e = .returned (.int .i64 1) ∧ Below w.heap.size w w') := Lib.hid (fun w => by have := choose_any 3 a b w; rwa [h1] at this)
  have HD : Hid (∀ w, Calls Try.prog 30 #[.int .i64 3, b.v, a.v] w fun e w' => e = .returned (.int .i64 2) ∧ Below w.heap.size w w') := Lib.hid (fun w => by have := choose_any 3 b a w; rwa [h2] at this)
  have hm2 : k.tmod 4 = 3 := by rw [Int.tmod_eq_emod_of_nonneg hk.1]; exact hm
  have d1 : decide (a.a < 2) = false := by simp; omega
  have d2 : decide (b.a < 2) = false := by simp; omega
  clear he h1 h2 hm hk ha hb2
  unfold Ct.v at HC HD ⊢
  go_enter Try.func10, Try.ntmps10
  go_wp2_with fail
  ((with_reducible refine (sane17_any _).mono ?_); rintro e w1 ⟨rfl, hb⟩)
  have HW := Lib.hid (below_alloc2 hb)
  have zz : w.heap.size + 2 ≤ w1.heap.size := by have := hb.size; (try simp at this); omega
  have aq0 : w1.cell? ⟨w.heap.size, 0, none⟩ = some (.int .i64 a.s) := cel_below hb (cell_alloc _ (by rw [World.cell?_alloc_at _ _ _ _ (by simp)]; rfl))
  have aq1 : w1.cell? ⟨w.heap.size, 1, none⟩ = some (.int .i64 a.k) := cel_below hb (cell_alloc _ (by rw [World.cell?_alloc_at _ _ _ _ (by simp)]; rfl))
  have aq2 : w1.cell? ⟨w.heap.size, 2, none⟩ = some (.int .i64 a.a) := cel_below hb (cell_alloc _ (by rw [World.cell?_alloc_at _ _ _ _ (by simp)]; rfl))
  have z0 : w.heap.size < w1.heap.size := by omega
  have bq0 : w1.cell? ⟨w.heap.size + 1, 0, none⟩ = some (.int .i64 b.s) := cel_below hb (by rw [World.cell?_alloc_at _ _ _ _ (by simp)]; rfl)
  have bq1 : w1.cell? ⟨w.heap.size + 1, 1, none⟩ = some (.int .i64 b.k) := cel_below hb (by rw [World.cell?_alloc_at _ _ _ _ (by simp)]; rfl)
  have bq2 : w1.cell? ⟨w.heap.size + 1, 2, none⟩ = some (.int .i64 b.a) := cel_below hb (by rw [World.cell?_alloc_at _ _ _ _ (by simp)]; rfl)
  have z1 : w.heap.size + 1 < w1.heap.size := by omega
  clear hb zz
  go_wp2_with fail
  ((with_reducible refine (HC.out _).mono ?_); rintro e w2 ⟨rfl, hb⟩)
  replace HW := Lib.hid (below_step HW.out (hb))
  have zz : w1.heap.size + 0 ≤ w2.heap.size := by have := hb.size; (try simp at this); omega
  replace aq0 : w2.cell? ⟨w.heap.size, 0, none⟩ = some (.int .i64 a.s) := cel_below hb (aq0)
  replace aq1 : w2.cell? ⟨w.heap.size, 1, none⟩ = some (.int .i64 a.k) := cel_below hb (aq1)
  replace aq2 : w2.cell? ⟨w.heap.size, 2, none⟩ = some (.int .i64 a.a) := cel_below hb (aq2)
  replace bq0 : w2.cell? ⟨w.heap.size + 1, 0, none⟩ = some (.int .i64 b.s) := cel_below hb (bq0)
  replace bq1 : w2.cell? ⟨w.heap.size + 1, 1, none⟩ = some (.int .i64 b.k) := cel_below hb (bq1)
  replace bq2 : w2.cell? ⟨w.heap.size + 1, 2, none⟩ = some (.int .i64 b.a) := cel_below hb (bq2)
  replace z0 : w.heap.size < w2.heap.size := by omega
  replace z1 : w.heap.size + 1 < w2.heap.size := by omega
  clear hb zz
  go_wp2_with fail
  ((with_reducible refine (HD.out _).mono ?_); rintro e w3 ⟨rfl, hb⟩)
  replace HW := Lib.hid (below_step HW.out (hb))
  have zz : w2.heap.size + 0 ≤ w3.heap.size := by have := hb.size; (try simp at this); omega
  replace aq0 : w3.cell? ⟨w.heap.size, 0, none⟩ = some (.int .i64 a.s) := cel_below hb (aq0)
  replace aq1 : w3.cell? ⟨w.heap.size, 1, none⟩ = some (.int .i64 a.k) := cel_below hb (aq1)
  replace aq2 : w3.cell? ⟨w.heap.size, 2, none⟩ = some (.int .i64 a.a) := cel_below hb (aq2)
  replace bq0 : w3.cell? ⟨w.heap.size + 1, 0, none⟩ = some (.int .i64 b.s) := cel_below hb (bq0)
  replace bq1 : w3.cell? ⟨w.heap.size + 1, 1, none⟩ = some (.int .i64 b.k) := cel_below hb (bq1)
  replace bq2 : w3.cell? ⟨w.heap.size + 1, 2, none⟩ = some (.int .i64 b.a) := cel_below hb (bq2)
  replace z0 : w.heap.size < w3.heap.size := by omega
  replace z1 : w.heap.size + 1 < w3.heap.size := by omega
  clear hb zz
  go_wp2
  go_ret
  exact ⟨rfl, HW.out⟩
set_option maxHeartbeats 4000000 in
set_option maxRecDepth 100000 in
theorem walk_311t (w : World) (k : Int) (hk : 0 ≤ k ∧ k ≤ 255) (a b : Ct) (hm : k % 4 = 3) (he : ¬a.s = b.s) (h1 : chooseD 3 a b = 1) (h2 : chooseD 3 b a = 1) (ha : a.a < 2) : Calls Try.prog 10 #[.int .u8 k, a.v, b.v] w fun e w' => e = .returned (.bool true) ∧ Below w.heap.size w w' := by
  have hq : (a.s == b.s) = false := by simp [he]
  have HC : Hid (∀ w, Calls Try.prog 30 #[.int .i64 3, a.v, b.v] w fun e w' => e = .returned (.int .i64 1) ∧ Below w.heap.size w w') := Lib.hid (fun w => by have := choose_any 3 a b w; rwa [h1] at this)
  have HD : Hid (∀ w, Calls Try.prog 30 #[.int .i64 3, b.v, a.v] w fun e w' => e = .returned (.int .i64 1) ∧ Below w.heap.size w w') := Lib.hid (fun w => by have := choose_any 3 b a w; rwa [h2] at this)
  have hm2 : k.tmod 4 = 3 := by rw [Int.tmod_eq_emod_of_nonneg hk.1]; exact hm
  have d1 : decide (a.a < 2) = true := by simp; omega
  clear he h1 h2 hm hk ha
  unfold Ct.v at HC HD ⊢
  go_enter Try.func10, Try.ntmps10
  go_wp2_with fail
  ((with_reducible refine (sane17_any _).mono ?_); rintro e w1 ⟨rfl, hb⟩)
  have HW := Lib.hid (below_alloc2 hb)
  have zz : w.heap.size + 2 ≤ w1.heap.size := by have := hb.size; (try simp at this); omega
  have aq0 : w1.cell? ⟨w.heap.size, 0, none⟩ = some (.int .i64 a.s) := cel_below hb (cell_alloc _ (by rw [World.cell?_alloc_at _ _ _ _ (by simp)]; rfl))
  have aq1 : w1.cell? ⟨w.heap.size, 1, none⟩ = some (.int .i64 a.k) := cel_below hb (cell_alloc _ (by rw [World.cell?_alloc_at _ _ _ _ (by simp)]; rfl))
  have aq2 : w1.cell? ⟨w.heap.size, 2, none⟩ = some (.int .i64 a.a) := cel_below hb (cell_alloc _ (by rw [World.cell?_alloc_at _ _ _ _ (by simp)]; rfl))
  have z0 : w.heap.size < w1.heap.size := by omega
  have bq0 : w1.cell? ⟨w.heap.size + 1, 0, none⟩ = some (.int .i64 b.s) := cel_below hb (by rw [World.cell?_alloc_at _ _ _ _ (by simp)]; rfl)
  have bq1 : w1.cell? ⟨w.heap.size + 1, 1, none⟩ = some (.int .i64 b.k) := cel_below hb (by rw [World.cell?_alloc_at _ _ _ _ (by simp)]; rfl)
  have bq2 : w1.cell? ⟨w.heap.size + 1, 2, none⟩ = some (.int .i64 b.a) := cel_below hb (by rw [World.cell?_alloc_at _ _ _ _ (by simp)]; rfl)
  have z1 : w.heap.size + 1 < w1.heap.size := by omega
  clear hb zz
  go_wp2_with fail
  ((with_reducible refine (HC.out _).mono ?_); rintro e w2 ⟨rfl, hb⟩)
  replace HW := Lib.hid (below_step HW.out (hb))
  have zz : w1.heap.size + 0 ≤ w2.heap.size := by have := hb.size; (try simp at this); omega
  replace aq0 : w2.cell? ⟨w.heap.size, 0, none⟩ = some (.int .i64 a.s) := cel_below hb (aq0)
  replace aq1 : w2.cell? ⟨w.heap.size, 1, none⟩ = some (.int .i64 a.k) := cel_below hb (aq1)
  replace aq2 : w2.cell? ⟨w.heap.size, 2, none⟩ = some (.int .i64 a.a) := cel_below hb (aq2)
  replace bq0 : w2.cell? ⟨w.heap.size + 1, 0, none⟩ = some (.int .i64 b.s) := cel_below hb (bq0)
  replace bq1 : w2.cell? ⟨w.heap.size + 1, 1, none⟩ = some (.int .i64 b.k) := cel_below hb (bq1)
  replace bq2 : w2.cell? ⟨w.heap.size + 1, 2, none⟩ = some (.int .i64 b.a) := cel_below hb (bq2)
  replace z0 : w.heap.size < w2.heap.size := by omega
  replace z1 : w.heap.size + 1 < w2.heap.size := by omega
  clear hb zz
  go_wp2_with fail
  ((with_reducible refine (HD.out _).mono ?_); rintro e w3 ⟨rfl, hb⟩)
  replace HW := Lib.hid (below_step HW.out (hb))
  have zz : w2.heap.size + 0 ≤ w3.heap.size := by have := hb.size; (try simp at this); omega
  replace aq0 : w3.cell? ⟨w.heap.size, 0, none⟩ = some (.int .i64 a.s) := cel_below hb (aq0)
  replace aq1 : w3.cell? ⟨w.heap.size, 1, none⟩ = some (.int .i64 a.k) := cel_below hb (aq1)
  replace aq2 : w3.cell? ⟨w.heap.size, 2, none⟩ = some (.int .i64 a.a) := cel_below hb (aq2)
  replace bq0 : w3.cell? ⟨w.heap.size + 1, 0, none⟩ = some (.int .i64 b.s) := cel_below hb (bq0)
  replace bq1 : w3.cell? ⟨w.heap.size + 1, 1, none⟩ = some (.int .i64 b.k) := cel_below hb (bq1)
  replace bq2 : w3.cell? ⟨w.heap.size + 1, 2, none⟩ = some (.int .i64 b.a) := cel_below hb (bq2)
  replace z0 : w.heap.size < w3.heap.size := by omega
  replace z1 : w.heap.size + 1 < w3.heap.size := by omega
  clear hb zz
  go_wp2
  go_ret
  exact ⟨rfl, HW.out⟩
set_option maxHeartbeats 4000000 in
set_option maxRecDepth 100000 in
theorem walk_311ft (w : World) (k : Int) (hk : 0 ≤ k ∧ k ≤ 255) (a b : Ct) (hm : k % 4 = 3) (he : ¬a.s = b.s) (h1 : chooseD 3 a b = 1) (h2 : chooseD 3 b a = 1) (ha : ¬a.a < 2) (hb2 : b.a < 2) : Calls Try.prog 10 #[.int .u8 k, a.v, b.v] w fun e w' => e = .returned (.bool true) ∧ Below w.heap.size w w' := by
  have hq : (a.s == b.s) = false := by simp [he]
  have HC : Hid (∀ w, Calls Try.prog 30 #[.int .i64 3, a.v, b.v] w fun e w' => e = .returned (.int .i64 1) ∧ Below w.heap.size w w') := Lib.hid (fun w => by have := choose_any 3 a b w; rwa [h1] at this)
  have HD : Hid (∀ w, Calls Try.prog 30 #[.int .i64 3, b.v, a.v] w fun e w' => e = .returned (.int .i64 1) ∧ Below w.heap.size w w') := Lib.hid (fun w => by have := choose_any 3 b a w; rwa [h2] at this)
  have hm2 : k.tmod 4 = 3 := by rw [Int.tmod_eq_emod_of_nonneg hk.1]; exact hm
  have d1 : decide (a.a < 2) = false := by simp; omega
  have d2 : decide (b.a < 2) = true := by simp; omega
  clear he h1 h2 hm hk ha hb2
  unfold Ct.v at HC HD ⊢
  go_enter Try.func10, Try.ntmps10
  go_wp2_with fail
  ((with_reducible refine (sane17_any _).mono ?_); rintro e w1 ⟨rfl, hb⟩)
  have HW := Lib.hid (below_alloc2 hb)
  have zz : w.heap.size + 2 ≤ w1.heap.size := by have := hb.size; (try simp at this); omega
  have aq0 : w1.cell? ⟨w.heap.size, 0, none⟩ = some (.int .i64 a.s) := cel_below hb (cell_alloc _ (by rw [World.cell?_alloc_at _ _ _ _ (by simp)]; rfl))
  have aq1 : w1.cell? ⟨w.heap.size, 1, none⟩ = some (.int .i64 a.k) := cel_below hb (cell_alloc _ (by rw [World.cell?_alloc_at _ _ _ _ (by simp)]; rfl))
  have aq2 : w1.cell? ⟨w.heap.size, 2, none⟩ = some (.int .i64 a.a) := cel_below hb (cell_alloc _ (by rw [World.cell?_alloc_at _ _ _ _ (by simp)]; rfl))
  have z0 : w.heap.size < w1.heap.size := by omega
  have bq0 : w1.cell? ⟨w.heap.size + 1, 0, none⟩ = some (.int .i64 b.s) := cel_below hb (by rw [World.cell?_alloc_at _ _ _ _ (by simp)]; rfl)
  have bq1 : w1.cell? ⟨w.heap.size + 1, 1, none⟩ = some (.int .i64 b.k) := cel_below hb (by rw [World.cell?_alloc_at _ _ _ _ (by simp)]; rfl)
  have bq2 : w1.cell? ⟨w.heap.size + 1, 2, none⟩ = some (.int .i64 b.a) := cel_below hb (by rw [World.cell?_alloc_at _ _ _ _ (by simp)]; rfl)
  have z1 : w.heap.size + 1 < w1.heap.size := by omega
  clear hb zz
  go_wp2_with fail
  ((with_reducible refine (HC.out _).mono ?_); rintro e w2 ⟨rfl, hb⟩)
  replace HW := Lib.hid (below_step HW.out (hb))
  have zz : w1.heap.size + 0 ≤ w2.heap.size := by have := hb.size; (try simp at this); omega
  replace aq0 : w2.cell? ⟨w.heap.size, 0, none⟩ = some (.int .i64 a.s) := cel_below hb (aq0)
  replace aq1 : w2.cell? ⟨w.heap.size, 1, none⟩ = some (.int .i64 a.k) := cel_below hb (aq1)
  replace aq2 : w2.cell? ⟨w.heap.size, 2, none⟩ = some (.int .i64 a.a) := cel_below hb (aq2)
  replace bq0 : w2.cell? ⟨w.heap.size + 1, 0, none⟩ = some (.int .i64 b.s) := cel_below hb (bq0)
  replace bq1 : w2.cell? ⟨w.heap.size + 1, 1, none⟩ = some (.int .i64 b.k) := cel_below hb (bq1)
  replace bq2 : w2.cell? ⟨w.heap.size + 1, 2, none⟩ = some (.int .i64 b.a) := cel_below hb (bq2)
  replace z0 : w.heap.size < w2.heap.size := by omega
  replace z1 : w.heap.size + 1 < w2.heap.size := by omega
  clear hb zz
  go_wp2_with fail
  ((with_reducible refine (HD.out _).mono ?_); rintro e w3 ⟨rfl, hb⟩)
  replace HW := Lib.hid (below_step HW.out (hb))
  have zz : w2.heap.size + 0 ≤ w3.heap.size := by have := hb.size; (try simp at this); omega
  replace aq0 : w3.cell? ⟨w.heap.size, 0, none⟩ = some (.int .i64 a.s) := cel_below hb (aq0)
  replace aq1 : w3.cell? ⟨w.heap.size, 1, none⟩ = some (.int .i64 a.k) := cel_below hb (aq1)
  replace aq2 : w3.cell? ⟨w.heap.size, 2, none⟩ = some (.int .i64 a.a) := cel_below hb (aq2)
  replace bq0 : w3.cell? ⟨w.heap.size + 1, 0, none⟩ = some (.int .i64 b.s) := cel_below hb (bq0)
  replace bq1 : w3.cell? ⟨w.heap.size + 1, 1, none⟩ = some (.int .i64 b.k) := cel_below hb (bq1)
  replace bq2 : w3.cell? ⟨w.heap.size + 1, 2, none⟩ = some (.int .i64 b.a) := cel_below hb (bq2)
  replace z0 : w.heap.size < w3.heap.size := by omega
  replace z1 : w.heap.size + 1 < w3.heap.size := by omega
  clear hb zz
  go_wp2
  go_ret
  exact ⟨rfl, HW.out⟩
theorem walk (w : World) (k : Int) (wk : (Lit.int .u8 k).wf = true) (a : Ct) (ia : I64 a.s) (ib : I64 a.k) (ic : I64 a.a) (b : Ct) (ja : I64 b.s) (jb : I64 b.k) (jc : I64 b.a) : Calls Try.prog 10 #[.int .u8 k, a.v, b.v] w fun e w' => e = .returned (.bool true) ∧ Below w.heap.size w w' := by
  have hk := u8_of_wf wk
  by_cases he : a.s = b.s
  · exact walk_eq w k hk a b he
  have h4 : k % 4 = 0 ∨ k % 4 = 1 ∨ k % 4 = 2 ∨ k % 4 = 3 := by omega
  have T : ∀ (q : Int) (m o : Ct), ahead q m o = true → chooseD q m o = 2 := fun q m o h => chooseD_t h
  have N : ∀ (q : Int) (m o : Ct), ahead q m o = false → chooseD q m o = 1 := fun q m o h => chooseD_f h
  rcases h4 with hm | hm | hm | hm
  · exact walk_011 w k hk a b hm he (N _ _ _ rfl) (N _ _ _ rfl)
  · rcases Int.lt_or_gt_of_ne he with h | h
    · exact walk_121 w k hk a b hm he (T _ _ _ (by rw [ahead_1]; simp; omega)) (N _ _ _ (by rw [ahead_1]; simp; omega))
    · exact walk_112 w k hk a b hm he (N _ _ _ (by rw [ahead_1]; simp; omega)) (T _ _ _ (by rw [ahead_1]; simp; omega))
  · by_cases hkk : a.k = b.k
    · have e1 : ahead 2 a b = decide (a.s < b.s) := by rw [ahead_2]; unfold karmaB; rw [if_pos hkk]
      have e2 : ahead 2 b a = decide (b.s < a.s) := by rw [ahead_2]; unfold karmaB; rw [if_pos hkk.symm]
      rcases Int.lt_or_gt_of_ne he with h | h
      · exact walk_221 w k hk a b hm he (T _ _ _ (by rw [e1]; simp; omega)) (N _ _ _ (by rw [e2]; simp; omega))
      · exact walk_212 w k hk a b hm he (N _ _ _ (by rw [e1]; simp; omega)) (T _ _ _ (by rw [e2]; simp; omega))
    · have e1 : ahead 2 a b = decide (b.k < a.k) := by rw [ahead_2]; unfold karmaB; rw [if_neg hkk]
      have e2 : ahead 2 b a = decide (a.k < b.k) := by rw [ahead_2]; unfold karmaB; rw [if_neg (Ne.symm hkk)]
      rcases Int.lt_or_gt_of_ne hkk with h | h
      · exact walk_212 w k hk a b hm he (N _ _ _ (by rw [e1]; simp; omega)) (T _ _ _ (by rw [e2]; simp; omega))
      · exact walk_221 w k hk a b hm he (T _ _ _ (by rw [e1]; simp; omega)) (N _ _ _ (by rw [e2]; simp; omega))
  · have e1 : ahead 3 a b = (decide (2 ≤ a.a) && decide (a.s < b.s)) := rfl
    have e2 : ahead 3 b a = (decide (2 ≤ b.a) && decide (b.s < a.s)) := rfl
    cases h1 : ahead 3 a b <;> cases h2 : ahead 3 b a
    · by_cases ha : a.a < 2
      · exact walk_311t w k hk a b hm he (N _ _ _ h1) (N _ _ _ h2) ha
      · by_cases hb : b.a < 2
        · exact walk_311ft w k hk a b hm he (N _ _ _ h1) (N _ _ _ h2) ha hb
        · exfalso
          rw [e1] at h1; rw [e2] at h2
          simp at h1 h2
          omega
    · by_cases ha : a.a < 2
      · exact walk_312t w k hk a b hm he (N _ _ _ h1) (T _ _ _ h2) ha
      · by_cases hb : b.a < 2
        · exact walk_312ft w k hk a b hm he (N _ _ _ h1) (T _ _ _ h2) ha hb
        · exact walk_312ff w k hk a b hm he (N _ _ _ h1) (T _ _ _ h2) ha hb
    · by_cases ha : a.a < 2
      · exact walk_321t w k hk a b hm he (T _ _ _ h1) (N _ _ _ h2) ha
      · by_cases hb : b.a < 2
        · exact walk_321ft w k hk a b hm he (T _ _ _ h1) (N _ _ _ h2) ha hb
        · exact walk_321ff w k hk a b hm he (T _ _ _ h1) (N _ _ _ h2) ha hb
    · exfalso
      rw [e1] at h1; rw [e2] at h2
      simp at h1 h2
      omega

theorem own : ownKnob Try.prog.godebug = none := by kernel_rfl
theorem laidOut : laidOutB Try.prog = true := by kernel_rfl

set_option maxRecDepth 100000 in
theorem lifted (os : Os) (started : os.Started) (H : Type) (enc : TypeId × Value → H) :
    ReturnsInHanded {} Try.checked os 10 .any (Rows.managerAsymmetricSpec.pre6 enc Try.prog Try.f10 Rows.managerAsymmetricRow.domain false) (Rows.managerAsymmetricSpec.post enc Try.prog Try.f10 false true false false) := by
  refine returnsInHanded_of_change (C := Try.checked) own started (by kernel_rfl) Try.func10
    (ChangeSpec.witness6 (enc := enc) (C := Try.checked) false ⟨#[], #[.int .u8 0, .agg #[.int .i64 0, .int .i64 0, .int .i64 0], .agg #[.int .i64 0, .int .i64 0, .int .i64 0]], []⟩ 8 (by kernel_rfl) (by kernel_rfl) (by kernel_rfl) (by kernel_rfl)) ?_
  intro W base args ds gs before hval0 hW hcnd _
  have hval : ∀ (j : Nat) t v, Try.f10.params[j]? = some t → args[j]? = some v → Value.okWide Try.prog W .any base t v := hval0
  have hW' := hW
  obtain ⟨p, q, hA0, hV, rfl, hfz, hnd⟩ := hW
  have hA : DataW.TrodAll enc Try.prog W 0 (fun _ => true) true Try.f10.params.toList args.toList ds p := hA0
  rw [Try.params10] at hA hval
  obtain ⟨v0, vs0, d0, ds0, p0, q0, hargs, rfl, rfl, h0, r0⟩ := trodAll_cons hA
  obtain ⟨v1, vs1, d1, ds1, p1, q1, rfl, rfl, rfl, h1, r1⟩ := trodAll_cons r0
  obtain ⟨v2, vs2, d2, ds2, p2, q2, rfl, rfl, rfl, h2, r2⟩ := trodAll_cons r1
  obtain ⟨rfl, rfl, rfl⟩ := trodAll_nil r2
  obtain rfl : args = #[v0, v1, v2] := by cases args; simp_all
  obtain ⟨rfl, rfl⟩ := trodVars_none hV
  clear hA0 hval0
  simp only [List.append_nil] at hW'
  have lt0 : ∀ x ∈ p0, x.block < W.heap.size := fun x hx => hW'.lt x (by simp [hx])
  have lt1 : ∀ x ∈ p1, x.block < W.heap.size := fun x hx => hW'.lt x (by simp [hx])
  have lt2 : ∀ x ∈ p2, x.block < W.heap.size := fun x hx => hW'.lt x (by simp [hx])
  have back0 : ∀ W', Below W.heap.size W W' → DataW.Trod enc Try.prog W' 0 (fun b => decide (b < W.heap.size)) true 5 v0 d0 p0 := fun W' hb => Below.trod laidOut (by kernel_rfl) (of_decide_eq_true (by kernel_rfl)) h0 hb lt0
  have back1 : ∀ W', Below W.heap.size W W' → DataW.Trod enc Try.prog W' 0 (fun b => decide (b < W.heap.size)) true 23 v1 d1 p1 := fun W' hb => Below.trod laidOut (by kernel_rfl) (of_decide_eq_true (by kernel_rfl)) h1 hb lt1
  have back2 : ∀ W', Below W.heap.size W W' → DataW.Trod enc Try.prog W' 0 (fun b => decide (b < W.heap.size)) true 23 v2 d2 p2 := fun W' hb => Below.trod laidOut (by kernel_rfl) (of_decide_eq_true (by kernel_rfl)) h2 hb lt2
  obtain ⟨a0, rfl, rfl, rfl, w0⟩ := open_int Try.underlying5 (hval 0 5 v0 rfl rfl) h0
  obtain ⟨ct1, rfl, ia1, ib1, ic1⟩ := open_ct (hval 1 23 v1 rfl rfl) h1
  obtain ⟨ct2, rfl, ia2, ib2, ic2⟩ := open_ct (hval 2 23 v2 rfl rfl) h2
  refine (walk W a0 w0 ct1 ia1 ib1 ic1 ct2 ia2 ib2 ic2).mono fun e W' ⟨he, hg⟩ => ?_
  subst he
  exact ⟨_, rfl, _, _, _, [], _, [], hW', (trodAll_cons_mk (shut_bool Try.underlying4 _) trodAll_mk0), (trodAll_cons_mk (back0 _ hg) (trodAll_cons_mk (back1 _ hg) (trodAll_cons_mk (back2 _ hg) trodAll_mk0))), rfl, hg.frame _, fun h => by cases h⟩

theorem over : Rows.managerAsymmetricRow.holds Try.pinned (OpenSpec.ofChange Rows.managerAsymmetricSpec) :=
  OpenClaim.holds_of_wide 10 Try.f10 rfl rfl rfl rfl rfl rfl rfl ⟨rfl, rfl, rfl, rfl, rfl⟩ rfl rfl rfl rfl rfl (by kernel_rfl) Try.func10 (by kernel_rfl)
    (of_decide_eq_true (by kernel_rfl)) (by unfold Func.isWrapper; first | (rw [if_pos (by decide +kernel)]; kernel_rfl) | (rw [if_neg (by decide +kernel)]; exact ⟨rfl, rfl⟩))
    (fun os started H enc _ => lifted os started H enc)

/-- The given statement. -/
theorem proved : Rows.ManagerAsymmetricSaid :=
  over
#print axioms proved
end Go.Proofs.Ytaclnaedinfhmaa.managerAsymmetric
