
/-
  Layer 19: reads of attempts that are lost.
-/
import Derived.Test.YtnabfpcfodgmpaaVd0
namespace Go.Proofs.Ytnabfpcfodgmpaa
open Go Go.RowKit EX
set_option maxRecDepth 100000
set_option linter.unusedVariables false
set_option linter.unusedSimpArgs false
def ff : Value := .bool false
def tt : Value := .bool true
def wd (v : Int) : Int := IntKind.i64.wrap (2 * IntKind.i64.wrap v)
def st0 (t k : Int) : Int := wrap64 (4 * IntKind.i64.wrap t + k % 4)
def vl (v : Int) : Int := IntKind.i64.wrap v
def csA (v n t : Int) : List (Value × Value) :=
  [(.bool (vl n != vl n), ff), (.bool (wd v != wd v), ff), (.bool (st0 t 3 != st0 t 3), ff), (.bool (st0 t 3 % 4 == 3), tt), (.bool (decide (wd v / 2 > 300)), ff), (.bool (wd v != wd v), ff), (.bool (decide (wd v % 2 = 1)), ff),
   (.bool (decide (wd v / 2 > 300)), ff), (.bool (wd v != wd v), ff), (.bool (decide (wd v % 2 = 1)), ff), (.bool (decide (wd v % 2 = 1)), ff), (.bool (decide (wd v % 2 = 1)), ff)]
theorem csA_ok {v n t : Int} (h1 : 0 ≤ v ∧ v ≤ 255) (h3 : 0 ≤ t ∧ t ≤ 255) : ∀ q ∈ csA v n t, q.1 = q.2 := by
  have e1 : wd v = 2 * v := by unfold wd; rw [IntKind.wrap_i64, IntKind.wrap_i64]; omega
  have e2 : st0 t 3 % 4 = 3 := by unfold st0 wrap64; rw [IntKind.wrap_i64]; omega
  have e3 : v ≤ 300 := by omega
  have e4 : ¬ (2 * v % 2 = 1) := by omega
  intro q hq
  simp only [csA, List.mem_cons, List.not_mem_nil, or_false] at hq
  rcases hq with rfl | rfl | rfl | rfl | rfl | rfl | rfl | rfl | rfl | rfl | rfl | rfl <;> simp [e1, e2, e3, e4, ff, tt]
theorem doom_a (w : World) (v n t : Int) (b : Bool) (h1 : 0 ≤ v ∧ v ≤ 255) (h3 : 0 ≤ t ∧ t ≤ 255) : Calls Try.prog 6 #[.agg #[.int .u8 v, .int .u8 n, .int .u8 t, .bool false, .bool b]] w fun e w' => e = .returned (.bool true) ∧ Below w.heap.size w w' :=
  ex_val kn19_ok 100000 [.g [.y (.int .u8 v), .y (.int .u8 n), .y (.int .u8 t), .v (.bool false), .v (.bool b)]] [ff, ff, ff, ff, ff, ff, ff, ff, tt, ff, ff, ff] (csA v n t) (by kernel_rfl) (by simp [denL, den]) (by simp [bdL, bd]) (csA_ok h1 h3)
def csB (n t : Int) : List (Value × Value) :=
  [(.bool (vl n != vl n), ff), (.bool (st0 t 1 != st0 t 1), ff), (.bool (st0 t 1 % 4 == 3), ff), (.bool (st0 t 1 % 4 == 3), ff), (.bool (st0 t 1 % 4 == 3), ff), (.bool (st0 t 1 % 4 == 3), ff)]
theorem csB_ok {n t : Int} (h3 : 0 ≤ t ∧ t ≤ 255) : ∀ q ∈ csB n t, q.1 = q.2 := by
  have e2 : st0 t 1 % 4 = 1 := by unfold st0 wrap64; rw [IntKind.wrap_i64]; omega
  intro q hq
  simp only [csB, List.mem_cons, List.not_mem_nil, or_false] at hq
  rcases hq with rfl | rfl | rfl | rfl | rfl | rfl <;> simp [e2, ff, tt]
theorem doom_b (w : World) (v n t : Int) (h3 : 0 ≤ t ∧ t ≤ 255) : Calls Try.prog 6 #[.agg #[.int .u8 v, .int .u8 n, .int .u8 t, .bool true, .bool false]] w fun e w' => e = .returned (.bool true) ∧ Below w.heap.size w w' :=
  ex_val kn19_ok 100000 [.g [.y (.int .u8 v), .y (.int .u8 n), .y (.int .u8 t), .v (.bool true), .v (.bool false)]] [ff, ff, ff, ff, ff, ff] (csB n t) (by kernel_rfl) (by simp [denL, den]) (by simp [bdL, bd]) (csB_ok h3)
theorem doom_c (w : World) (v n t : Int) (h3 : 0 ≤ t ∧ t ≤ 255) : Calls Try.prog 6 #[.agg #[.int .u8 v, .int .u8 n, .int .u8 t, .bool true, .bool true]] w fun e w' => e = .returned (.bool true) ∧ Below w.heap.size w w' :=
  ex_val kn19_ok 100000 [.g [.y (.int .u8 v), .y (.int .u8 n), .y (.int .u8 t), .v (.bool true), .v (.bool true)]] [ff, ff, ff, ff, ff, ff] (csB n t) (by kernel_rfl) (by simp [denL, den]) (by simp [bdL, bd]) (csB_ok h3)
end Go.Proofs.Ytnabfpcfodgmpaa
