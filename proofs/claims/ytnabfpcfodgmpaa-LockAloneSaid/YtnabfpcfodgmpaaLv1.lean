
/-
  Layer 16: looks at a location.
-/
import Derived.Test.YtnabfpcfodgmpaaLv0
namespace Go.Proofs.Ytnabfpcfodgmpaa
open Go Go.RowKit EX
set_option maxRecDepth 100000
set_option linter.unusedVariables false
set_option linter.unusedSimpArgs false
def fv : Value := .bool false
def tv : Value := .bool true
def lV (v : Int) : Int := IntKind.i64.wrap v
def lF (v : Int) : Int := wrap64 (2 * IntKind.i64.wrap v)
def lA (a : Int) : Int := IntKind.i64.wrap (Int.tmod a 3)
def lH (a : Int) : Int := wrap64 (2 * lA a + 1)
theorem lV_eq {v : Int} (h : 0 ≤ v ∧ v ≤ 4294967295) : lV v = v := by unfold lV; rw [IntKind.wrap_i64]; omega
theorem lF_eq {v : Int} (h : 0 ≤ v ∧ v ≤ 4294967295) : lF v = 2 * v := by unfold lF wrap64; rw [IntKind.wrap_i64]; omega
theorem lA_eq {a : Int} (h : 0 ≤ a ∧ a ≤ 255) : lA a = a % 3 := by
  unfold lA
  rw [Int.tmod_eq_emod_of_nonneg h.1, IntKind.wrap_i64]; omega
theorem lH_eq {a : Int} (h : 0 ≤ a ∧ a ≤ 255) : lH a = 2 * (a % 3) + 1 := by unfold lH wrap64; rw [lA_eq h]; omega
def csH (v w a : Int) : List (Value × Value) :=
  [(.bool (lH a != lH a), fv), (.bool (lH a / 2 == lA a), tv), (.bool (decide (lH a % 2 = 1)), tv), (.bool (lH a == lF w), fv), (.bool (lF v / 2 != lV v), fv), (.bool (!(lF v == lF v)), fv), (.bool (decide (lF v % 2 = 1)), fv), (.bool (lF v == lF v), tv), (.bool (decide (lF v % 2 = 1)), fv)]
theorem csH_ok {v w a : Int} (h1 : 0 ≤ v ∧ v ≤ 4294967295) (h2 : 0 ≤ w ∧ w ≤ 4294967295) (h3 : 0 ≤ a ∧ a ≤ 255) : ∀ q ∈ csH v w a, q.1 = q.2 := by
  have e1 : ¬ (2 * (a % 3) + 1 = 2 * w) := by omega
  have e2 : (2 * (a % 3) + 1) / 2 = a % 3 := by omega
  have e3 : (2 * (a % 3) + 1) % 2 = 1 := by omega
  have e4 : ¬ (2 * v % 2 = 1) := by omega
  have e5 : 2 * v / 2 = v := by omega
  intro q hq
  simp only [csH, lH_eq h3, lA_eq h3, lF_eq h1, lF_eq h2, lV_eq h1, List.mem_cons, List.not_mem_nil, or_false] at hq
  rcases hq with rfl | rfl | rfl | rfl | rfl | rfl | rfl | rfl | rfl <;> simp [e1, e2, e3, e4, e5, fv, tv]
theorem look_h (w0 : World) (v w a b : Int) (h1 : 0 ≤ v ∧ v ≤ 4294967295) (h2 : 0 ≤ w ∧ w ≤ 4294967295) (h3 : 0 ≤ a ∧ a ≤ 255) : Calls Try.prog 3 #[.int .u32 v, .int .u32 w, .int .u8 a, .int .u8 b, .bool true] w0 fun e w' => e = .returned (.bool true) ∧ Below w0.heap.size w0 w' :=
  ex_val kn16_ok 100000 [.y (.int .u32 v), .y (.int .u32 w), .y (.int .u8 a), .y (.int .u8 b), .v (.bool true)] [fv, tv, fv, fv, fv, fv, tv, tv, fv] (csH v w a) (by kernel_rfl) (by simp [denL, den]) (by simp [bdL, bd]) (csH_ok h1 h2 h3)
def csN (v w : Int) : List (Value × Value) :=
  [(.bool (lF v != lF v), fv), (.bool (false == (v == w)), tv), (.bool (decide (lF v % 2 = 1)), fv), (.bool (lF v == lF w), fv)]
theorem csN_ok {v w : Int} (h1 : 0 ≤ v ∧ v ≤ 4294967295) (h2 : 0 ≤ w ∧ w ≤ 4294967295) (h : v ≠ w) : ∀ q ∈ csN v w, q.1 = q.2 := by
  have e4 : ¬ (2 * v % 2 = 1) := by omega
  have e5 : ¬ (2 * v = 2 * w) := by omega
  intro q hq
  simp only [csN, lF_eq h1, lF_eq h2, List.mem_cons, List.not_mem_nil, or_false] at hq
  rcases hq with rfl | rfl | rfl | rfl
  · simp [fv]
  · simp [tv, h]
  · simp [fv, e4]
  · simp only [fv, Value.bool.injEq, beq_eq_false_iff_ne, ne_eq]; exact e5
theorem look_n (w0 : World) (v w a b : Int) (h1 : 0 ≤ v ∧ v ≤ 4294967295) (h2 : 0 ≤ w ∧ w ≤ 4294967295) (h : v ≠ w) : Calls Try.prog 3 #[.int .u32 v, .int .u32 w, .int .u8 a, .int .u8 b, .bool false] w0 fun e w' => e = .returned (.bool true) ∧ Below w0.heap.size w0 w' :=
  ex_val kn16_ok 100000 [.y (.int .u32 v), .y (.int .u32 w), .y (.int .u8 a), .y (.int .u8 b), .v (.bool false)] [fv, fv, tv, fv] (csN v w) (by kernel_rfl) (by simp [denL, den]) (by simp [bdL, bd]) (csN_ok h1 h2 h)
def csE (v w : Int) : List (Value × Value) :=
  [(.bool (lF v != lF v), fv), (.bool (true == (v == w)), tv), (.bool (lF v == lF w), tv)]
theorem csE_ok {v w : Int} (h : v = w) : ∀ q ∈ csE v w, q.1 = q.2 := by
  subst h
  intro q hq
  simp only [csE, List.mem_cons, List.not_mem_nil, or_false] at hq
  rcases hq with rfl | rfl | rfl <;> simp [fv, tv]
theorem look_e (w0 : World) (v w a b : Int) (h : v = w) : Calls Try.prog 3 #[.int .u32 v, .int .u32 w, .int .u8 a, .int .u8 b, .bool false] w0 fun e w' => e = .returned (.bool true) ∧ Below w0.heap.size w0 w' :=
  ex_val kn16_ok 100000 [.y (.int .u32 v), .y (.int .u32 w), .y (.int .u8 a), .y (.int .u8 b), .v (.bool false)] [tv, tv, fv] (csE v w) (by kernel_rfl) (by simp [denL, den]) (by simp [bdL, bd]) (csE_ok h)
end Go.Proofs.Ytnabfpcfodgmpaa
