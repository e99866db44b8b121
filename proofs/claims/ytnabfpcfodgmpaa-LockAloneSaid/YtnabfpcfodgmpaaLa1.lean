
/-
  Layer 16: operations without interference.
-/
import Derived.Test.YtnabfpcfodgmpaaLv1
namespace Go.Proofs.Ytnabfpcfodgmpaa
open Go Go.RowKit EX
set_option maxRecDepth 100000
set_option linter.unusedVariables false
set_option linter.unusedSimpArgs false
def csL (v a x : Int) : List (Value × Value) :=
  [(.bool (x != x), fv), (.bool (lF v != lF v), fv), (.bool (x != x), fv), (.bool (lH a != lH a), fv), (.bool ((lH a / 2 == lA a) && true), tv), (.bool ((lH a / 2 == lA a) && true), tv), (.bool ((lF v / 2 == lV v) && true), tv),
   (.bool (x != x), fv), (.bool (lF v != lF v), fv), (.bool ((x == x) && ((lF v / 2 == lV v) && true)), tv), (.bool (decide (lH a % 2 = 1)), tv), (.bool (decide (lH a % 2 = 1)), tv), (.bool (!(lF v == lF v)), fv), (.bool (decide (lF v % 2 = 1)), fv), (.bool (lF v == lF v), tv), (.bool (decide (lF v % 2 = 1)), fv),
   (.bool (lF v != lF v), fv), (.bool (decide (lF v % 2 = 1)), fv), (.bool (decide (lF v % 2 = 1)), fv), (.bool (decide (lF v % 2 = 1)), fv)]
theorem csL_ok {v a x : Int} (h1 : 0 ≤ v ∧ v ≤ 4294967295) (h3 : 0 ≤ a ∧ a ≤ 255) : ∀ q ∈ csL v a x, q.1 = q.2 := by
  have e2 : (2 * (a % 3) + 1) / 2 = a % 3 := by omega
  have e3 : (2 * (a % 3) + 1) % 2 = 1 := by omega
  have e4 : ¬ (2 * v % 2 = 1) := by omega
  have e5 : 2 * v / 2 = v := by omega
  intro q hq
  simp only [csL, lH_eq h3, lA_eq h3, lF_eq h1, lV_eq h1, List.mem_cons, List.not_mem_nil, or_false] at hq
  rcases hq with rfl | rfl | rfl | rfl | rfl | rfl | rfl | rfl | rfl | rfl | rfl | rfl | rfl | rfl | rfl | rfl | rfl | rfl | rfl | rfl <;> simp [e2, e3, e4, e5, fv, tv]
theorem alone_l (w0 : World) (v a b x : Int) (h1 : 0 ≤ v ∧ v ≤ 4294967295) (h3 : 0 ≤ a ∧ a ≤ 255) : Calls Try.prog 4 #[.int .u32 v, .int .u8 a, .int .u8 b, .int .i64 x] w0 fun e w' => e = .returned (.bool true) ∧ Below w0.heap.size w0 w' :=
  ex_val kn16_ok 100000 [.y (.int .u32 v), .y (.int .u8 a), .y (.int .u8 b), .y (.int .i64 x)] [fv, fv, fv, fv, fv, tv, fv, fv, tv, tv, tv, fv, fv, tv, tv, tv, fv, fv, fv, fv] (csL v a x) (by kernel_rfl) (by simp [denL, den]) (by simp [bdL, bd]) (csL_ok h1 h3)
end Go.Proofs.Ytnabfpcfodgmpaa
