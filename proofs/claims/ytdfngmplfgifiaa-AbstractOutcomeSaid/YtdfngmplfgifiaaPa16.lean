/-
  Merged: An1
-/
import Derived.Test.YtdfngmplfgifiaaPa15

/-
  Layer 20: the example of the documentation.
-/
namespace Go.Proofs.Ytdfngmplfgifiaa
open Go Go.RowKit EX
set_option maxRecDepth 100000
set_option linter.unusedVariables false
theorem where20_0 (w : World) : Calls Try.prog 29 #[.int .i64 0] w fun e w' => e = .returned (ly20 0).v ∧ Below w.heap.size w w' :=
  ex_val knNone_ok 100000 [.v (.int .i64 0)] [] [] (by kernel_rfl) (by simp [denL, den]) (by simp [bdL, bd]) (by intro q hq; cases hq)
theorem where20_1 (w : World) : Calls Try.prog 29 #[.int .i64 1] w fun e w' => e = .returned (ly20 1).v ∧ Below w.heap.size w w' :=
  ex_val knNone_ok 100000 [.v (.int .i64 1)] [] [] (by kernel_rfl) (by simp [denL, den]) (by simp [bdL, bd]) (by intro q hq; cases hq)
theorem where20_2 (w : World) : Calls Try.prog 29 #[.int .i64 2] w fun e w' => e = .returned (ly20 2).v ∧ Below w.heap.size w w' :=
  ex_val knNone_ok 100000 [.v (.int .i64 2)] [] [] (by kernel_rfl) (by simp [denL, den]) (by simp [bdL, bd]) (by intro q hq; cases hq)
theorem where20_3 (w : World) : Calls Try.prog 29 #[.int .i64 3] w fun e w' => e = .returned (ly20 3).v ∧ Below w.heap.size w w' :=
  ex_val knNone_ok 100000 [.v (.int .i64 3)] [] [] (by kernel_rfl) (by simp [denL, den]) (by simp [bdL, bd]) (by intro q hq; cases hq)
theorem sane20 (w : World) : Calls Try.prog 28 #[] w fun e w' => e = .returned (.bool true) ∧ Below w.heap.size w w' :=
  ex_valG kgAbs_ok 100000 [] [] [] (by kernel_rfl) (by simp [denL]) trivial (by intro q hq; cases hq)
end Go.Proofs.Ytdfngmplfgifiaa
