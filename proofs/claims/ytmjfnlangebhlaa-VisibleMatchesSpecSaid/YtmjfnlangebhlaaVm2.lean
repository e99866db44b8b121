
/-
  Layer 18: the example of the documentation.
-/
import Derived.Test.YtmjfnlangebhlaaRows
import Derived.Test.YtmjfnlangebhlaaEp
namespace Go.Proofs.Ytmjfnlangebhlaa
open Go Go.RowKit EX
set_option maxRecDepth 100000
set_option linter.unusedVariables false
theorem sane18 (w : World) : Calls Try.prog 12 #[] w fun e w' => e = .returned (.bool true) ∧ Below w.heap.size w w' :=
  ex_val knNone_ok 100000 [] [] [] (by kernel_rfl) (by simp [denL]) trivial (by intro q hq; cases hq)
end Go.Proofs.Ytmjfnlangebhlaa
