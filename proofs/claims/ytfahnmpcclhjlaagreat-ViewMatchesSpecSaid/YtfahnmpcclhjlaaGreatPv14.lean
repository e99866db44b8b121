/-
  Merged: VwS
-/
import Derived.Test.YtfahnmpcclhjlaaGreatRows
import Derived.Test.YtfahnmpcclhjlaaGreatPv3
import Derived.Test.YtfahnmpcclhjlaaGreatPv10
namespace Go.Proofs.YtfahnmpcclhjlaaGreat
open Go Go.RowKit EX
set_option maxRecDepth 100000
set_option linter.unusedVariables false
set_option linter.unusedSectionVars false
theorem sane19 (w : World) : Calls Tryz.prog 4 #[] w fun e w' => e = .returned (.bool true) ∧ Below w.heap.size w w' :=
  ex_val knNone_ok 100000 [] [] [] (by kernel_rfl) (by simp [denL]) trivial (by intro q hq; cases hq)
end Go.Proofs.YtfahnmpcclhjlaaGreat
