/-
  Merged: WlS, BkD
-/
import Derived.Test.YtfhmdlihnidjoaaRows
import Derived.Test.YtfhmdlihnidjoaaPd2
import Derived.Test.YtfhmdlihnidjoaaPd6
namespace Go.Proofs.Ytfhmdlihnidjoaa
set_option maxRecDepth 100000
set_option linter.unusedVariables false
set_option linter.unusedSectionVars false
set_option linter.unusedSimpArgs false
open Go Go.RowKit EX

end Go.Proofs.Ytfhmdlihnidjoaa
namespace Go.Proofs.Ytfhmdlihnidjoaa.EX
open Go Go.RowKit
set_option linter.unusedVariables false
set_option linter.unusedSectionVars false
set_option linter.unusedSimpArgs false
set_option maxRecDepth 100000
variable [FC]
end Go.Proofs.Ytfhmdlihnidjoaa.EX
namespace Go.Proofs.Ytfhmdlihnidjoaa
open Go Go.RowKit EX
set_option maxRecDepth 100000
set_option linter.unusedVariables false
set_option linter.unusedSimpArgs false
end Go.Proofs.Ytfhmdlihnidjoaa
