/-
  Merged: WireJ
-/
import Derived.Test.YtaclhiagfgmgkaaRows
import Derived.Test.YtaclhiagfgmgkaaPr2
import Derived.Test.YtaclhiagfgmgkaaPr3
import Derived.Test.YtaclhiagfgmgkaaPr16
import Derived.Test.YtaclhiagfgmgkaaPr4
import Derived.Outline
namespace Go.Proofs.Ytaclhiagfgmgkaa
set_option maxRecDepth 20000
set_option linter.unusedVariables false
set_option linter.unusedSectionVars false
open Go.ChangeShapes Go.WideShapes Go.ChangeAt Go.RowKit
end Go.Proofs.Ytaclhiagfgmgkaa
