/-
  Merged: WireD
-/
import Derived.Test.YtaclhiagfgmgkaaRows
import Derived.Test.YtaclhiagfgmgkaaPr2
import Derived.Test.YtaclhiagfgmgkaaPr3
import Derived.Deep.RegionHeld3
namespace Go.Proofs.Ytaclhiagfgmgkaa
set_option linter.unusedSectionVars false
set_option maxRecDepth 20000
open Go.ChangeShapes Go.WideShapes Go.ChangeAt Go.RowKit
end Go.Proofs.Ytaclhiagfgmgkaa
