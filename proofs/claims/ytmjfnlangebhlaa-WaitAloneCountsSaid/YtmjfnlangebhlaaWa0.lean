
/-
  Layer 21: an operation that waits, without interference: by computation, one run for each choice of locations and changes.
-/
import Derived.Test.YtmjfnlangebhlaaRows
import Derived.Test.YtmjfnlangebhlaaWk2
import Derived.Test.YtmjfnlangebhlaaVt0
namespace Go.Proofs.Ytmjfnlangebhlaa
open Go Go.RowKit EX
set_option maxRecDepth 100000
set_option linter.unusedVariables false
set_option linter.unusedSimpArgs false
def mB (a d : Int) : Bool := Int.tmod (IntKind.u8.wrap (Int.tdiv a d)) 2 == 0
def cB (c d : Int) : Bool := Int.tmod (IntKind.u8.wrap (Int.tdiv c d)) 2 == 1
noncomputable def kgW : KnG := kgOr (gk (kn1 26 (.bool true))) kgVis
theorem kgW_ok : KnGOk Try.prog kgW := kgOr_ok (gk_ok (kn1_ok sane21)) kgVis_ok
end Go.Proofs.Ytmjfnlangebhlaa
