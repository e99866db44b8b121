
/-
  Layer 16: what is known of lock words, and the example.
-/
import Derived.Test.YtmjfnlangebhlaaRows
import Derived.Test.YtmjfnlangebhlaaBase
import Derived.Test.YtmjfnlangebhlaaAux
import Derived.Test.YtmjfnlangebhlaaWord2
import Derived.Test.YtmjfnlangebhlaaKni
namespace Go.Proofs.Ytmjfnlangebhlaa
open Go Go.RowKit EX
set_option maxRecDepth 100000
set_option linter.unusedVariables false
theorem sane16 (w : World) : Calls Try.prog 8 #[] w fun e w' => e = .returned (.bool true) ∧ Below w.heap.size w w' :=
  ex_val knNone_ok 100000 [] [] [] (by kernel_rfl) (by simp [denL]) trivial (by intro q hq; cases hq)
def kn16 : Kn := knOr (kn1 8 (.bool true)) (knOr (knI 114 fun a => .bool (decide (a % 2 = 1))) (knOr (knI 117 fun a => .int .i64 (a / 2)) (knOr (knI 115 fun a => .int .i64 (a / 2)) (knOr (knI 118 fun a => .int .i64 (wrap64 (2 * a))) (knI 116 fun a => .int .i64 (wrap64 (2 * a + 1)))))))
theorem kn16_ok : KnOk Try.prog kn16 :=
  knOr_ok (kn1_ok sane16) (knOr_ok (knI_ok locked_any) (knOr_ok (knI_ok ver_any) (knOr_ok (knI_ok who_any) (knOr_ok (knI_ok free_any) (knI_ok held_any)))))
end Go.Proofs.Ytmjfnlangebhlaa
