
/-
  Layer 18 by computation: the example of the documentation, and what is known of words.
-/
import Derived.Test.YtdfngmplfgifiaaRows
import Derived.Test.YtdfngmplfgifiaaBase
import Derived.Test.YtdfngmplfgifiaaAux
import Derived.Test.YtdfngmplfgifiaaWord2
import Derived.Test.YtdfngmplfgifiaaWord3
import Derived.Test.YtdfngmplfgifiaaEp
namespace Go.Proofs.Ytdfngmplfgifiaa
open Go Go.RowKit EX
set_option maxRecDepth 100000
set_option linter.unusedVariables false
theorem sane18 (w : World) : Calls Try.prog 11 #[] w fun e w' => e = .returned (.bool true) ∧ Below w.heap.size w w' :=
  ex_val knNone_ok 100000 [] [] [] (by kernel_rfl) (by simp [denL]) trivial (by intro q hq; cases hq)
/-- The example, and words. -/
def kn18 : Kn := knOr (kn1 11 (.bool true)) (knOr (kn2 87 fun m t => .int .i64 (withT m t)) (knOr (kn2 88 fun m t => .int .i64 (sansT m t)) (kn2 25 fun m t => .bool (isIn m t))))
theorem kn18_ok : KnOk Try.prog kn18 :=
  knOr_ok (kn1_ok sane18) (knOr_ok (kn2_ok fun m t w h => (wwith_any m t h w).mono fun e w' ⟨h1, h2⟩ => ⟨h1, h2 ▸ Below.refl _ _⟩)
    (knOr_ok (kn2_ok fun m t w h => (wwithout_any m t h w).mono fun e w' ⟨h1, h2⟩ => ⟨h1, h2 ▸ Below.refl _ _⟩)
      (kn2_ok fun m t w h => (rin_any m t h w).mono fun e w' ⟨h1, h2⟩ => ⟨h1, h2 ▸ Below.refl _ _⟩)))
end Go.Proofs.Ytdfngmplfgifiaa
