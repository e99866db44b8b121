
/-
  Layer 17: what is known of status words, and the example.
-/
import Derived.Test.YtkcjickoepaonaaRows
import Derived.Test.YtkcjickoepaonaaBase
import Derived.Test.YtkcjickoepaonaaAux
import Derived.Test.YtkcjickoepaonaaWord2
import Derived.Test.YtkcjickoepaonaaEp
namespace Go.Proofs.Ytkcjickoepaonaa
open Go Go.RowKit EX
set_option maxRecDepth 100000
set_option linter.unusedVariables false
theorem sane17 (w : World) : Calls Try.prog 4 #[] w fun e w' => e = .returned (.bool true) ∧ Below w.heap.size w w' :=
  ex_val knNone_ok 100000 [] [] [] (by kernel_rfl) (by simp [denL]) trivial (by intro q hq; cases hq)
/-- The kind of a status word that is not known. -/
def knK : Kn := fun f args => match Nat.beq f 35, args with
  | true, [.y (.int .i64 a)] => some (.y (.int .i64 (a % 4)), [])
  | _, _ => none
theorem knK_ok : KnOk Try.prog knK := by
  intro f args x cs hx
  unfold knK at hx
  split at hx
  · rename_i a hb
    simp only [Option.some.injEq, Prod.mk.injEq] at hx
    obtain ⟨rfl, rfl⟩ := hx
    have := Nat.eq_of_beq_eq_true hb
    subst this
    refine ⟨by simp [bd], fun tr B w => ?_⟩
    simpa [denL, den] using (kind_any a w).mono fun e w' ⟨h1, h2⟩ => ⟨h1, h2 ▸ Below.refl _ _⟩
  · cases hx
/-- A status word of what is not known. -/
def knS : Kn := fun f args => match Nat.beq f 7, args with
  | true, [.y (.int .i64 a), .y (.int .i64 k)] => some (.y (.int .i64 (wrap64 (4 * a + k % 4))), [])
  | true, [.y (.int .i64 a), .v (.int .i64 k)] => some (.y (.int .i64 (wrap64 (4 * a + k % 4))), [])
  | _, _ => none
theorem knS_ok : KnOk Try.prog knS := by
  intro f args x cs hx
  unfold knS at hx
  split at hx
  · rename_i a k hb
    simp only [Option.some.injEq, Prod.mk.injEq] at hx
    obtain ⟨rfl, rfl⟩ := hx
    have := Nat.eq_of_beq_eq_true hb
    subst this
    refine ⟨by simp [bd], fun tr B w => ?_⟩
    simpa [denL, den] using (wstatus_any a k w).mono fun e w' ⟨h1, h2⟩ => ⟨h1, h2 ▸ Below.refl _ _⟩
  · rename_i a k hb
    simp only [Option.some.injEq, Prod.mk.injEq] at hx
    obtain ⟨rfl, rfl⟩ := hx
    have := Nat.eq_of_beq_eq_true hb
    subst this
    refine ⟨by simp [bd], fun tr B w => ?_⟩
    simpa [denL, den] using (wstatus_any a k w).mono fun e w' ⟨h1, h2⟩ => ⟨h1, h2 ▸ Below.refl _ _⟩
  · cases hx
def kn17 : Kn := knOr (kn1 4 (.bool true)) (knOr knK knS)
theorem kn17_ok : KnOk Try.prog kn17 := knOr_ok (kn1_ok sane17) (knOr_ok knK_ok knS_ok)
end Go.Proofs.Ytkcjickoepaonaa
