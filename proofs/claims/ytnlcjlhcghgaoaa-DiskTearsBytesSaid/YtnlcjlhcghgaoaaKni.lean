
/-
  Tables of known results for functions of integers that are not known.
-/
import Derived.Test.YtnlcjlhcghgaoaaEp
namespace Go.Proofs.Ytnlcjlhcghgaoaa
open Go Go.RowKit EX
set_option linter.unusedVariables false
set_option linter.unusedSectionVars false
variable [FC]
/-- A function of one integer that is not known. -/
def knI (f0 : FuncId) (g : Int → Value) : Kn := fun f args => match Nat.beq f f0, args with
  | true, [.y (.int .i64 a)] => some (.y (g a), [])
  | _, _ => none
theorem knI_ok {P : Program} {f0 : FuncId} {g : Int → Value} (h : ∀ a w, Calls P f0 #[.int .i64 a] w fun e w' => e = .returned (g a) ∧ w = w') : KnOk P (knI f0 g) := by
  intro f args x cs hx
  unfold knI at hx
  split at hx
  · rename_i a hb
    simp only [Option.some.injEq, Prod.mk.injEq] at hx
    obtain ⟨rfl, rfl⟩ := hx
    have := Nat.eq_of_beq_eq_true hb
    subst this
    refine ⟨by simp [bd], fun tr B w => ?_⟩
    simpa [denL, den] using (h a w).mono fun e w' ⟨h1, h2⟩ => ⟨h1, h2 ▸ Below.refl _ _⟩
  · cases hx
/-- A function of two integers of which the first is not known. -/
def knII (f0 : FuncId) (g : Int → Int → Value) : Kn := fun f args => match Nat.beq f f0, args with
  | true, [.y (.int .i64 a), .y (.int .i64 k)] => some (.y (g a k), [])
  | true, [.y (.int .i64 a), .v (.int .i64 k)] => some (.y (g a k), [])
  | _, _ => none
theorem knII_ok {P : Program} {f0 : FuncId} {g : Int → Int → Value} (h : ∀ a k w, Calls P f0 #[.int .i64 a, .int .i64 k] w fun e w' => e = .returned (g a k) ∧ w = w') : KnOk P (knII f0 g) := by
  intro f args x cs hx
  unfold knII at hx
  split at hx
  · rename_i a k hb
    simp only [Option.some.injEq, Prod.mk.injEq] at hx
    obtain ⟨rfl, rfl⟩ := hx
    have := Nat.eq_of_beq_eq_true hb
    subst this
    refine ⟨by simp [bd], fun tr B w => ?_⟩
    simpa [denL, den] using (h a k w).mono fun e w' ⟨h1, h2⟩ => ⟨h1, h2 ▸ Below.refl _ _⟩
  · rename_i a k hb
    simp only [Option.some.injEq, Prod.mk.injEq] at hx
    obtain ⟨rfl, rfl⟩ := hx
    have := Nat.eq_of_beq_eq_true hb
    subst this
    refine ⟨by simp [bd], fun tr B w => ?_⟩
    simpa [denL, den] using (h a k w).mono fun e w' ⟨h1, h2⟩ => ⟨h1, h2 ▸ Below.refl _ _⟩
  · cases hx
end Go.Proofs.Ytnlcjlhcghgaoaa
