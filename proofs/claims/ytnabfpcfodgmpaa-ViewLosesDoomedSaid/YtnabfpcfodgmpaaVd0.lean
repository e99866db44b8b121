
/-
  Layer 19: what is known of words, and the example.
-/
import Derived.Test.YtnabfpcfodgmpaaRows
import Derived.Test.YtnabfpcfodgmpaaBase
import Derived.Test.YtnabfpcfodgmpaaAux
import Derived.Test.YtnabfpcfodgmpaaWord2
import Derived.Test.YtnabfpcfodgmpaaEp
namespace Go.Proofs.Ytnabfpcfodgmpaa
open Go Go.RowKit EX
set_option maxRecDepth 100000
set_option linter.unusedVariables false
theorem sane19 (w : World) : Calls Try.prog 18 #[] w fun e w' => e = .returned (.bool true) ∧ Below w.heap.size w w' :=
  ex_val knNone_ok 100000 [] [] [] (by kernel_rfl) (by simp [denL]) trivial (by intro q hq; cases hq)
/-- A function of one integer that is not known. -/
def knI (f0 : FuncId) (g : Int → Value) : Kn := fun f args => match Nat.beq f f0, args with
  | true, [.y (.int .i64 a)] => some (.y (g a), [])
  | _, _ => none
theorem knI_ok {P : Program} {f0 : FuncId} {g : Int → Value} (h : ∀ a w, Calls P f0 #[.int .i64 a] w fun e w' => e = .returned (g a) ∧ w = w') : KnOk P (knI f0 g) := by
  intro f args x cs hx
  unfold knI at hx
  split at hx
  · rename_i a hb
    simp only [Option.some.injEq, Prod.mk.injEq] at hx
    obtain ⟨rfl, rfl⟩ := hx
    have := Nat.eq_of_beq_eq_true hb
    subst this
    refine ⟨by simp [bd], fun tr B w => ?_⟩
    simpa [denL, den] using (h a w).mono fun e w' ⟨h1, h2⟩ => ⟨h1, h2 ▸ Below.refl _ _⟩
  · cases hx
/-- A function of two integers of which the first is not known. -/
def knII (f0 : FuncId) (g : Int → Int → Value) : Kn := fun f args => match Nat.beq f f0, args with
  | true, [.y (.int .i64 a), .y (.int .i64 k)] => some (.y (g a k), [])
  | true, [.y (.int .i64 a), .v (.int .i64 k)] => some (.y (g a k), [])
  | _, _ => none
theorem knII_ok {P : Program} {f0 : FuncId} {g : Int → Int → Value} (h : ∀ a k w, Calls P f0 #[.int .i64 a, .int .i64 k] w fun e w' => e = .returned (g a k) ∧ w = w') : KnOk P (knII f0 g) := by
  intro f args x cs hx
  unfold knII at hx
  split at hx
  · rename_i a k hb
    simp only [Option.some.injEq, Prod.mk.injEq] at hx
    obtain ⟨rfl, rfl⟩ := hx
    have := Nat.eq_of_beq_eq_true hb
    subst this
    refine ⟨by simp [bd], fun tr B w => ?_⟩
    simpa [denL, den] using (h a k w).mono fun e w' ⟨h1, h2⟩ => ⟨h1, h2 ▸ Below.refl _ _⟩
  · rename_i a k hb
    simp only [Option.some.injEq, Prod.mk.injEq] at hx
    obtain ⟨rfl, rfl⟩ := hx
    have := Nat.eq_of_beq_eq_true hb
    subst this
    refine ⟨by simp [bd], fun tr B w => ?_⟩
    simpa [denL, den] using (h a k w).mono fun e w' ⟨h1, h2⟩ => ⟨h1, h2 ▸ Below.refl _ _⟩
  · cases hx
def kn19 : Kn := knOr (kn1 18 (.bool true)) (knOr (knI 100 fun a => .bool (decide (a % 2 = 1))) (knOr (knI 109 fun a => .int .i64 (a % 4)) (knOr (knI 104 fun a => .int .i64 (a / 2)) (knII 26 fun t k => .int .i64 (wrap64 (4 * t + k % 4))))))
theorem kn19_ok : KnOk Try.prog kn19 :=
  knOr_ok (kn1_ok sane19) (knOr_ok (knI_ok locked_any) (knOr_ok (knI_ok kind_any) (knOr_ok (knI_ok ver_any) (knII_ok rwstatus_any))))
end Go.Proofs.Ytnabfpcfodgmpaa
