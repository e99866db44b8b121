
/-
  Layer 16: what is known of lock words, and the example; rows that are given.
-/
import Derived.Test.YtmjfnlangebhlaaLv0
namespace Go.Proofs.Ytmjfnlangebhlaa
open Go Go.RowKit EX
set_option maxRecDepth 100000
set_option linter.unusedVariables false
set_option linter.unusedSimpArgs false
def fv : Value := .bool false
def tv : Value := .bool true
/-- One given row. -/
abbrev fcRow (b o : Nat) (cs : List SV) : FC := ⟨fun _ => b, fun _ => o, fun i => Nat.casesOn (motive := fun _ => List SV) i cs (fun _ => [])⟩
theorem fcRow_at {b o : Nat} {cs : List SV} {w : World} (h : ∀ j x, cs[j]? = some x → w.cell? ⟨b, o + j, none⟩ = some (@den noFC (fun _ => (0, 0)) x)) (hs : ∀ x ∈ cs, ∃ v, x = .y v) : @FcAt (fcRow b o cs) w := by
  intro i j x hx
  cases i with
  | zero =>
    have hx' : cs[j]? = some x := hx
    have h1 := h j x hx'
    obtain ⟨v, rfl⟩ := hs x (List.mem_of_getElem? hx')
    exact ⟨h1, by simp [bd]⟩
  | succ k => cases hx
section
variable [FC]
/-- A function of one integer that is not known, in range. -/
def knR (f0 : FuncId) (g : Int → Value) : Kn := fun f args => match Nat.beq f f0, args with
  | true, [.y (.int .i64 a)] => some (.y (g a), [(.bool (decide (-9223372036854775808 ≤ a)), .bool true), (.bool (decide (a ≤ 9223372036854775807)), .bool true)])
  | _, _ => none
theorem knR_ok {P : Program} {f0 : FuncId} {g : Int → Value} (h : ∀ a, I64 a → ∀ w, Calls P f0 #[.int .i64 a] w fun e w' => e = .returned (g a) ∧ w = w') : KnOk P (knR f0 g) := by
  intro f args x cs hx
  unfold knR at hx
  split at hx
  · rename_i a hb
    simp only [Option.some.injEq, Prod.mk.injEq] at hx
    obtain ⟨rfl, rfl⟩ := hx
    have := Nat.eq_of_beq_eq_true hb
    subst this
    refine ⟨by simp [bd], fun tr B w => ?_⟩
    have c1 := tr _ (List.mem_cons_self ..)
    have c2 := tr _ (List.mem_cons_of_mem _ (List.mem_cons_self ..))
    simp only [Value.bool.injEq, decide_eq_true_eq] at c1 c2
    simpa [denL, den] using (h a ⟨c1, c2⟩ w).mono fun e w' ⟨h1, h2⟩ => ⟨h1, h2 ▸ Below.refl _ _⟩
  · cases hx
def kn16q : Kn := knOr (kn1 8 (.bool true)) (knOr (knI 114 fun a => .bool (decide (a % 2 = 1))) (knOr (knI 117 fun a => .int .i64 (a / 2)) (knOr (knI 115 fun a => .int .i64 (a / 2)) (knOr (knI 118 fun a => .int .i64 (wrap64 (2 * a))) (knOr (knI 116 fun a => .int .i64 (wrap64 (2 * a + 1)))
  (knOr (knI 90 fun a => .bool (decide (a % 2 = 1))) (knOr (knR 94 fun a => .int .i64 (a / 2)) (knOr (knR 91 fun a => .int .i64 (a / 2)) (knOr (knI 96 fun a => .int .i64 (wrap64 (2 * a))) (knI 93 fun a => .int .i64 (wrap64 (2 * a + 1))))))))))))
theorem kn16q_ok : KnOk Try.prog kn16q :=
  knOr_ok (kn1_ok sane16) (knOr_ok (knI_ok locked_any) (knOr_ok (knI_ok ver_any) (knOr_ok (knI_ok who_any) (knOr_ok (knI_ok free_any) (knOr_ok (knI_ok held_any)
    (knOr_ok (knI_ok rlocked_any) (knOr_ok (knR_ok rver_any) (knOr_ok (knR_ok rwho_any) (knOr_ok (knI_ok rfree_any) (knI_ok rheld_any))))))))))
end
def hd (m : Int) : Int := wrap64 (2 * IntKind.i64.wrap (Int.tmod m 3) + 1)
def fr (b : Int) : Int := wrap64 (2 * b)
end Go.Proofs.Ytmjfnlangebhlaa
