/-
  Merged: Rd0
-/
import Derived.Test.YtoijdnlplbeomaaDoorRows
import Derived.Test.YtoijdnlplbeomaaDoorPx5

/-
  Layer 8: the example, and how integers are brought into range.
-/
namespace Go.Proofs.YtoijdnlplbeomaaDoor
open Go Go.RowKit EX
set_option maxRecDepth 100000
set_option linter.unusedVariables false
set_option linter.unusedSimpArgs false
theorem sane08 (w : World) : Calls Tryd.prog 7 #[] w fun e w' => e = .returned (.bool true) ∧ Below w.heap.size w w' :=
  ex_val knNone_ok 100000 [] [] [] (by kernel_rfl) (by simp [denL]) trivial (by intro q hq; cases hq)
def ff : Value := .bool false
def tt : Value := .bool true
/-- Round, as the program does it. -/
def rnd (n : Int) : Int := if Int.tmod n 2199023255553 > 1099511627776 then Int.tmod n 2199023255553 - 2199023255553 else if Int.tmod n 2199023255553 < -1099511627776 then Int.tmod n 2199023255553 + 2199023255553 else Int.tmod n 2199023255553
theorem tmod_M (n : Int) : (0 ≤ n ∧ Int.tmod n 2199023255553 = n % 2199023255553) ∨ (n < 0 ∧ Int.tmod n 2199023255553 = -((-n) % 2199023255553)) := by
  by_cases h : 0 ≤ n
  · exact Or.inl ⟨h, Int.tmod_eq_emod_of_nonneg h⟩
  · refine Or.inr ⟨by omega, ?_⟩
    have := Int.neg_tmod (-n) 2199023255553
    rw [Int.neg_neg] at this
    rw [this, Int.tmod_eq_emod_of_nonneg (by omega)]
/-- Round, as the remainder that lies around zero. -/
theorem rnd_eq (n : Int) : rnd n = if n % 2199023255553 ≤ 1099511627776 then n % 2199023255553 else n % 2199023255553 - 2199023255553 := by
  unfold rnd
  rcases tmod_M n with ⟨h, e⟩ | ⟨h, e⟩ <;> rw [e] <;> split <;> (try split) <;> (try split) <;> omega
theorem rnd_range (n : Int) : -1099511627776 ≤ rnd n ∧ rnd n ≤ 1099511627776 := by
  rw [rnd_eq]; split <;> omega
def tm (n : Int) : Int := Int.tmod n 2199023255553
theorem tm_range (n : Int) : -2199023255553 < tm n ∧ tm n < 2199023255553 := by
  unfold tm
  rcases tmod_M n with ⟨h, e⟩ | ⟨h, e⟩ <;> rw [e] <;> omega
theorem round_any (n : Int) (w : World) : Calls Tryd.prog 17 #[.int .i64 n] w fun e w' => e = .returned (.int .i64 (rnd n)) ∧ Below w.heap.size w w' := by
  have hr := tm_range n
  by_cases h1 : tm n > 1099511627776
  · refine (ex_run (w := w) (x := .y (.int .i64 (IntKind.i64.wrap (tm n - 2199023255553)))) knNone_ok 100000 [.y (.int .i64 n)] [tt] [(.bool (decide (tm n > 1099511627776)), tt)] (by kernel_rfl) (by simp [denL, den]) (by simp [bdL, bd]) (by
      intro q hq
      simp only [List.mem_cons, List.not_mem_nil, or_false] at hq
      subst hq; simp [h1, tt])).mono ?_
    rintro e w' ⟨B, rfl, hb⟩
    have e1 : IntKind.i64.wrap (tm n - 2199023255553) = rnd n := by
      rw [IntKind.wrap_i64]
      have : rnd n = tm n - 2199023255553 := by unfold rnd; exact if_pos h1
      omega
    exact ⟨by rw [den, e1], hb⟩
  · by_cases h2 : tm n < -1099511627776
    · refine (ex_run (w := w) (x := .y (.int .i64 (IntKind.i64.wrap (tm n + 2199023255553)))) knNone_ok 100000 [.y (.int .i64 n)] [ff, tt] [(.bool (decide (tm n < -1099511627776)), tt), (.bool (decide (tm n > 1099511627776)), ff)] (by kernel_rfl) (by simp [denL, den]) (by simp [bdL, bd]) (by
        intro q hq
        simp only [List.mem_cons, List.not_mem_nil, or_false] at hq
        rcases hq with rfl | rfl
        · simp [h2, tt]
        · simp only [ff, Value.bool.injEq, decide_eq_false_iff_not]; exact h1)).mono ?_
      rintro e w' ⟨B, rfl, hb⟩
      have e1 : IntKind.i64.wrap (tm n + 2199023255553) = rnd n := by
        rw [IntKind.wrap_i64]
        have : rnd n = tm n + 2199023255553 := by unfold rnd; exact (if_neg h1).trans (if_pos h2)
        omega
      exact ⟨by rw [den, e1], hb⟩
    · refine (ex_run (w := w) (x := .y (.int .i64 (tm n))) knNone_ok 100000 [.y (.int .i64 n)] [ff, ff] [(.bool (decide (tm n < -1099511627776)), ff), (.bool (decide (tm n > 1099511627776)), ff)] (by kernel_rfl) (by simp [denL, den]) (by simp [bdL, bd]) (by
        intro q hq
        simp only [List.mem_cons, List.not_mem_nil, or_false] at hq
        rcases hq with rfl | rfl
        · simp only [ff, Value.bool.injEq, decide_eq_false_iff_not]; exact h2
        · simp only [ff, Value.bool.injEq, decide_eq_false_iff_not]; exact h1)).mono ?_
      rintro e w' ⟨B, rfl, hb⟩
      have e1 : tm n = rnd n := by unfold rnd; exact ((if_neg h1).trans (if_neg h2)).symm
      exact ⟨by rw [den, e1], hb⟩
theorem knI_ok' {P : Program} {f0 : FuncId} {g : Int → Value} (h : ∀ a w, Calls P f0 #[.int .i64 a] w fun e w' => e = .returned (g a) ∧ Below w.heap.size w w') : KnOk P (knI f0 g) := by
  intro f args x cs hx
  unfold knI at hx
  split at hx
  · rename_i a hb
    simp only [Option.some.injEq, Prod.mk.injEq] at hx
    obtain ⟨rfl, rfl⟩ := hx
    have := Nat.eq_of_beq_eq_true hb
    subst this
    refine ⟨by simp [bd], fun tr B w => ?_⟩
    simpa [denL, den] using h a w
  · cases hx
def kn8 : Kn := knOr (kn1 7 (.bool true)) (knI 17 fun a => .int .i64 (rnd a))
theorem kn8_ok : KnOk Tryd.prog kn8 := knOr_ok (kn1_ok sane08) (knI_ok' round_any)
end Go.Proofs.YtoijdnlplbeomaaDoor
