
/-
  Layer 8: the product of two integers in range.
-/
import Derived.Test.YtoijdnlplbeomaaDoorMd4
namespace Go.Proofs.YtoijdnlplbeomaaDoor
open Go Go.RowKit EX
set_option maxRecDepth 100000
set_option linter.unusedVariables false
set_option linter.unusedSimpArgs false
def askM (x y : Int) : List (Value × Value) := [pw (decide (0 ≤ x)) true, pw (decide (x ≤ 1099511627776)) true, pw (decide (0 ≤ y)) true, pw (decide (y ≤ 1099511627776)) true]
def askR (hi lo : Int) : List (Value × Value) := [pw (decide (0 ≤ hi)) true, pw (decide (hi ≤ 65536)) true, pw (decide (0 ≤ lo)) true, pw (decide (lo < 18446744073709551616)) true]
def knM : Kn := fun f args => match Nat.beq f MUL, args with
  | true, [.y (.int .u64 x), .y (.int .u64 y)] => some (.t [.y (.int .u64 (x * y / 18446744073709551616)), .y (.int .u64 (x * y % 18446744073709551616))], askM x y)
  | _, _ => none
theorem knM_ok : KnOk Tryd.prog knM := by
  intro f args x cs hx
  unfold knM at hx
  split at hx
  · rename_i a b hb
    simp only [Option.some.injEq, Prod.mk.injEq] at hx
    obtain ⟨rfl, rfl⟩ := hx
    have := Nat.eq_of_beq_eq_true hb
    subst this
    refine ⟨by simp [bd, bdL], fun tr B w => ?_⟩
    have h1 := tr (pw (decide (0 ≤ a)) true) (by simp [askM])
    have h2 := tr (pw (decide (a ≤ 1099511627776)) true) (by simp [askM])
    have h3 := tr (pw (decide (0 ≤ b)) true) (by simp [askM])
    have h4 := tr (pw (decide (b ≤ 1099511627776)) true) (by simp [askM])
    simp only [pw, Value.bool.injEq, decide_eq_true_eq] at h1 h2 h3 h4
    simpa [denL, den] using mul_any w a b h1 h2 h3 h4
  · cases hx
def knRe : Kn := fun f args => match Nat.beq f REM, args with
  | true, [.y (.int .u64 hi), .y (.int .u64 lo), .v (.int .u64 2199023255553)] => some (.y (.int .u64 ((hi * 18446744073709551616 + lo) % 2199023255553)), askR hi lo)
  | _, _ => none
theorem knRe_ok : KnOk Tryd.prog knRe := by
  intro f args x cs hx
  unfold knRe at hx
  split at hx
  · rename_i a b hb
    simp only [Option.some.injEq, Prod.mk.injEq] at hx
    obtain ⟨rfl, rfl⟩ := hx
    have := Nat.eq_of_beq_eq_true hb
    subst this
    refine ⟨by simp [bd], fun tr B w => ?_⟩
    have h1 := tr (pw (decide (0 ≤ a)) true) (by simp [askR])
    have h2 := tr (pw (decide (a ≤ 65536)) true) (by simp [askR])
    have h3 := tr (pw (decide (0 ≤ b)) true) (by simp [askR])
    have h4 := tr (pw (decide (b < 18446744073709551616)) true) (by simp [askR])
    simp only [pw, Value.bool.injEq, decide_eq_true_eq] at h1 h2 h3 h4
    simpa [denL, den] using rem_any w a b h1 h2 h3 h4
  · cases hx
def knX (R : Int → Int) : Kn := knOr (knI 17 fun a => .int .i64 (R a)) (knOr knM knRe)
theorem knX_ok : KnOk Tryd.prog (knX rnd) := knOr_ok (knI_ok' round_any) (knOr_ok knM_ok knRe_ok)
def mgP (a : Int) : Int := IntKind.u64.wrap a
def mgN (a : Int) : Int := IntKind.u64.wrap (IntKind.i64.wrap (0 - a))
def pr2 (x y : Int) : Int := (x * y / 18446744073709551616 * 18446744073709551616 + x * y % 18446744073709551616) % 2199023255553
def csTm (a b : Int) (sa sb s : Bool) (x y : Int) : List (Value × Value) := pw (decide (a < 0) != decide (b < 0)) s :: (askR (x * y / 18446744073709551616) (x * y % 18446744073709551616) ++ (askM x y ++ [pw (decide (b < 0)) sb, pw (decide (a < 0)) sa]))
abbrev TIM : FuncId := 45
theorem tim_00 (R : Int → Int) (hk : KnOk Tryd.prog (knX R)) (w : World) (a b : Int) (hc : ∀ q ∈ csTm a b false false false (mgP a) (mgP b), q.1 = q.2) : Calls Tryd.prog TIM #[.int .i64 a, .int .i64 b] w fun e w' => e = .returned (.int .i64 (R (IntKind.i64.wrap (pr2 (mgP a) (mgP b))))) ∧ Below w.heap.size w w' :=
  (ex_run (x := .y (.int .i64 (R (IntKind.i64.wrap (pr2 (mgP a) (mgP b)))))) hk 100000 [.y (.int .i64 a), .y (.int .i64 b)] [ff, ff, ff] (csTm a b false false false (mgP a) (mgP b)) (by kernel_rfl) (by simp [denL, den]) (by simp [bdL, bd]) hc).mono fun e w' ⟨B, h1, h2⟩ => ⟨by rw [h1, den], h2⟩
theorem tim_01 (R : Int → Int) (hk : KnOk Tryd.prog (knX R)) (w : World) (a b : Int) (hc : ∀ q ∈ csTm a b false true true (mgP a) (mgN b), q.1 = q.2) : Calls Tryd.prog TIM #[.int .i64 a, .int .i64 b] w fun e w' => e = .returned (.int .i64 (R (IntKind.i64.wrap (0 - IntKind.i64.wrap (pr2 (mgP a) (mgN b)))))) ∧ Below w.heap.size w w' :=
  (ex_run (x := .y (.int .i64 (R (IntKind.i64.wrap (0 - IntKind.i64.wrap (pr2 (mgP a) (mgN b))))))) hk 100000 [.y (.int .i64 a), .y (.int .i64 b)] [ff, tt, tt] (csTm a b false true true (mgP a) (mgN b)) (by kernel_rfl) (by simp [denL, den]) (by simp [bdL, bd]) hc).mono fun e w' ⟨B, h1, h2⟩ => ⟨by rw [h1, den], h2⟩
theorem tim_10 (R : Int → Int) (hk : KnOk Tryd.prog (knX R)) (w : World) (a b : Int) (hc : ∀ q ∈ csTm a b true false true (mgN a) (mgP b), q.1 = q.2) : Calls Tryd.prog TIM #[.int .i64 a, .int .i64 b] w fun e w' => e = .returned (.int .i64 (R (IntKind.i64.wrap (0 - IntKind.i64.wrap (pr2 (mgN a) (mgP b)))))) ∧ Below w.heap.size w w' :=
  (ex_run (x := .y (.int .i64 (R (IntKind.i64.wrap (0 - IntKind.i64.wrap (pr2 (mgN a) (mgP b))))))) hk 100000 [.y (.int .i64 a), .y (.int .i64 b)] [tt, ff, tt] (csTm a b true false true (mgN a) (mgP b)) (by kernel_rfl) (by simp [denL, den]) (by simp [bdL, bd]) hc).mono fun e w' ⟨B, h1, h2⟩ => ⟨by rw [h1, den], h2⟩
theorem tim_11 (R : Int → Int) (hk : KnOk Tryd.prog (knX R)) (w : World) (a b : Int) (hc : ∀ q ∈ csTm a b true true false (mgN a) (mgN b), q.1 = q.2) : Calls Tryd.prog TIM #[.int .i64 a, .int .i64 b] w fun e w' => e = .returned (.int .i64 (R (IntKind.i64.wrap (pr2 (mgN a) (mgN b))))) ∧ Below w.heap.size w w' :=
  (ex_run (x := .y (.int .i64 (R (IntKind.i64.wrap (pr2 (mgN a) (mgN b)))))) hk 100000 [.y (.int .i64 a), .y (.int .i64 b)] [tt, tt, ff] (csTm a b true true false (mgN a) (mgN b)) (by kernel_rfl) (by simp [denL, den]) (by simp [bdL, bd]) hc).mono fun e w' ⟨B, h1, h2⟩ => ⟨by rw [h1, den], h2⟩
end Go.Proofs.YtoijdnlplbeomaaDoor
