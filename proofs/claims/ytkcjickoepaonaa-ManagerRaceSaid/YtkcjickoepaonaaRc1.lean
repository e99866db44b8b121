
/-
  Layer 17: a race with the manager.
-/
import Derived.Test.YtkcjickoepaonaaRc0
namespace Go.Proofs.Ytkcjickoepaonaa
open Go Go.RowKit EX
set_option maxRecDepth 100000
set_option linter.unusedVariables false
def ff : Value := .bool false
def tt : Value := .bool true
/-- The first status word, and the second. -/
def sw (a : Int) : Int := wrap64 (4 * IntKind.i64.wrap a + 1 % 4)
def tw (b c : Int) : Int := wrap64 (4 * IntKind.i64.wrap b + IntKind.i64.wrap (Int.tmod c 4) % 4)
def csR (a b c : Int) : List (Value × Value) :=
  [(.bool (tw b c != tw b c), ff), (.bool (tw b c == sw a), ff), (.bool (!(tw b c == sw a)), tt), (.bool (sw a % 4 == 1), tt), (.bool (sw a % 4 == 0), ff), (.bool (tw b c == sw a), ff), (.bool (sw a % 4 == 1), tt), (.bool (sw a % 4 == 0), ff), (.bool (sw a % 4 == 0), ff), (.bool (sw a % 4 == 0), ff)]
theorem csR_ok {a b c : Int} (ha : 0 ≤ a ∧ a ≤ 255) (h : ¬tw b c = sw a) : ∀ q ∈ csR a b c, q.1 = q.2 := by
  have e : sw a % 4 = 1 := by unfold sw wrap64; rw [IntKind.wrap_i64]; omega
  intro q hq
  simp only [csR, List.mem_cons, List.not_mem_nil, or_false] at hq
  rcases hq with rfl | rfl | rfl | rfl | rfl | rfl | rfl | rfl | rfl | rfl <;> simp [e, h, ff, tt]
theorem race_no (w : World) (a b c : Int) (ha : 0 ≤ a ∧ a ≤ 255) (h : ¬tw b c = sw a) : Calls Try.prog 3 #[.int .u8 a, .int .u8 b, .int .u8 c] w fun e w' => e = .returned (.bool true) ∧ Below w.heap.size w w' :=
  ex_val kn17_ok 100000 [.y (.int .u8 a), .y (.int .u8 b), .y (.int .u8 c)] [ff, ff, ff, tt, ff, ff, tt, tt, ff, ff] (csR a b c) (by kernel_rfl) (by simp [denL, den]) (by simp [bdL, bd]) (csR_ok ha h)
def csS (a b c : Int) : List (Value × Value) :=
  [(.bool (tw b c == sw a), tt), (.bool (!(tw b c == sw a)), ff), (.bool (sw a % 4 == 1), tt), (.bool (sw a % 4 == 0), ff), (.bool (tw b c == sw a), tt), (.bool (sw a % 4 == 1), tt), (.bool (sw a % 4 == 0), ff), (.bool (sw a % 4 == 0), ff), (.bool (sw a % 4 == 0), ff)]
theorem csS_ok {a b c : Int} (ha : 0 ≤ a ∧ a ≤ 255) (h : tw b c = sw a) : ∀ q ∈ csS a b c, q.1 = q.2 := by
  have e : sw a % 4 = 1 := by unfold sw wrap64; rw [IntKind.wrap_i64]; omega
  intro q hq
  simp only [csS, List.mem_cons, List.not_mem_nil, or_false] at hq
  rcases hq with rfl | rfl | rfl | rfl | rfl | rfl | rfl | rfl | rfl <;> simp [e, h, ff, tt]
theorem race_yes (w : World) (a b c : Int) (ha : 0 ≤ a ∧ a ≤ 255) (h : tw b c = sw a) : Calls Try.prog 3 #[.int .u8 a, .int .u8 b, .int .u8 c] w fun e w' => e = .returned (.bool true) ∧ Below w.heap.size w w' :=
  ex_val kn17_ok 100000 [.y (.int .u8 a), .y (.int .u8 b), .y (.int .u8 c)] [ff, ff, ff, tt, tt, ff, tt, ff, tt] (csS a b c) (by kernel_rfl) (by simp [denL, den]) (by simp [bdL, bd]) (csS_ok ha h)
end Go.Proofs.Ytkcjickoepaonaa
