
/-
  Layer 22: the example of the documentation; a sector full of one byte.
-/
import Derived.Test.YtnlcjlhcghgaoaaRows
import Derived.Test.YtnlcjlhcghgaoaaBase
import Derived.Test.YtnlcjlhcghgaoaaShD
import Derived.Test.YtnlcjlhcghgaoaaKni
namespace Go.Proofs.Ytnlcjlhcghgaoaa
open Go Go.RowKit EX
set_option maxRecDepth 100000
set_option linter.unusedVariables false
set_option linter.unusedSimpArgs false
def z32 : ByteArray := ⟨Array.replicate 32 0⟩
theorem rep_32 (w : World) : Calls Try.prog 25 #[.string ⟨#[0]⟩, .int .i64 32] w fun e w' => e = .returned (.string z32) ∧ Below w.heap.size w w' :=
  (Try.strings_Repeat_main ⟨#[0]⟩ 32 w (by decide) (by decide) (by decide) (by decide)).mono fun e w' h => ⟨by rw [h.1]; rfl, h.2⟩
theorem sane22 (w : World) : Calls Try.prog 7 #[] w fun e w' => e = .returned (.bool true) ∧ Below w.heap.size w w' :=
  @ex_valG noFC _ (kgAt 25 [.string ⟨#[0]⟩, .int .i64 32] (.v (.string z32))) (kgAt_ok (by simp [bd]) fun w _ => by simpa [den] using rep_32 w) 100000 _ _ [] [] _ [(.string ⟨#[0]⟩, .string ⟨#[0]⟩), (.int .i64 32, .int .i64 32), (.string ⟨#[0]⟩, .string ⟨#[0]⟩), (.int .i64 32, .int .i64 32)] w (by kernel_rfl) (by simp [denL]) trivial (by intro q hq; simp only [List.mem_cons, List.not_mem_nil, or_false] at hq; rcases hq with rfl | rfl | rfl | rfl <;> rfl) (fcAt_none _)
/-- A sector full of one byte. -/
def fullS (c : Int) : ByteArray := byteS (List.replicate 32 c)
set_option maxHeartbeats 4000000 in
theorem full_any (c : Int) (w : World) : Calls Try.prog 24 #[.int .u8 c] w fun e w' => e = .returned (.string (fullS c)) ∧ Below w.heap.size w w' :=
  ex_val knNone_ok 100000 [.y (.int .u8 c)] [] [] (by kernel_rfl) (by simp [denL, den]) (by simp [bdL, bd]) (by intro q hq; cases hq)
theorem full_size (c : Int) : (fullS c).size = 32 := by kernel_rfl
theorem full_0 : fullS 0 = z32 := by decide
end Go.Proofs.Ytnlcjlhcghgaoaa
