
/-
  Layer 21: the example of the documentation: its first part, and the whole.
-/
import Derived.Test.YtmjfnlangebhlaaWk1
namespace Go.Proofs.Ytmjfnlangebhlaa
open Go Go.RowKit EX
set_option maxRecDepth 100000
set_option linter.unusedVariables false
set_option maxHeartbeats 4000000 in
theorem part1 (w : World) : EX.Good Try.prog w (post21 w) (fr0 26 Try.f26 []) [.code sb21] ⟨⟨.leaf, 0, []⟩, [], []⟩ :=
  cut_mid (kgRow_ok rowRouse_ok) 100000 14 tl1 kl1 ns1 (cs := []) (by kernel_rfl) (by intro q hq; cases hq) (by decide) (by kernel_rfl) (part2 w)
theorem sane21 (w : World) : Calls Try.prog 26 #[] w fun e w' => e = .returned (.bool true) ∧ Below w.heap.size w w' :=
  cut_all (c := sb21) Try.func26 (by kernel_rfl) (part1 w) (fcAt_none w)
end Go.Proofs.Ytmjfnlangebhlaa
