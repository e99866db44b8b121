/-
  Merged: Tw3
-/
import Derived.Test.YtoijdnlplbeomaaDoorPx9
import Derived.WalkSmall

/-
  Layer 8: the program's check of a value.
-/
namespace Go.Proofs.YtoijdnlplbeomaaDoor
set_option linter.unusedVariables false
set_option linter.unusedSimpArgs false
open Go.ChangeShapes Go.WideShapes Go.ChangeAt Go.RowKit
set_option maxRecDepth 100000
/-- The fault that leaves the recursion. -/
def ckE : Ending := .panicked [{ v := .iface 34 (.int .i64 1), recovered := false }]
theorem check_0 (h : VH) (w : World) (D : Int) (hD : decide (D > 40) = true) : Calls Tryd.prog 28 #[h.v, .int .i64 D] w fun e w' => e = ckE ∧ Below w.heap.size w w' := by
  have hD2 : D > 40 := by simpa using hD
  unfold VH.v ckE
  go_enter Tryd.func28, Tryd.ntmps28
  go_wp2
  all_goals exact ⟨rfl, rfl, below_new1 _ _⟩
theorem check_own (h : VH) (w : World) (hok : h.ok) (D : Int) (hD : decide (D > 40) = false) (ho : ownB h = false) : Calls Tryd.prog 28 #[h.v, .int .i64 D] w fun e w' => e = ckE ∧ Below w.heap.size w w' := by
  have H0 := head_is h hok
  rw [ho] at H0
  have H := Lib.hid H0
  clear H0 hok ho
  unfold VH.v ckE
  go_enter Tryd.func28, Tryd.ntmps28
  go_wp2_with (first | (go_at_call 37; refine (H.out _).mono ?_; rintro e w1 ⟨rfl, hb⟩))
  all_goals exact ⟨rfl, rfl, (below_new1 _ _).trans (hb.mono (by simp))⟩
end Go.Proofs.YtoijdnlplbeomaaDoor
