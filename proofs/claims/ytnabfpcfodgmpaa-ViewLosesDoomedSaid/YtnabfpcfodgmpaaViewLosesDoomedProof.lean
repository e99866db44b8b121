/- ViewLosesDoomed: for every 8-bit version, value and attempt number, a read by a doomed attempt is lost, and so is, under the timid manager, a read of a location that an active or committing thread has locked; neither changes the memory. No condition. -/
import Derived.Test.YtnabfpcfodgmpaaRows
import Derived.Test.YtnabfpcfodgmpaaBase
import Derived.Test.YtnabfpcfodgmpaaAux
import Derived.Test.YtnabfpcfodgmpaaWord2
import Derived.Test.YtnabfpcfodgmpaaVd0
import Derived.Test.YtnabfpcfodgmpaaVd1
import Derived.Test.YtnabfpcfodgmpaaVdO
import Derived.WalkKit
import Derived.ProofKit
import Derived.OpenShut
import Derived.Lib.Hide
import Derived.Carry
namespace Go.Proofs.Ytnabfpcfodgmpaa.viewLosesDoomed
open Go.ChangeShapes Go.WideShapes Go.ChangeAt Go.RowKit
set_option linter.unusedVariables false

theorem walk (w : World) (m o p : Int) (b c : Bool) (h1 : 0 ≤ m ∧ m ≤ 255) (h2 : 0 ≤ o ∧ o ≤ 255) (h3 : 0 ≤ p ∧ p ≤ 255) : Calls Try.prog 6 #[.agg #[.int .u8 m, .int .u8 o, .int .u8 p, .bool b, .bool c]] w fun e w' => e = .returned (.bool true) ∧ Below w.heap.size w w' := by
  cases b with
  | false => exact doom_a w m o p c h1 h3
  | true =>
    cases c with
    | false => exact doom_b w m o p h3
    | true => exact doom_c w m o p h3

theorem own : ownKnob Try.prog.godebug = none := by kernel_rfl
theorem laidOut : laidOutB Try.prog = true := by kernel_rfl

set_option maxRecDepth 100000 in
theorem lifted (os : Os) (started : os.Started) (H : Type) (enc : TypeId × Value → H) :
    ReturnsInHanded {} Try.checked os 6 .any (Rows.viewLosesDoomedSpec.pre6 enc Try.prog Try.f6 Rows.viewLosesDoomedRow.domain false) (Rows.viewLosesDoomedSpec.post enc Try.prog Try.f6 false true false false) := by
  refine returnsInHanded_of_change (C := Try.checked) own started (by kernel_rfl) Try.func6
    (ChangeSpec.witness6 (enc := enc) (C := Try.checked) false ⟨#[], #[.agg #[.int .u8 0, .int .u8 0, .int .u8 0, .bool false, .bool false]], []⟩ 8 (by kernel_rfl) (by kernel_rfl) (by kernel_rfl) (by kernel_rfl)) ?_
  intro W base args ds gs before hval0 hW hcnd _
  have hval : ∀ (j : Nat) t v, Try.f6.params[j]? = some t → args[j]? = some v → Value.okWide Try.prog W .any base t v := hval0
  have hW' := hW
  obtain ⟨p, q, hA0, hV, rfl, hfz, hnd⟩ := hW
  have hA : DataW.TrodAll enc Try.prog W 0 (fun _ => true) true Try.f6.params.toList args.toList ds p := hA0
  rw [Try.params6] at hA hval
  obtain ⟨v0, vs0, d0, ds0, p0, q0, hargs, rfl, rfl, h0, r0⟩ := trodAll_cons hA
  obtain ⟨rfl, rfl, rfl⟩ := trodAll_nil r0
  obtain rfl : args = #[v0] := by cases args; simp_all
  obtain ⟨rfl, rfl⟩ := trodVars_none hV
  clear hA0 hval0
  simp only [List.append_nil] at hW'
  have lt0 : ∀ x ∈ p0, x.block < W.heap.size := fun x hx => hW'.lt x (by simp [hx])
  have back0 : ∀ W', Below W.heap.size W W' → DataW.Trod enc Try.prog W' 0 (fun b => decide (b < W.heap.size)) true 68 v0 d0 p0 := fun W' hb => Below.trod laidOut (by kernel_rfl) (of_decide_eq_true (by kernel_rfl)) h0 hb lt0
  obtain ⟨m0, o0, u0, b0, c0, rfl, ia0, ib0, ic0⟩ := open_vd (hval 0 68 v0 rfl rfl) h0
  refine (walk W m0 o0 u0 b0 c0 ia0 ib0 ic0).mono fun e W' ⟨he, hg⟩ => ?_
  subst he
  exact ⟨_, rfl, _, _, _, [], _, [], hW', (trodAll_cons_mk (shut_bool Try.underlying4 _) trodAll_mk0), (trodAll_cons_mk (back0 _ hg) trodAll_mk0), rfl, hg.frame _, fun h => by cases h⟩

theorem over : Rows.viewLosesDoomedRow.holds Try.pinned (OpenSpec.ofChange Rows.viewLosesDoomedSpec) :=
  OpenClaim.holds_of_wide 6 Try.f6 rfl rfl rfl rfl rfl rfl rfl ⟨rfl, rfl, rfl, rfl, rfl⟩ rfl rfl rfl rfl rfl (by kernel_rfl) Try.func6 (by kernel_rfl)
    (of_decide_eq_true (by kernel_rfl)) (by unfold Func.isWrapper; first | (rw [if_pos (by decide +kernel)]; kernel_rfl) | (rw [if_neg (by decide +kernel)]; exact ⟨rfl, rfl⟩))
    (fun os started H enc _ => lifted os started H enc)

/-- The given statement. -/
theorem proved : Rows.ViewLosesDoomedSaid :=
  over
#print axioms proved
end Go.Proofs.Ytnabfpcfodgmpaa.viewLosesDoomed
