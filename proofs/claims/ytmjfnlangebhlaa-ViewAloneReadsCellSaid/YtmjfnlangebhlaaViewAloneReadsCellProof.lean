/- ViewAloneReadsCell: for three locations with arbitrary 8-bit versions and values, a read without interference returns the location's value, its clock stays unless the location is newer, in which case it becomes the global clock if all earlier reads are still valid, and the attempt is lost otherwise; only the reader bit may change, and it is set exactly if reads are visible and the attempt is not lost (and the example of the documentation holds). No condition. -/
import Derived.Test.YtmjfnlangebhlaaRows
import Derived.Test.YtmjfnlangebhlaaBase
import Derived.Test.YtmjfnlangebhlaaAux
import Derived.Test.YtmjfnlangebhlaaVbX
import Derived.WalkKit
import Derived.ProofKit
import Derived.OpenShut
import Derived.Lib.Hide
import Derived.Carry
namespace Go.Proofs.Ytmjfnlangebhlaa.viewAloneReadsCell
open Go.ChangeShapes Go.WideShapes Go.ChangeAt Go.RowKit
set_option linter.unusedVariables false

theorem walk (w : World) (mg ck rv lc : Int) (va vb vc : Value) (l0 l1 l2 : List Int) (hm : 0 ≤ mg ∧ mg ≤ 255) (hck : 0 ≤ ck ∧ ck ≤ 255) (hrv : 0 ≤ rv ∧ rv ≤ 255) (hlc : 0 ≤ lc ∧ lc ≤ 255) (r0 : U8Q w va l0) (r1 : U8Q w vb l1) (r2 : U8Q w vc l2) : Calls Try.prog 5 #[.agg #[.int .u8 mg, va, vb, .int .u8 ck, .int .u8 rv, vc, .int .u8 lc]] w fun e w' => e = .returned (.bool true) ∧ Below w.heap.size w w' :=
  view_all w mg ck rv lc va vb vc l0 l1 l2 hm hck hrv hlc r0 r1 r2

theorem own : ownKnob Try.prog.godebug = none := by kernel_rfl
theorem laidOut : laidOutB Try.prog = true := by kernel_rfl

set_option maxRecDepth 100000 in
theorem lifted (os : Os) (started : os.Started) (H : Type) (enc : TypeId × Value → H) :
    ReturnsInHanded {} Try.checked os 5 .any (Rows.viewAloneReadsCellSpec.pre6 enc Try.prog Try.f5 Rows.viewAloneReadsCellRow.domain false) (Rows.viewAloneReadsCellSpec.post enc Try.prog Try.f5 false true false false) := by
  refine returnsInHanded_of_change (C := Try.checked) own started (by kernel_rfl) Try.func5
    (ChangeSpec.witness6 (enc := enc) (C := Try.checked) false ⟨#[], #[.agg #[.int .u8 0, .slice none 0 0, .slice none 0 0, .int .u8 0, .int .u8 0, .slice none 0 0, .int .u8 0]], []⟩ 8 (by kernel_rfl) (by kernel_rfl) (by kernel_rfl) (by kernel_rfl)) ?_
  intro W base args ds gs before hval0 hW hcnd _
  have hval : ∀ (j : Nat) t v, Try.f5.params[j]? = some t → args[j]? = some v → Value.okWide Try.prog W .any base t v := hval0
  have hW' := hW
  obtain ⟨p, q, hA0, hV, rfl, hfz, hnd⟩ := hW
  have hA : DataW.TrodAll enc Try.prog W 0 (fun _ => true) true Try.f5.params.toList args.toList ds p := hA0
  rw [Try.params5] at hA hval
  obtain ⟨v0, vs0, d0, ds0, p0, q0, hargs, rfl, rfl, h0, r0⟩ := trodAll_cons hA
  obtain ⟨rfl, rfl, rfl⟩ := trodAll_nil r0
  obtain rfl : args = #[v0] := by cases args; simp_all
  obtain ⟨rfl, rfl⟩ := trodVars_none hV
  clear hA0 hval0
  simp only [List.append_nil] at hW'
  have lt0 : ∀ x ∈ p0, x.block < W.heap.size := fun x hx => hW'.lt x (by simp [hx])
  have back0 : ∀ W', Below W.heap.size W W' → DataW.Trod enc Try.prog W' 0 (fun b => decide (b < W.heap.size)) true 51 v0 d0 p0 := fun W' hb => Below.trod laidOut (by kernel_rfl) (of_decide_eq_true (by kernel_rfl)) h0 hb lt0
  obtain ⟨mg, ck, rv, lc, va, vb, vc, l0, l1, l2, rfl, hm, hck, hrv, hlc, r0, r1, r2⟩ := open_va (hval 0 51 v0 rfl rfl) h0
  refine (walk W mg ck rv lc va vb vc l0 l1 l2 hm hck hrv hlc r0 r1 r2).mono fun e W' ⟨he, hg⟩ => ?_
  subst he
  exact ⟨_, rfl, _, _, _, [], _, [], hW', (trodAll_cons_mk (shut_bool Try.underlying4 _) trodAll_mk0), (trodAll_cons_mk (back0 _ hg) trodAll_mk0), rfl, hg.frame _, fun h => by cases h⟩

theorem over : Rows.viewAloneReadsCellRow.holds Try.pinned (OpenSpec.ofChange Rows.viewAloneReadsCellSpec) :=
  OpenClaim.holds_of_wide 5 Try.f5 rfl rfl rfl rfl rfl rfl rfl ⟨rfl, rfl, rfl, rfl, rfl⟩ rfl rfl rfl rfl rfl (by kernel_rfl) Try.func5 (by kernel_rfl)
    (of_decide_eq_true (by kernel_rfl)) (by unfold Func.isWrapper; first | (rw [if_pos (by decide +kernel)]; kernel_rfl) | (rw [if_neg (by decide +kernel)]; exact ⟨rfl, rfl⟩))
    (fun os started H enc _ => lifted os started H enc)

/-- The given statement. -/
theorem proved : Rows.ViewAloneReadsCellSaid :=
  over
#print axioms proved
end Go.Proofs.Ytmjfnlangebhlaa.viewAloneReadsCell
