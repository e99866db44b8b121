/- WaitAloneCounts: for up to three distinct locations, Watch without interference makes one store, two accesses per registration, one per validation and two per deregistration, and Sleep makes one access while the thread is not woken (and the example of the documentation holds). No condition. -/
import Derived.Test.YtmjfnlangebhlaaRows
import Derived.Test.YtmjfnlangebhlaaBase
import Derived.Test.YtmjfnlangebhlaaAux
import Derived.Test.YtmjfnlangebhlaaWa1
import Derived.Test.YtmjfnlangebhlaaWa2
import Derived.Test.YtmjfnlangebhlaaWa3
import Derived.Test.YtmjfnlangebhlaaWa4
import Derived.WalkKit
import Derived.ProofKit
import Derived.OpenShut
import Derived.Lib.Hide
import Derived.Carry
namespace Go.Proofs.Ytmjfnlangebhlaa.waitAloneCounts
open Go.ChangeShapes Go.WideShapes Go.ChangeAt Go.RowKit
set_option linter.unusedVariables false

theorem walk (w : World) (a : Int) (h1 : (Lit.int .u8 a).wf = true) (c : Int) (h2 : (Lit.int .u8 c).wf = true) : Calls Try.prog 7 #[.int .u8 a, .int .u8 c] w fun e w' => e = .returned (.bool true) ∧ Below w.heap.size w w' := by
  cases h0 : mB a 1 with
  | true =>
    cases h1 : mB a 2 with
    | true =>
      cases h2 : mB a 4 with
      | true =>
        exact wa_AAA w a c h0 h1 h2
      | false =>
        cases g2 : cB c 4 with
        | false =>
          exact wa_AAU w a c h0 h1 h2 g2
        | true =>
          exact wa_AAC w a c h0 h1 h2 g2
    | false =>
      cases g1 : cB c 2 with
      | false =>
        cases h2 : mB a 4 with
        | true =>
          exact wa_AUA w a c h0 h1 g1 h2
        | false =>
          cases g2 : cB c 4 with
          | false =>
            exact wa_AUU w a c h0 h1 g1 h2 g2
          | true =>
            exact wa_AUC w a c h0 h1 g1 h2 g2
      | true =>
        cases h2 : mB a 4 with
        | true =>
          exact wa_ACA w a c h0 h1 g1 h2
        | false =>
          cases g2 : cB c 4 with
          | false =>
            exact wa_ACU w a c h0 h1 g1 h2 g2
          | true =>
            exact wa_ACC w a c h0 h1 g1 h2 g2
  | false =>
    cases g0 : cB c 1 with
    | false =>
      cases h1 : mB a 2 with
      | true =>
        cases h2 : mB a 4 with
        | true =>
          exact wa_UAA w a c h0 g0 h1 h2
        | false =>
          cases g2 : cB c 4 with
          | false =>
            exact wa_UAU w a c h0 g0 h1 h2 g2
          | true =>
            exact wa_UAC w a c h0 g0 h1 h2 g2
      | false =>
        cases g1 : cB c 2 with
        | false =>
          cases h2 : mB a 4 with
          | true =>
            exact wa_UUA w a c h0 g0 h1 g1 h2
          | false =>
            cases g2 : cB c 4 with
            | false =>
              exact wa_UUU w a c h0 g0 h1 g1 h2 g2
            | true =>
              exact wa_UUC w a c h0 g0 h1 g1 h2 g2
        | true =>
          cases h2 : mB a 4 with
          | true =>
            exact wa_UCA w a c h0 g0 h1 g1 h2
          | false =>
            cases g2 : cB c 4 with
            | false =>
              exact wa_UCU w a c h0 g0 h1 g1 h2 g2
            | true =>
              exact wa_UCC w a c h0 g0 h1 g1 h2 g2
    | true =>
      cases h1 : mB a 2 with
      | true =>
        cases h2 : mB a 4 with
        | true =>
          exact wa_CAA w a c h0 g0 h1 h2
        | false =>
          cases g2 : cB c 4 with
          | false =>
            exact wa_CAU w a c h0 g0 h1 h2 g2
          | true =>
            exact wa_CAC w a c h0 g0 h1 h2 g2
      | false =>
        cases g1 : cB c 2 with
        | false =>
          cases h2 : mB a 4 with
          | true =>
            exact wa_CUA w a c h0 g0 h1 g1 h2
          | false =>
            cases g2 : cB c 4 with
            | false =>
              exact wa_CUU w a c h0 g0 h1 g1 h2 g2
            | true =>
              exact wa_CUC w a c h0 g0 h1 g1 h2 g2
        | true =>
          cases h2 : mB a 4 with
          | true =>
            exact wa_CCA w a c h0 g0 h1 g1 h2
          | false =>
            cases g2 : cB c 4 with
            | false =>
              exact wa_CCU w a c h0 g0 h1 g1 h2 g2
            | true =>
              exact wa_CCC w a c h0 g0 h1 g1 h2 g2

theorem own : ownKnob Try.prog.godebug = none := by kernel_rfl
theorem laidOut : laidOutB Try.prog = true := by kernel_rfl

set_option maxRecDepth 100000 in
theorem lifted (os : Os) (started : os.Started) (H : Type) (enc : TypeId × Value → H) :
    ReturnsInHanded {} Try.checked os 7 .any (Rows.waitAloneCountsSpec.pre6 enc Try.prog Try.f7 Rows.waitAloneCountsRow.domain false) (Rows.waitAloneCountsSpec.post enc Try.prog Try.f7 false true false false) := by
  refine returnsInHanded_of_change (C := Try.checked) own started (by kernel_rfl) Try.func7
    (ChangeSpec.witness6 (enc := enc) (C := Try.checked) false ⟨#[], #[.int .u8 0, .int .u8 0], []⟩ 8 (by kernel_rfl) (by kernel_rfl) (by kernel_rfl) (by kernel_rfl)) ?_
  intro W base args ds gs before hval0 hW hcnd _
  have hval : ∀ (j : Nat) t v, Try.f7.params[j]? = some t → args[j]? = some v → Value.okWide Try.prog W .any base t v := hval0
  have hW' := hW
  obtain ⟨p, q, hA0, hV, rfl, hfz, hnd⟩ := hW
  have hA : DataW.TrodAll enc Try.prog W 0 (fun _ => true) true Try.f7.params.toList args.toList ds p := hA0
  rw [Try.params7] at hA hval
  obtain ⟨v0, vs0, d0, ds0, p0, q0, hargs, rfl, rfl, h0, r0⟩ := trodAll_cons hA
  obtain ⟨v1, vs1, d1, ds1, p1, q1, rfl, rfl, rfl, h1, r1⟩ := trodAll_cons r0
  obtain ⟨rfl, rfl, rfl⟩ := trodAll_nil r1
  obtain rfl : args = #[v0, v1] := by cases args; simp_all
  obtain ⟨rfl, rfl⟩ := trodVars_none hV
  clear hA0 hval0
  simp only [List.append_nil] at hW'
  have lt0 : ∀ x ∈ p0, x.block < W.heap.size := fun x hx => hW'.lt x (by simp [hx])
  have lt1 : ∀ x ∈ p1, x.block < W.heap.size := fun x hx => hW'.lt x (by simp [hx])
  have back0 : ∀ W', Below W.heap.size W W' → DataW.Trod enc Try.prog W' 0 (fun b => decide (b < W.heap.size)) true 5 v0 d0 p0 := fun W' hb => Below.trod laidOut (by kernel_rfl) (of_decide_eq_true (by kernel_rfl)) h0 hb lt0
  have back1 : ∀ W', Below W.heap.size W W' → DataW.Trod enc Try.prog W' 0 (fun b => decide (b < W.heap.size)) true 5 v1 d1 p1 := fun W' hb => Below.trod laidOut (by kernel_rfl) (of_decide_eq_true (by kernel_rfl)) h1 hb lt1
  obtain ⟨a0, rfl, rfl, rfl, w0⟩ := open_int Try.underlying5 (hval 0 5 v0 rfl rfl) h0
  obtain ⟨a1, rfl, rfl, rfl, w1⟩ := open_int Try.underlying5 (hval 1 5 v1 rfl rfl) h1
  refine (walk W a0 w0 a1 w1).mono fun e W' ⟨he, hg⟩ => ?_
  subst he
  exact ⟨_, rfl, _, _, _, [], _, [], hW', (trodAll_cons_mk (shut_bool Try.underlying4 _) trodAll_mk0), (trodAll_cons_mk (back0 _ hg) (trodAll_cons_mk (back1 _ hg) trodAll_mk0)), rfl, hg.frame _, fun h => by cases h⟩

theorem over : Rows.waitAloneCountsRow.holds Try.pinned (OpenSpec.ofChange Rows.waitAloneCountsSpec) :=
  OpenClaim.holds_of_wide 7 Try.f7 rfl rfl rfl rfl rfl rfl rfl ⟨rfl, rfl, rfl, rfl, rfl⟩ rfl rfl rfl rfl rfl (by kernel_rfl) Try.func7 (by kernel_rfl)
    (of_decide_eq_true (by kernel_rfl)) (by unfold Func.isWrapper; first | (rw [if_pos (by decide +kernel)]; kernel_rfl) | (rw [if_neg (by decide +kernel)]; exact ⟨rfl, rfl⟩))
    (fun os started H enc _ => lifted os started H enc)

/-- The given statement. -/
theorem proved : Rows.WaitAloneCountsSaid :=
  over
#print axioms proved
end Go.Proofs.Ytmjfnlangebhlaa.waitAloneCounts
