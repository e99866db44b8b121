/- VisibleUndoes: for every mask without the bits of two different threads, setting both bits and clearing them in the same order restores the mask. No condition. -/
import Derived.Test.YtdfngmplfgifiaaRows
import Derived.Test.YtdfngmplfgifiaaBase
import Derived.Test.YtdfngmplfgifiaaAux
import Derived.Test.YtdfngmplfgifiaaWord2
import Derived.Test.YtdfngmplfgifiaaWord3
import Derived.Test.YtdfngmplfgifiaaEv
import Derived.Test.YtdfngmplfgifiaaVu0
import Derived.Test.YtdfngmplfgifiaaVu1
import Derived.Test.YtdfngmplfgifiaaVu2
import Derived.Test.YtdfngmplfgifiaaVu3
import Derived.Test.YtdfngmplfgifiaaVu4
import Derived.Test.YtdfngmplfgifiaaVuO
import Derived.WalkKit
import Derived.ProofKit
import Derived.OpenShut
import Derived.Lib.Hide
import Derived.Carry
namespace Go.Proofs.Ytdfngmplfgifiaa.visibleUndoes
open Go.ChangeShapes Go.WideShapes Go.ChangeAt Go.RowKit
set_option linter.unusedVariables false

theorem four (o : Int) (h : 0 ≤ o ∧ o ≤ 255) : Int.tmod (IntKind.i64.wrap o) 4 = 0 ∨ Int.tmod (IntKind.i64.wrap o) 4 = 1 ∨ Int.tmod (IntKind.i64.wrap o) 4 = 2 ∨ Int.tmod (IntKind.i64.wrap o) 4 = 3 := by
  have e : IntKind.i64.wrap o = o := by rw [IntKind.wrap_i64]; omega
  rw [e, Int.tmod_eq_emod_of_nonneg h.1]
  omega
theorem walk (w : World) (m o p : Int) (b : Bool) (hm : I64 m) (h1 : 0 ≤ o ∧ o ≤ 255) (h2 : 0 ≤ p ∧ p ≤ 255) : Calls Try.prog 6 #[valU m o p b] w fun e w' => e = .returned (.bool true) ∧ Below w.heap.size w w' := by
  rcases four o h1 with ho | ho | ho | ho <;> rcases four p h2 with hp | hp | hp | hp
  · exact undo_s0 w m o p b ho hp
  · cases g1 : isIn m 0 with
    | true => exact undo_a01 w m o p b hm ho hp g1
    | false =>
      cases g2 : isIn m 1 with
      | true => exact undo_b01 w m o p b hm ho hp g1 g2
      | false =>
        cases b with
        | false => exact undo_c01f w m o p hm ho hp g1 g2
        | true => exact undo_c01t w m o p hm ho hp g1 g2
  · cases g1 : isIn m 0 with
    | true => exact undo_a02 w m o p b hm ho hp g1
    | false =>
      cases g2 : isIn m 2 with
      | true => exact undo_b02 w m o p b hm ho hp g1 g2
      | false =>
        cases b with
        | false => exact undo_c02f w m o p hm ho hp g1 g2
        | true => exact undo_c02t w m o p hm ho hp g1 g2
  · cases g1 : isIn m 0 with
    | true => exact undo_a03 w m o p b hm ho hp g1
    | false =>
      cases g2 : isIn m 3 with
      | true => exact undo_b03 w m o p b hm ho hp g1 g2
      | false =>
        cases b with
        | false => exact undo_c03f w m o p hm ho hp g1 g2
        | true => exact undo_c03t w m o p hm ho hp g1 g2
  · cases g1 : isIn m 1 with
    | true => exact undo_a10 w m o p b hm ho hp g1
    | false =>
      cases g2 : isIn m 0 with
      | true => exact undo_b10 w m o p b hm ho hp g1 g2
      | false =>
        cases b with
        | false => exact undo_c10f w m o p hm ho hp g1 g2
        | true => exact undo_c10t w m o p hm ho hp g1 g2
  · exact undo_s1 w m o p b ho hp
  · cases g1 : isIn m 1 with
    | true => exact undo_a12 w m o p b hm ho hp g1
    | false =>
      cases g2 : isIn m 2 with
      | true => exact undo_b12 w m o p b hm ho hp g1 g2
      | false =>
        cases b with
        | false => exact undo_c12f w m o p hm ho hp g1 g2
        | true => exact undo_c12t w m o p hm ho hp g1 g2
  · cases g1 : isIn m 1 with
    | true => exact undo_a13 w m o p b hm ho hp g1
    | false =>
      cases g2 : isIn m 3 with
      | true => exact undo_b13 w m o p b hm ho hp g1 g2
      | false =>
        cases b with
        | false => exact undo_c13f w m o p hm ho hp g1 g2
        | true => exact undo_c13t w m o p hm ho hp g1 g2
  · cases g1 : isIn m 2 with
    | true => exact undo_a20 w m o p b hm ho hp g1
    | false =>
      cases g2 : isIn m 0 with
      | true => exact undo_b20 w m o p b hm ho hp g1 g2
      | false =>
        cases b with
        | false => exact undo_c20f w m o p hm ho hp g1 g2
        | true => exact undo_c20t w m o p hm ho hp g1 g2
  · cases g1 : isIn m 2 with
    | true => exact undo_a21 w m o p b hm ho hp g1
    | false =>
      cases g2 : isIn m 1 with
      | true => exact undo_b21 w m o p b hm ho hp g1 g2
      | false =>
        cases b with
        | false => exact undo_c21f w m o p hm ho hp g1 g2
        | true => exact undo_c21t w m o p hm ho hp g1 g2
  · exact undo_s2 w m o p b ho hp
  · cases g1 : isIn m 2 with
    | true => exact undo_a23 w m o p b hm ho hp g1
    | false =>
      cases g2 : isIn m 3 with
      | true => exact undo_b23 w m o p b hm ho hp g1 g2
      | false =>
        cases b with
        | false => exact undo_c23f w m o p hm ho hp g1 g2
        | true => exact undo_c23t w m o p hm ho hp g1 g2
  · cases g1 : isIn m 3 with
    | true => exact undo_a30 w m o p b hm ho hp g1
    | false =>
      cases g2 : isIn m 0 with
      | true => exact undo_b30 w m o p b hm ho hp g1 g2
      | false =>
        cases b with
        | false => exact undo_c30f w m o p hm ho hp g1 g2
        | true => exact undo_c30t w m o p hm ho hp g1 g2
  · cases g1 : isIn m 3 with
    | true => exact undo_a31 w m o p b hm ho hp g1
    | false =>
      cases g2 : isIn m 1 with
      | true => exact undo_b31 w m o p b hm ho hp g1 g2
      | false =>
        cases b with
        | false => exact undo_c31f w m o p hm ho hp g1 g2
        | true => exact undo_c31t w m o p hm ho hp g1 g2
  · cases g1 : isIn m 3 with
    | true => exact undo_a32 w m o p b hm ho hp g1
    | false =>
      cases g2 : isIn m 2 with
      | true => exact undo_b32 w m o p b hm ho hp g1 g2
      | false =>
        cases b with
        | false => exact undo_c32f w m o p hm ho hp g1 g2
        | true => exact undo_c32t w m o p hm ho hp g1 g2
  · exact undo_s3 w m o p b ho hp

theorem own : ownKnob Try.prog.godebug = none := by kernel_rfl
theorem laidOut : laidOutB Try.prog = true := by kernel_rfl

set_option maxRecDepth 100000 in
theorem lifted (os : Os) (started : os.Started) (H : Type) (enc : TypeId × Value → H) :
    ReturnsInHanded {} Try.checked os 6 .any (Rows.visibleUndoesSpec.pre6 enc Try.prog Try.f6 Rows.visibleUndoesRow.domain false) (Rows.visibleUndoesSpec.post enc Try.prog Try.f6 false true false false) := by
  refine returnsInHanded_of_change (C := Try.checked) own started (by kernel_rfl) Try.func6
    (ChangeSpec.witness6 (enc := enc) (C := Try.checked) false ⟨#[], #[.agg #[.int .i64 0, .int .u8 0, .int .u8 0, .bool false]], []⟩ 8 (by kernel_rfl) (by kernel_rfl) (by kernel_rfl) (by kernel_rfl)) ?_
  intro W base args ds gs before hval0 hW hcnd _
  have hval : ∀ (j : Nat) t v, Try.f6.params[j]? = some t → args[j]? = some v → Value.okWide Try.prog W .any base t v := hval0
  have hW' := hW
  obtain ⟨p, q, hA0, hV, rfl, hfz, hnd⟩ := hW
  have hA : DataW.TrodAll enc Try.prog W 0 (fun _ => true) true Try.f6.params.toList args.toList ds p := hA0
  rw [Try.params6] at hA hval
  obtain ⟨v0, vs0, d0, ds0, p0, q0, hargs, rfl, rfl, h0, r0⟩ := trodAll_cons hA
  obtain ⟨rfl, rfl, rfl⟩ := trodAll_nil r0
  obtain rfl : args = #[v0] := by cases args; simp_all
  obtain ⟨rfl, rfl⟩ := trodVars_none hV
  clear hA0 hval0
  simp only [List.append_nil] at hW'
  have lt0 : ∀ x ∈ p0, x.block < W.heap.size := fun x hx => hW'.lt x (by simp [hx])
  have back0 : ∀ W', Below W.heap.size W W' → DataW.Trod enc Try.prog W' 0 (fun b => decide (b < W.heap.size)) true 71 v0 d0 p0 := fun W' hb => Below.trod laidOut (by kernel_rfl) (of_decide_eq_true (by kernel_rfl)) h0 hb lt0
  obtain ⟨m0, o0, u0, b0, rfl, ia0, ib0, ic0⟩ := open_vu (hval 0 71 v0 rfl rfl) h0
  refine (walk W m0 o0 u0 b0 ia0 ib0 ic0).mono fun e W' ⟨he, hg⟩ => ?_
  subst he
  exact ⟨_, rfl, _, _, _, [], _, [], hW', (trodAll_cons_mk (shut_bool Try.underlying4 _) trodAll_mk0), (trodAll_cons_mk (back0 _ hg) trodAll_mk0), rfl, hg.frame _, fun h => by cases h⟩

theorem over : Rows.visibleUndoesRow.holds Try.pinned (OpenSpec.ofChange Rows.visibleUndoesSpec) :=
  OpenClaim.holds_of_wide 6 Try.f6 rfl rfl rfl rfl rfl rfl rfl ⟨rfl, rfl, rfl, rfl, rfl⟩ rfl rfl rfl rfl rfl (by kernel_rfl) Try.func6 (by kernel_rfl)
    (of_decide_eq_true (by kernel_rfl)) (by unfold Func.isWrapper; first | (rw [if_pos (by decide +kernel)]; kernel_rfl) | (rw [if_neg (by decide +kernel)]; exact ⟨rfl, rfl⟩))
    (fun os started H enc _ => lifted os started H enc)

/-- The given statement. -/
theorem proved : Rows.VisibleUndoesSaid :=
  over
#print axioms proved
end Go.Proofs.Ytdfngmplfgifiaa.visibleUndoes
