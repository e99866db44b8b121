/- VisibleAlone: for every mask, thread and kind an operation without interference makes two accesses, or one if there is nothing to change, and changes only its own bit. No condition. -/
import Derived.Test.YtdfngmplfgifiaaRows
import Derived.Test.YtdfngmplfgifiaaBase
import Derived.Test.YtdfngmplfgifiaaAux
import Derived.Test.YtdfngmplfgifiaaWord2
import Derived.Test.YtdfngmplfgifiaaWord3
import Derived.Test.YtdfngmplfgifiaaEv
import Derived.Test.YtdfngmplfgifiaaVu0
import Derived.Test.YtdfngmplfgifiaaVal0
import Derived.Test.YtdfngmplfgifiaaVal1
import Derived.Test.YtdfngmplfgifiaaVal2
import Derived.Test.YtdfngmplfgifiaaVal3
import Derived.Test.YtdfngmplfgifiaaVal4
import Derived.Test.YtdfngmplfgifiaaVal5
import Derived.Test.YtdfngmplfgifiaaVal6
import Derived.Test.YtdfngmplfgifiaaVal7
import Derived.Test.YtdfngmplfgifiaaVal8
import Derived.WalkKit
import Derived.ProofKit
import Derived.OpenShut
import Derived.Lib.Hide
import Derived.Carry
namespace Go.Proofs.Ytdfngmplfgifiaa.visibleAlone
open Go.ChangeShapes Go.WideShapes Go.ChangeAt Go.RowKit
set_option linter.unusedVariables false

theorem four (o : Int) (h : 0 ≤ o ∧ o ≤ 255) : Int.tmod (IntKind.i64.wrap o) 4 = 0 ∨ Int.tmod (IntKind.i64.wrap o) 4 = 1 ∨ Int.tmod (IntKind.i64.wrap o) 4 = 2 ∨ Int.tmod (IntKind.i64.wrap o) 4 = 3 := by
  have e : IntKind.i64.wrap o = o := by rw [IntKind.wrap_i64]; omega
  rw [e, Int.tmod_eq_emod_of_nonneg h.1]
  omega
theorem kd {b : Int} {r k : Int} (h : Int.tmod (IntKind.i64.wrap b) 4 = r) (hr : 0 ≤ r ∧ r ≤ 3) (hk : k = 1 + r) : IntKind.i64.wrap (1 + Int.tmod (IntKind.i64.wrap b) 4) = k := by
  rw [h, IntKind.wrap_i64, hk]; omega
theorem walk (w : World) (m : Int) (hm' : (Lit.int .i64 m).wf = true) (a : Int) (h1' : (Lit.int .u8 a).wf = true) (b : Int) (h2' : (Lit.int .u8 b).wf = true) : Calls Try.prog 5 #[.int .i64 m, .int .u8 a, .int .u8 b] w fun e w' => e = .returned (.bool true) ∧ Below w.heap.size w w' := by
  have hm := i64_of_wf hm'
  have h1 := u8_of_wf h1'
  have h2 := u8_of_wf h2'
  rcases four a h1 with ha | ha | ha | ha <;> rcases four b h2 with hb | hb | hb | hb
  · have hk := kd (k := ((1 : Nat) : Int)) hb (by omega) (by omega)
    cases g : isIn m (0 : Nat) with
    | true => exact al_00n w m a b hm ha hk g
    | false => exact al_00c w m a b hm ha hk g
  · have hk := kd (k := ((2 : Nat) : Int)) hb (by omega) (by omega)
    cases g : isIn m (0 : Nat) with
    | true => exact al_01c w m a b hm ha hk g
    | false => exact al_01n w m a b hm ha hk g
  · have hk := kd (k := ((3 : Nat) : Int)) hb (by omega) (by omega)
    cases g : isIn m (0 : Nat) with
    | true => exact al_02n w m a b hm ha hk g
    | false => exact al_02c w m a b hm ha hk g
  · have hk := kd (k := ((4 : Nat) : Int)) hb (by omega) (by omega)
    cases g : isIn m (0 : Nat) with
    | true => exact al_03c w m a b hm ha hk g
    | false => exact al_03n w m a b hm ha hk g
  · have hk := kd (k := ((1 : Nat) : Int)) hb (by omega) (by omega)
    cases g : isIn m (1 : Nat) with
    | true => exact al_10n w m a b hm ha hk g
    | false => exact al_10c w m a b hm ha hk g
  · have hk := kd (k := ((2 : Nat) : Int)) hb (by omega) (by omega)
    cases g : isIn m (1 : Nat) with
    | true => exact al_11c w m a b hm ha hk g
    | false => exact al_11n w m a b hm ha hk g
  · have hk := kd (k := ((3 : Nat) : Int)) hb (by omega) (by omega)
    cases g : isIn m (1 : Nat) with
    | true => exact al_12n w m a b hm ha hk g
    | false => exact al_12c w m a b hm ha hk g
  · have hk := kd (k := ((4 : Nat) : Int)) hb (by omega) (by omega)
    cases g : isIn m (1 : Nat) with
    | true => exact al_13c w m a b hm ha hk g
    | false => exact al_13n w m a b hm ha hk g
  · have hk := kd (k := ((1 : Nat) : Int)) hb (by omega) (by omega)
    cases g : isIn m (2 : Nat) with
    | true => exact al_20n w m a b hm ha hk g
    | false => exact al_20c w m a b hm ha hk g
  · have hk := kd (k := ((2 : Nat) : Int)) hb (by omega) (by omega)
    cases g : isIn m (2 : Nat) with
    | true => exact al_21c w m a b hm ha hk g
    | false => exact al_21n w m a b hm ha hk g
  · have hk := kd (k := ((3 : Nat) : Int)) hb (by omega) (by omega)
    cases g : isIn m (2 : Nat) with
    | true => exact al_22n w m a b hm ha hk g
    | false => exact al_22c w m a b hm ha hk g
  · have hk := kd (k := ((4 : Nat) : Int)) hb (by omega) (by omega)
    cases g : isIn m (2 : Nat) with
    | true => exact al_23c w m a b hm ha hk g
    | false => exact al_23n w m a b hm ha hk g
  · have hk := kd (k := ((1 : Nat) : Int)) hb (by omega) (by omega)
    cases g : isIn m (3 : Nat) with
    | true => exact al_30n w m a b hm ha hk g
    | false => exact al_30c w m a b hm ha hk g
  · have hk := kd (k := ((2 : Nat) : Int)) hb (by omega) (by omega)
    cases g : isIn m (3 : Nat) with
    | true => exact al_31c w m a b hm ha hk g
    | false => exact al_31n w m a b hm ha hk g
  · have hk := kd (k := ((3 : Nat) : Int)) hb (by omega) (by omega)
    cases g : isIn m (3 : Nat) with
    | true => exact al_32n w m a b hm ha hk g
    | false => exact al_32c w m a b hm ha hk g
  · have hk := kd (k := ((4 : Nat) : Int)) hb (by omega) (by omega)
    cases g : isIn m (3 : Nat) with
    | true => exact al_33c w m a b hm ha hk g
    | false => exact al_33n w m a b hm ha hk g

theorem own : ownKnob Try.prog.godebug = none := by kernel_rfl
theorem laidOut : laidOutB Try.prog = true := by kernel_rfl

set_option maxRecDepth 100000 in
theorem lifted (os : Os) (started : os.Started) (H : Type) (enc : TypeId × Value → H) :
    ReturnsInHanded {} Try.checked os 5 .any (Rows.visibleAloneSpec.pre6 enc Try.prog Try.f5 Rows.visibleAloneRow.domain false) (Rows.visibleAloneSpec.post enc Try.prog Try.f5 false true false false) := by
  refine returnsInHanded_of_change (C := Try.checked) own started (by kernel_rfl) Try.func5
    (ChangeSpec.witness6 (enc := enc) (C := Try.checked) false ⟨#[], #[.int .i64 0, .int .u8 0, .int .u8 0], []⟩ 8 (by kernel_rfl) (by kernel_rfl) (by kernel_rfl) (by kernel_rfl)) ?_
  intro W base args ds gs before hval0 hW hcnd _
  have hval : ∀ (j : Nat) t v, Try.f5.params[j]? = some t → args[j]? = some v → Value.okWide Try.prog W .any base t v := hval0
  have hW' := hW
  obtain ⟨p, q, hA0, hV, rfl, hfz, hnd⟩ := hW
  have hA : DataW.TrodAll enc Try.prog W 0 (fun _ => true) true Try.f5.params.toList args.toList ds p := hA0
  rw [Try.params5] at hA hval
  obtain ⟨v0, vs0, d0, ds0, p0, q0, hargs, rfl, rfl, h0, r0⟩ := trodAll_cons hA
  obtain ⟨v1, vs1, d1, ds1, p1, q1, rfl, rfl, rfl, h1, r1⟩ := trodAll_cons r0
  obtain ⟨v2, vs2, d2, ds2, p2, q2, rfl, rfl, rfl, h2, r2⟩ := trodAll_cons r1
  obtain ⟨rfl, rfl, rfl⟩ := trodAll_nil r2
  obtain rfl : args = #[v0, v1, v2] := by cases args; simp_all
  obtain ⟨rfl, rfl⟩ := trodVars_none hV
  clear hA0 hval0
  simp only [List.append_nil] at hW'
  have lt0 : ∀ x ∈ p0, x.block < W.heap.size := fun x hx => hW'.lt x (by simp [hx])
  have lt1 : ∀ x ∈ p1, x.block < W.heap.size := fun x hx => hW'.lt x (by simp [hx])
  have lt2 : ∀ x ∈ p2, x.block < W.heap.size := fun x hx => hW'.lt x (by simp [hx])
  have back0 : ∀ W', Below W.heap.size W W' → DataW.Trod enc Try.prog W' 0 (fun b => decide (b < W.heap.size)) true 3 v0 d0 p0 := fun W' hb => Below.trod laidOut (by kernel_rfl) (of_decide_eq_true (by kernel_rfl)) h0 hb lt0
  have back1 : ∀ W', Below W.heap.size W W' → DataW.Trod enc Try.prog W' 0 (fun b => decide (b < W.heap.size)) true 5 v1 d1 p1 := fun W' hb => Below.trod laidOut (by kernel_rfl) (of_decide_eq_true (by kernel_rfl)) h1 hb lt1
  have back2 : ∀ W', Below W.heap.size W W' → DataW.Trod enc Try.prog W' 0 (fun b => decide (b < W.heap.size)) true 5 v2 d2 p2 := fun W' hb => Below.trod laidOut (by kernel_rfl) (of_decide_eq_true (by kernel_rfl)) h2 hb lt2
  obtain ⟨a0, rfl, rfl, rfl, w0⟩ := open_int Try.underlying3 (hval 0 3 v0 rfl rfl) h0
  obtain ⟨a1, rfl, rfl, rfl, w1⟩ := open_int Try.underlying5 (hval 1 5 v1 rfl rfl) h1
  obtain ⟨a2, rfl, rfl, rfl, w2⟩ := open_int Try.underlying5 (hval 2 5 v2 rfl rfl) h2
  refine (walk W a0 w0 a1 w1 a2 w2).mono fun e W' ⟨he, hg⟩ => ?_
  subst he
  exact ⟨_, rfl, _, _, _, [], _, [], hW', (trodAll_cons_mk (shut_bool Try.underlying4 _) trodAll_mk0), (trodAll_cons_mk (back0 _ hg) (trodAll_cons_mk (back1 _ hg) (trodAll_cons_mk (back2 _ hg) trodAll_mk0))), rfl, hg.frame _, fun h => by cases h⟩

theorem over : Rows.visibleAloneRow.holds Try.pinned (OpenSpec.ofChange Rows.visibleAloneSpec) :=
  OpenClaim.holds_of_wide 5 Try.f5 rfl rfl rfl rfl rfl rfl rfl ⟨rfl, rfl, rfl, rfl, rfl⟩ rfl rfl rfl rfl rfl (by kernel_rfl) Try.func5 (by kernel_rfl)
    (of_decide_eq_true (by kernel_rfl)) (by unfold Func.isWrapper; first | (rw [if_pos (by decide +kernel)]; kernel_rfl) | (rw [if_neg (by decide +kernel)]; exact ⟨rfl, rfl⟩))
    (fun os started H enc _ => lifted os started H enc)

/-- The given statement. -/
theorem proved : Rows.VisibleAloneSaid :=
  over
#print axioms proved
end Go.Proofs.Ytdfngmplfgifiaa.visibleAlone
