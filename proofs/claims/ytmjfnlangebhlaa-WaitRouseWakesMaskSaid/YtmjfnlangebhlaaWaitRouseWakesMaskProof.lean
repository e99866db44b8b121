/- WaitRouseWakesMask: for every mask and up to four threads, Rouse wakes exactly the existing threads of the mask, each once, and changes nothing else (and the example of the documentation holds). No condition. -/
import Derived.Test.YtmjfnlangebhlaaRows
import Derived.Test.YtmjfnlangebhlaaBase
import Derived.Test.YtmjfnlangebhlaaAux
import Derived.Test.YtmjfnlangebhlaaWm1
import Derived.WalkKit
import Derived.ProofKit
import Derived.OpenShut
import Derived.Lib.Hide
import Derived.Carry
namespace Go.Proofs.Ytmjfnlangebhlaa.waitRouseWakesMask
open Go.ChangeShapes Go.WideShapes Go.ChangeAt Go.RowKit
set_option linter.unusedVariables false

theorem walk (w : World) (m : Int) (h1 : (Lit.int .i64 m).wf = true) (t : Int) (h2 : (Lit.int .u8 t).wf = true) : Calls Try.prog 6 #[.int .i64 m, .int .u8 t] w fun e w' => e = .returned (.bool true) ∧ Below w.heap.size w w' := by
  have hm := i64_of_wf h1
  have ht := u8_of_wf h2
  have e : IntKind.i64.wrap (1 + Int.tmod (IntKind.i64.wrap t) 4) = 1 + t % 4 := by
    rw [IntKind.wrap_i64 t, IntKind.wrap_i64]
    rw [show (t + 9223372036854775808) % 18446744073709551616 - 9223372036854775808 = t by omega, Int.tmod_eq_emod_of_nonneg ht.1]
    omega
  have h4 : 1 + t % 4 = 1 ∨ 1 + t % 4 = 2 ∨ 1 + t % 4 = 3 ∨ 1 + t % 4 = 4 := by omega
  rcases h4 with h | h | h | h
  · have e2 := e.trans h
    cases b0 : isIn m 0
    · exact m1_0 w m t hm e2 b0
    · exact m1_1 w m t hm e2 b0
  · have e2 := e.trans h
    cases b0 : isIn m 0
    all_goals cases b1 : isIn m 1
    · exact m2_00 w m t hm e2 b0 b1
    · exact m2_01 w m t hm e2 b0 b1
    · exact m2_10 w m t hm e2 b0 b1
    · exact m2_11 w m t hm e2 b0 b1
  · have e2 := e.trans h
    cases b0 : isIn m 0
    all_goals cases b1 : isIn m 1
    all_goals cases b2 : isIn m 2
    · exact m3_000 w m t hm e2 b0 b1 b2
    · exact m3_001 w m t hm e2 b0 b1 b2
    · exact m3_010 w m t hm e2 b0 b1 b2
    · exact m3_011 w m t hm e2 b0 b1 b2
    · exact m3_100 w m t hm e2 b0 b1 b2
    · exact m3_101 w m t hm e2 b0 b1 b2
    · exact m3_110 w m t hm e2 b0 b1 b2
    · exact m3_111 w m t hm e2 b0 b1 b2
  · have e2 := e.trans h
    cases b0 : isIn m 0
    all_goals cases b1 : isIn m 1
    all_goals cases b2 : isIn m 2
    all_goals cases b3 : isIn m 3
    · exact m4_0000 w m t hm e2 b0 b1 b2 b3
    · exact m4_0001 w m t hm e2 b0 b1 b2 b3
    · exact m4_0010 w m t hm e2 b0 b1 b2 b3
    · exact m4_0011 w m t hm e2 b0 b1 b2 b3
    · exact m4_0100 w m t hm e2 b0 b1 b2 b3
    · exact m4_0101 w m t hm e2 b0 b1 b2 b3
    · exact m4_0110 w m t hm e2 b0 b1 b2 b3
    · exact m4_0111 w m t hm e2 b0 b1 b2 b3
    · exact m4_1000 w m t hm e2 b0 b1 b2 b3
    · exact m4_1001 w m t hm e2 b0 b1 b2 b3
    · exact m4_1010 w m t hm e2 b0 b1 b2 b3
    · exact m4_1011 w m t hm e2 b0 b1 b2 b3
    · exact m4_1100 w m t hm e2 b0 b1 b2 b3
    · exact m4_1101 w m t hm e2 b0 b1 b2 b3
    · exact m4_1110 w m t hm e2 b0 b1 b2 b3
    · exact m4_1111 w m t hm e2 b0 b1 b2 b3

theorem own : ownKnob Try.prog.godebug = none := by kernel_rfl
theorem laidOut : laidOutB Try.prog = true := by kernel_rfl

set_option maxRecDepth 100000 in
theorem lifted (os : Os) (started : os.Started) (H : Type) (enc : TypeId × Value → H) :
    ReturnsInHanded {} Try.checked os 6 .any (Rows.waitRouseWakesMaskSpec.pre6 enc Try.prog Try.f6 Rows.waitRouseWakesMaskRow.domain false) (Rows.waitRouseWakesMaskSpec.post enc Try.prog Try.f6 false true false false) := by
  refine returnsInHanded_of_change (C := Try.checked) own started (by kernel_rfl) Try.func6
    (ChangeSpec.witness6 (enc := enc) (C := Try.checked) false ⟨#[], #[.int .i64 0, .int .u8 0], []⟩ 8 (by kernel_rfl) (by kernel_rfl) (by kernel_rfl) (by kernel_rfl)) ?_
  intro W base args ds gs before hval0 hW hcnd _
  have hval : ∀ (j : Nat) t v, Try.f6.params[j]? = some t → args[j]? = some v → Value.okWide Try.prog W .any base t v := hval0
  have hW' := hW
  obtain ⟨p, q, hA0, hV, rfl, hfz, hnd⟩ := hW
  have hA : DataW.TrodAll enc Try.prog W 0 (fun _ => true) true Try.f6.params.toList args.toList ds p := hA0
  rw [Try.params6] at hA hval
  obtain ⟨v0, vs0, d0, ds0, p0, q0, hargs, rfl, rfl, h0, r0⟩ := trodAll_cons hA
  obtain ⟨v1, vs1, d1, ds1, p1, q1, rfl, rfl, rfl, h1, r1⟩ := trodAll_cons r0
  obtain ⟨rfl, rfl, rfl⟩ := trodAll_nil r1
  obtain rfl : args = #[v0, v1] := by cases args; simp_all
  obtain ⟨rfl, rfl⟩ := trodVars_none hV
  clear hA0 hval0
  simp only [List.append_nil] at hW'
  have lt0 : ∀ x ∈ p0, x.block < W.heap.size := fun x hx => hW'.lt x (by simp [hx])
  have lt1 : ∀ x ∈ p1, x.block < W.heap.size := fun x hx => hW'.lt x (by simp [hx])
  have back0 : ∀ W', Below W.heap.size W W' → DataW.Trod enc Try.prog W' 0 (fun b => decide (b < W.heap.size)) true 3 v0 d0 p0 := fun W' hb => Below.trod laidOut (by kernel_rfl) (of_decide_eq_true (by kernel_rfl)) h0 hb lt0
  have back1 : ∀ W', Below W.heap.size W W' → DataW.Trod enc Try.prog W' 0 (fun b => decide (b < W.heap.size)) true 5 v1 d1 p1 := fun W' hb => Below.trod laidOut (by kernel_rfl) (of_decide_eq_true (by kernel_rfl)) h1 hb lt1
  obtain ⟨a0, rfl, rfl, rfl, w0⟩ := open_int Try.underlying3 (hval 0 3 v0 rfl rfl) h0
  obtain ⟨a1, rfl, rfl, rfl, w1⟩ := open_int Try.underlying5 (hval 1 5 v1 rfl rfl) h1
  refine (walk W a0 w0 a1 w1).mono fun e W' ⟨he, hg⟩ => ?_
  subst he
  exact ⟨_, rfl, _, _, _, [], _, [], hW', (trodAll_cons_mk (shut_bool Try.underlying4 _) trodAll_mk0), (trodAll_cons_mk (back0 _ hg) (trodAll_cons_mk (back1 _ hg) trodAll_mk0)), rfl, hg.frame _, fun h => by cases h⟩

theorem over : Rows.waitRouseWakesMaskRow.holds Try.pinned (OpenSpec.ofChange Rows.waitRouseWakesMaskSpec) :=
  OpenClaim.holds_of_wide 6 Try.f6 rfl rfl rfl rfl rfl rfl rfl ⟨rfl, rfl, rfl, rfl, rfl⟩ rfl rfl rfl rfl rfl (by kernel_rfl) Try.func6 (by kernel_rfl)
    (of_decide_eq_true (by kernel_rfl)) (by unfold Func.isWrapper; first | (rw [if_pos (by decide +kernel)]; kernel_rfl) | (rw [if_neg (by decide +kernel)]; exact ⟨rfl, rfl⟩))
    (fun os started H enc _ => lifted os started H enc)

/-- The given statement. -/
theorem proved : Rows.WaitRouseWakesMaskSaid :=
  over
#print axioms proved
end Go.Proofs.Ytmjfnlangebhlaa.waitRouseWakesMask
