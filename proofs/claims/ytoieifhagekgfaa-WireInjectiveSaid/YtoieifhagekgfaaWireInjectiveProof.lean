/- WireInjective: two integers have the same encoding if and only if they are equal, and a greater absolute value has no shorter encoding. No condition. -/
import Derived.Test.YtoieifhagekgfaaRows
import Derived.Test.YtoieifhagekgfaaWireA
import Derived.Test.YtoieifhagekgfaaWireB
import Derived.Test.YtoieifhagekgfaaWireO
import Derived.Test.YtoieifhagekgfaaWireS
import Derived.WalkKit
import Derived.ProofKit
import Derived.OpenShut
import Derived.Lib.Hide
import Derived.Carry
namespace Go.Proofs.Ytoieifhagekgfaa.wireInjective
open Go.ChangeShapes Go.WideShapes Go.ChangeAt Go.RowKit
set_option linter.unusedVariables false

set_option maxHeartbeats 4000000 in
set_option maxRecDepth 100000 in
theorem walk_c (w : World) (m n : Int) (hm : Hid (I64 m)) (hn : Hid (I64 n)) (b : Bool) (hb : (m == n) = b)
    (hc : (0 ≤ m ∧ 0 ≤ n ∧ m ≤ n) ∨ (0 ≤ m ∧ 0 ≤ n ∧ n < m) ∨ (0 ≤ m ∧ n < 0) ∨ (m < 0 ∧ 0 ≤ n) ∨ (m < 0 ∧ n < 0 ∧ n ≤ m) ∨ (m < 0 ∧ n < 0 ∧ m < n)) :
    Calls Try.prog 9 #[.int .i64 m, .int .i64 n] w fun e w' => e = .returned (.bool true) ∧ Below w.heap.size w w' := by
  have HE : Hid (decide (enc m = enc n) = b) := Lib.hid (by
    rw [← hb]
    by_cases h : m = n
    · subst h; simp
    · simp only [beq_eq_false_iff_ne.2 h, decide_eq_false_iff_not]
      intro he; exact h (enc_inj hm.out hn.out he))
  obtain ⟨P, hP⟩ : ∃ P, P = (enc m).length := ⟨_, rfl⟩
  obtain ⟨Q, hQ⟩ : ∃ Q, Q = (enc n).length := ⟨_, rfl⟩
  have hle : ((0 ≤ m ∧ m ≤ n) ∨ (m < 0 ∧ n ≤ m)) → P ≤ Q := fun h => by rw [hP, hQ]; exact enc_mono h
  have HP := Lib.hid hP
  have HQ := Lib.hid hQ
  clear hP hQ
  rcases hc with ⟨c1, c2, c3⟩ | ⟨c1, c2, c3⟩ | ⟨c1, c2⟩ | ⟨c1, c2⟩ | ⟨c1, c2, c3⟩ | ⟨c1, c2, c3⟩
  all_goals (
    (first
      | (have hpq : decide (Q < P) = false := by (have := hle (Or.inl ⟨c1, c3⟩); simp; omega))
      | (have hpq : decide (Q < P) = false := by (have := hle (Or.inr ⟨c1, c3⟩); simp; omega))
      | skip)
    clear hle
    go_enter Try.func9, Try.ntmps9
    go_wp2_with fail
    refine (put_any m hm.out _).mono ?_
    rintro e w2 ⟨v2, rfl, h2, hb2⟩
    have HW := Lib.hid hb2
    have h2' := hasB_of_owns h2
    have H2 := Lib.hid h2'
    obtain ⟨a2, k2, rfl, _, _⟩ := h2'
    rw [← HP.out] at H2 ⊢
    clear h2 hb2
    go_wp2_with fail
    refine (put_any n hn.out _).mono ?_
    rintro e w3 ⟨v3, rfl, h3, hb3⟩
    replace HW := Lib.hid (HW.out.trans (hb3.mono HW.out.size))
    replace H2 := Lib.hid (hasB_keep H2.out hb3)
    have h3' := hasB_of_owns h3
    have H3 := Lib.hid h3'
    obtain ⟨a3, k3, rfl, _, _⟩ := h3'
    rw [← HQ.out] at H3 ⊢
    clear h3 hb3
    go_wp2_with fail
    refine (sane_any _).mono ?_
    rintro e w1 ⟨rfl, hb1⟩
    replace HW := Lib.hid (HW.out.trans (hb1.mono HW.out.size))
    replace H2 := Lib.hid (hasB_keep H2.out hb1)
    replace H3 := Lib.hid (hasB_keep H3.out hb1)
    clear hb1
    go_wp2_with fail
    refine (same_s (enc m) (enc n) b HE.out H2.out H3.out).mono ?_
    rintro e w4 ⟨rfl, hb4⟩
    replace HW := Lib.hid (HW.out.trans (hb4.mono HW.out.size))
    clear hb4
    go_wp2
    go_ret
    exact ⟨ret_bool (by simp), HW.out⟩)

theorem walk (w : World) (m : Int) (wf : (Lit.int .i64 m).wf = true) (n : Int) (wg : (Lit.int .i64 n).wf = true) :
    Calls Try.prog 9 #[.int .i64 m, .int .i64 n] w fun e w' => e = .returned (.bool true) ∧ Below w.heap.size w w' :=
  walk_c w m n (Lib.hid (i64_of_wf wf)) (Lib.hid (i64_of_wf wg)) _ rfl (by omega)

theorem own : ownKnob Try.prog.godebug = none := by kernel_rfl
theorem laidOut : laidOutB Try.prog = true := by kernel_rfl

set_option maxRecDepth 100000 in
theorem lifted (os : Os) (started : os.Started) (H : Type) (enc : TypeId × Value → H) :
    ReturnsInHanded {} Try.checked os 9 .any (Rows.wireInjectiveSpec.pre6 enc Try.prog Try.f9 Rows.wireInjectiveRow.domain false) (Rows.wireInjectiveSpec.post enc Try.prog Try.f9 false true false false) := by
  refine returnsInHanded_of_change (C := Try.checked) own started (by kernel_rfl) Try.func9
    (ChangeSpec.witness6 (enc := enc) (C := Try.checked) false ⟨#[], #[.int .i64 0, .int .i64 0], []⟩ 8 (by kernel_rfl) (by kernel_rfl) (by kernel_rfl) (by kernel_rfl)) ?_
  intro W base args ds gs before hval0 hW hcnd _
  have hval : ∀ (j : Nat) t v, Try.f9.params[j]? = some t → args[j]? = some v → Value.okWide Try.prog W .any base t v := hval0
  have hW' := hW
  obtain ⟨p, q, hA0, hV, rfl, hfz, hnd⟩ := hW
  have hA : DataW.TrodAll enc Try.prog W 0 (fun _ => true) true Try.f9.params.toList args.toList ds p := hA0
  rw [Try.params9] at hA hval
  obtain ⟨v0, vs0, d0, ds0, p0, q0, hargs, rfl, rfl, h0, r0⟩ := trodAll_cons hA
  obtain ⟨v1, vs1, d1, ds1, p1, q1, rfl, rfl, rfl, h1, r1⟩ := trodAll_cons r0
  obtain ⟨rfl, rfl, rfl⟩ := trodAll_nil r1
  obtain rfl : args = #[v0, v1] := by cases args; simp_all
  obtain ⟨rfl, rfl⟩ := trodVars_none hV
  clear hA0 hval0
  simp only [List.append_nil] at hW'
  have lt0 : ∀ x ∈ p0, x.block < W.heap.size := fun x hx => hW'.lt x (by simp [hx])
  have lt1 : ∀ x ∈ p1, x.block < W.heap.size := fun x hx => hW'.lt x (by simp [hx])
  have back0 : ∀ W', Below W.heap.size W W' → DataW.Trod enc Try.prog W' 0 (fun b => decide (b < W.heap.size)) true 3 v0 d0 p0 := fun W' hb => Below.trod laidOut (by kernel_rfl) (of_decide_eq_true (by kernel_rfl)) h0 hb lt0
  have back1 : ∀ W', Below W.heap.size W W' → DataW.Trod enc Try.prog W' 0 (fun b => decide (b < W.heap.size)) true 3 v1 d1 p1 := fun W' hb => Below.trod laidOut (by kernel_rfl) (of_decide_eq_true (by kernel_rfl)) h1 hb lt1
  obtain ⟨a0, rfl, rfl, rfl, w0⟩ := open_int Try.underlying3 (hval 0 3 v0 rfl rfl) h0
  obtain ⟨a1, rfl, rfl, rfl, w1⟩ := open_int Try.underlying3 (hval 1 3 v1 rfl rfl) h1
  refine (walk W a0 w0 a1 w1).mono fun e W' ⟨he, hg⟩ => ?_
  subst he
  exact ⟨_, rfl, _, _, _, [], _, [], hW', (trodAll_cons_mk (shut_bool Try.underlying4 _) trodAll_mk0), (trodAll_cons_mk (back0 _ hg) (trodAll_cons_mk (back1 _ hg) trodAll_mk0)), rfl, hg.frame _, fun h => by cases h⟩

theorem over : Rows.wireInjectiveRow.holds Try.pinned (OpenSpec.ofChange Rows.wireInjectiveSpec) :=
  OpenClaim.holds_of_wide 9 Try.f9 rfl rfl rfl rfl rfl rfl rfl ⟨rfl, rfl, rfl, rfl, rfl⟩ rfl rfl rfl rfl rfl (by kernel_rfl) Try.func9 (by kernel_rfl)
    (of_decide_eq_true (by kernel_rfl)) (by unfold Func.isWrapper; first | (rw [if_pos (by decide +kernel)]; kernel_rfl) | (rw [if_neg (by decide +kernel)]; exact ⟨rfl, rfl⟩))
    (fun os started H enc _ => lifted os started H enc)

/-- The given statement. -/
theorem proved : Rows.WireInjectiveSaid :=
  over
#print axioms proved
end Go.Proofs.Ytoieifhagekgfaa.wireInjective
