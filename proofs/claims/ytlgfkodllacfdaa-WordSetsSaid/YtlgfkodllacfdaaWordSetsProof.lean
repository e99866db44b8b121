/- WordSets: masks behave like sets: a thread that was added is contained, one that was removed is not, other threads are unaffected, and the order of additions does not matter. No condition. -/
import Derived.Test.YtlgfkodllacfdaaRows
import Derived.Test.YtlgfkodllacfdaaWordSane
import Derived.Test.YtlgfkodllacfdaaWordBv
import Derived.WalkKit
import Derived.ProofKit
import Derived.OpenShut
import Derived.Lib.Hide
namespace Go.Proofs.Ytlgfkodllacfdaa.wordSets
open Go.ChangeShapes Go.WideShapes Go.ChangeAt Go.RowKit
set_option linter.unusedVariables false

theorem u8_of {n : Int} (h : (Lit.int .u8 n).wf = true) : 0 ≤ n ∧ n ≤ 255 := by
  have h1 : IntKind.u8.min = 0 := rfl
  have h2 : IntKind.u8.max = 255 := rfl
  simp only [Lit.wf, Bool.and_eq_true, decide_eq_true_eq] at h
  omega

set_option maxRecDepth 100000 in
theorem walk (a0 a1 a2 : Int) (w0 : (Lit.int .i64 a0).wf = true) (w1 : (Lit.int .u8 a1).wf = true) (w2 : (Lit.int .u8 a2).wf = true) (w : World) :
    Calls Try.prog 8 #[.int .i64 a0, .int .u8 a1, .int .u8 a2] w fun e w' => e = .returned (.bool true) ∧ Below w.heap.size w w' := by
  have hi := i64_of_wf w0
  obtain ⟨h1, h2⟩ := u8_of w1
  obtain ⟨h3, h4⟩ := u8_of w2
  clear w0 w1 w2
  obtain ⟨x, hx⟩ : ∃ x : Nat, a1 % 62 = x := ⟨(a1 % 62).toNat, by omega⟩
  obtain ⟨y, hy⟩ : ∃ y : Nat, a2 % 62 = y := ⟨(a2 % 62).toNat, by omega⟩
  have hx1 : x ≤ 61 := by omega
  have hy1 : y ≤ 61 := by omega
  have k1 : isIn (withT a0 x) x = true := by rw [in_with hi hx1 hx1]; simp
  have k2 : isIn (sansT a0 x) x = false := by rw [in_sans hi hx1 hx1]; simp
  have k3 := with_with hi (x : Int)
  have k4 := sans_sans hi (x : Int)
  have k5 := with_comm hi (x : Int) (y : Int)
  have k6 := sans_with hi (x : Int)
  have HI := Lib.hid hi
  have HW := Lib.hid (i64_with hi (x : Int))
  have HS := Lib.hid (i64_sans hi (x : Int))
  have HY := Lib.hid (i64_with hi (y : Int))
  have k7 := in_with hi hx1 hy1
  have k8 := in_sans hi hx1 hy1
  clear hi
  by_cases e : x = y
  · obtain rfl := e
    clear k7 k8 hy1 HY
    have k9 : ((x : Int) != (x : Int)) = false := by simp
    go_enter Try.func8, Try.ntmps8
    go_wp2_with (first
      | (go_at_call 9; refine (sane_any _).mono ?_; rintro e w1 ⟨rfl, hb⟩)
      | (go_at_call 28; refine (in_any _ _ _).mono ?_; rintro e w' ⟨rfl, rfl⟩)
      | (go_at_call 30; refine (with_any _ _ (by first | exact HI.out | exact HW.out | exact HY.out) _).mono ?_; rintro e w' ⟨rfl, rfl⟩)
      | (go_at_call 32; refine (without_any _ _ (by first | exact HI.out | exact HW.out | exact HS.out) _).mono ?_; rintro e w' ⟨rfl, rfl⟩))
    all_goals (go_ret; exact ⟨rfl, hb⟩)
  · rw [decide_eq_false e] at k7 k8
    simp only [Bool.or_false, Bool.not_false, Bool.and_true] at k7 k8
    have k9 : ((x : Int) != (y : Int)) = true := by simp; omega
    clear e
    cases k10 : isIn a0 y
    all_goals
      rw [k10] at k7 k8
      go_enter Try.func8, Try.ntmps8
      go_wp2_with (first
        | (go_at_call 9; refine (sane_any _).mono ?_; rintro e w1 ⟨rfl, hb⟩)
        | (go_at_call 28; refine (in_any _ _ _).mono ?_; rintro e w' ⟨rfl, rfl⟩)
        | (go_at_call 30; refine (with_any _ _ (by first | exact HI.out | exact HW.out | exact HY.out) _).mono ?_; rintro e w' ⟨rfl, rfl⟩)
        | (go_at_call 32; refine (without_any _ _ (by first | exact HI.out | exact HW.out | exact HS.out) _).mono ?_; rintro e w' ⟨rfl, rfl⟩))
      all_goals (go_ret; exact ⟨rfl, hb⟩)

theorem own : ownKnob Try.prog.godebug = none := by kernel_rfl

/-! ### THE ROW's STEP: WRITTEN OUT: LEAVE IT -/
set_option maxRecDepth 100000 in
theorem lifted (os : Os) (started : os.Started) (H : Type) (enc : TypeId × Value → H) :
    ReturnsInHanded {} Try.checked os 8 .any (Rows.wordSetsSpec.pre6 enc Try.prog Try.f8 Rows.wordSetsRow.domain false) (Rows.wordSetsSpec.post enc Try.prog Try.f8 false true false false) := by
  refine returnsInHanded_of_change (C := Try.checked) own started (by kernel_rfl) Try.func8
    (ChangeSpec.witness6 (enc := enc) (C := Try.checked) false ⟨#[], #[.int .i64 0, .int .u8 0, .int .u8 0], []⟩ 8 (by kernel_rfl) (by kernel_rfl) (by kernel_rfl) (by kernel_rfl)) ?_
  intro W base args ds gs before hval0 hW hcnd _
  have hval : ∀ (j : Nat) t v, Try.f8.params[j]? = some t → args[j]? = some v → Value.okWide Try.prog W .any base t v := hval0
  have hW' := hW
  obtain ⟨p, q, hA0, hV, rfl, hfz, hnd⟩ := hW
  have hA : DataW.TrodAll enc Try.prog W 0 (fun _ => true) true Try.f8.params.toList args.toList ds p := hA0
  rw [Try.params8] at hA hval
  obtain ⟨v0, vs0, d0, ds0, p0, q0, hargs, rfl, rfl, h0, r0⟩ := trodAll_cons hA
  obtain ⟨v1, vs1, d1, ds1, p1, q1, rfl, rfl, rfl, h1, r1⟩ := trodAll_cons r0
  obtain ⟨v2, vs2, d2, ds2, p2, q2, rfl, rfl, rfl, h2, r2⟩ := trodAll_cons r1
  obtain ⟨rfl, rfl, rfl⟩ := trodAll_nil r2
  obtain rfl : args = #[v0, v1, v2] := by cases args; simp_all
  obtain ⟨rfl, rfl⟩ := trodVars_none hV
  obtain ⟨a0, rfl, rfl, rfl, w0⟩ := open_int Try.underlying3 (hval 0 3 v0 rfl rfl) h0
  obtain ⟨a1, rfl, rfl, rfl, w1⟩ := open_int Try.underlying5 (hval 1 5 v1 rfl rfl) h1
  obtain ⟨a2, rfl, rfl, rfl, w2⟩ := open_int Try.underlying5 (hval 2 5 v2 rfl rfl) h2
  clear hA0 hval0
  simp only [List.append_nil] at hW'
  refine (walk a0 a1 a2 w0 w1 w2 W).mono fun e W' ⟨he, hg⟩ => ?_
  subst he
  exact ⟨_, rfl, _, _, _, [], _, [], hW', (trodAll_cons_mk (shut_bool Try.underlying4 _) trodAll_mk0), (trodAll_cons_mk (shut_int Try.underlying3 w0) (trodAll_cons_mk (shut_int Try.underlying5 w1) (trodAll_cons_mk (shut_int Try.underlying5 w2) trodAll_mk0))), rfl, hg.frame _, fun h => by cases h⟩

theorem over : Rows.wordSetsRow.holds Try.pinned (OpenSpec.ofChange Rows.wordSetsSpec) :=
  OpenClaim.holds_of_wide 8 Try.f8 rfl rfl rfl rfl rfl rfl rfl ⟨rfl, rfl, rfl, rfl, rfl⟩ rfl rfl rfl rfl rfl (by kernel_rfl) Try.func8 (by kernel_rfl)
    (of_decide_eq_true (by kernel_rfl)) (by unfold Func.isWrapper; first | (rw [if_pos (by decide +kernel)]; kernel_rfl) | (rw [if_neg (by decide +kernel)]; exact ⟨rfl, rfl⟩))
    (fun os started H enc _ => lifted os started H enc)

/-- ████ THE STATEMENT ████ -/
theorem proved : Rows.WordSetsSaid :=
  over
#print axioms proved
end Go.Proofs.Ytlgfkodllacfdaa.wordSets
