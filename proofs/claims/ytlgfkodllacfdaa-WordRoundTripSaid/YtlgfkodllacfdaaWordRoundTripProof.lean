/- WordRoundTrip: decoding an encoded version, owner, attempt number or kind returns the original; a locked word is never an unlocked one. No condition. -/
import Derived.Test.YtlgfkodllacfdaaRows
import Derived.Test.YtlgfkodllacfdaaWordSane
import Derived.WalkKit
import Derived.ProofKit
import Derived.OpenShut
import Derived.Lib.Hide
namespace Go.Proofs.Ytlgfkodllacfdaa.wordRoundTrip
open Go.ChangeShapes Go.WideShapes Go.ChangeAt Go.RowKit
set_option linter.unusedVariables false

theorem u32_of {n : Int} (h : (Lit.int .u32 n).wf = true) : 0 ≤ n ∧ n ≤ 4294967295 := by
  have h1 : IntKind.u32.min = 0 := rfl
  have h2 : IntKind.u32.max = 4294967295 := rfl
  simp only [Lit.wf, Bool.and_eq_true, decide_eq_true_eq] at h
  omega
theorem u8_of {n : Int} (h : (Lit.int .u8 n).wf = true) : 0 ≤ n ∧ n ≤ 255 := by
  have h1 : IntKind.u8.min = 0 := rfl
  have h2 : IntKind.u8.max = 255 := rfl
  simp only [Lit.wf, Bool.and_eq_true, decide_eq_true_eq] at h
  omega

theorem free_in (a : Int) (h : 0 ≤ a ∧ a ≤ 4294967295) (w : World) : Calls Try.prog 10 #[.int .i64 a] w fun e w' => e = .returned (.int .i64 (2 * a)) ∧ w = w' := by
  have hh := free_any a w; rwa [wrap64_id (by unfold I64; omega)] at hh
theorem held_in (a : Int) (h : 0 ≤ a ∧ a ≤ 4294967295) (w : World) : Calls Try.prog 12 #[.int .i64 a] w fun e w' => e = .returned (.int .i64 (2 * a + 1)) ∧ w = w' := by
  have hh := held_any a w; rwa [wrap64_id (by unfold I64; omega)] at hh
theorem status_in (a k : Int) (h : 0 ≤ a ∧ a ≤ 4294967295) (hk : 0 ≤ k ∧ k ≤ 3) (w : World) : Calls Try.prog 20 #[.int .i64 a, .int .i64 k] w fun e w' => e = .returned (.int .i64 (4 * a + k)) ∧ w = w' := by
  have hh := status_any a k w; rwa [wrap64_id (by unfold I64; omega), show k % 4 = k by omega] at hh
theorem locked_free (a : Int) (w : World) : Calls Try.prog 14 #[.int .i64 (2 * a)] w fun e w' => e = .returned (.bool false) ∧ w = w' := by
  have hh := locked_any (2 * a) w; rwa [show decide (2 * a % 2 = 1) = false by simp] at hh
theorem locked_held (a : Int) (w : World) : Calls Try.prog 14 #[.int .i64 (2 * a + 1)] w fun e w' => e = .returned (.bool true) ∧ w = w' := by
  have hh := locked_any (2 * a + 1) w; rwa [show decide ((2 * a + 1) % 2 = 1) = true by simp] at hh
theorem ver_free (a : Int) (w : World) : Calls Try.prog 16 #[.int .i64 (2 * a)] w fun e w' => e = .returned (.int .i64 a) ∧ w = w' := by
  have hh := ver_any (2 * a) w; rwa [show 2 * a / 2 = a by omega] at hh
theorem who_held (a : Int) (w : World) : Calls Try.prog 18 #[.int .i64 (2 * a + 1)] w fun e w' => e = .returned (.int .i64 a) ∧ w = w' := by
  have hh := who_any (2 * a + 1) w; rwa [show (2 * a + 1) / 2 = a by omega] at hh
theorem try_status (a k : Int) (h : 0 ≤ a ∧ a ≤ 4294967295) (hk : 0 ≤ k ∧ k ≤ 3) (w : World) : Calls Try.prog 22 #[.int .i64 (4 * a + k)] w fun e w' => e = .returned (.int .i64 a) ∧ w = w' := by
  have hh := try_any (4 * a + k) (by unfold I64; omega) w; rwa [show (4 * a + k) / 4 = a by omega] at hh
theorem kind_status (a k : Int) (hk : 0 ≤ k ∧ k ≤ 3) (w : World) : Calls Try.prog 24 #[.int .i64 (4 * a + k)] w fun e w' => e = .returned (.int .i64 k) ∧ w = w' := by
  have hh := kind_any (4 * a + k) w; rwa [show (4 * a + k) % 4 = k by omega] at hh

set_option maxRecDepth 100000 in
theorem walk (a0 a1 a2 : Int) (w0 : (Lit.int .u32 a0).wf = true) (w1 : (Lit.int .u32 a1).wf = true) (w2 : (Lit.int .u8 a2).wf = true) (w : World) :
    Calls Try.prog 6 #[.int .u32 a0, .int .u32 a1, .int .u8 a2] w fun e w' => e = .returned (.bool true) ∧ Below w.heap.size w w' := by
  obtain ⟨h1, h2⟩ := u32_of w0
  obtain ⟨h3, h4⟩ := u32_of w1
  obtain ⟨h5, h6⟩ := u8_of w2
  clear w0 w1 w2
  have hne : ((2 * a0) == (2 * a1 + 1)) = false := by simp; omega
  have hne' : ((2 * a0) != (2 * a1 + 1)) = true := by simp; omega
  have hm1 : 0 ≤ a2 % 4 := by omega
  have hm2 : a2 % 4 ≤ 3 := by omega
  go_enter Try.func6, Try.ntmps6
  go_wp2_with (first
    | (go_at_call 9; refine (sane_any _).mono ?_; rintro e w1 ⟨rfl, hb⟩)
    | (go_at_call 10; refine (free_in _ ⟨by omega, by omega⟩ _).mono ?_; rintro e w' ⟨rfl, rfl⟩)
    | (go_at_call 12; refine (held_in _ ⟨by omega, by omega⟩ _).mono ?_; rintro e w' ⟨rfl, rfl⟩)
    | (go_at_call 20; refine (status_in _ _ ⟨by omega, by omega⟩ ⟨by omega, by omega⟩ _).mono ?_; rintro e w' ⟨rfl, rfl⟩)
    | ((with_reducible refine (locked_free _ _).mono ?_); rintro e w' ⟨rfl, rfl⟩)
    | ((with_reducible refine (locked_held _ _).mono ?_); rintro e w' ⟨rfl, rfl⟩)
    | (go_at_call 16; refine (ver_free _ _).mono ?_; rintro e w' ⟨rfl, rfl⟩)
    | (go_at_call 18; refine (who_held _ _).mono ?_; rintro e w' ⟨rfl, rfl⟩)
    | (go_at_call 22; refine (try_status _ _ ⟨by omega, by omega⟩ ⟨by omega, by omega⟩ _).mono ?_; rintro e w' ⟨rfl, rfl⟩)
    | (go_at_call 24; refine (kind_status _ _ ⟨by omega, by omega⟩ _).mono ?_; rintro e w' ⟨rfl, rfl⟩))
  go_ret
  exact ⟨rfl, hb⟩

theorem own : ownKnob Try.prog.godebug = none := by kernel_rfl

/-! ### THE ROW's STEP: WRITTEN OUT: LEAVE IT -/
set_option maxRecDepth 100000 in
theorem lifted (os : Os) (started : os.Started) (H : Type) (enc : TypeId × Value → H) :
    ReturnsInHanded {} Try.checked os 6 .any (Rows.wordRoundTripSpec.pre6 enc Try.prog Try.f6 Rows.wordRoundTripRow.domain false) (Rows.wordRoundTripSpec.post enc Try.prog Try.f6 false true false false) := by
  refine returnsInHanded_of_change (C := Try.checked) own started (by kernel_rfl) Try.func6
    (ChangeSpec.witness6 (enc := enc) (C := Try.checked) false ⟨#[], #[.int .u32 0, .int .u32 0, .int .u8 0], []⟩ 8 (by kernel_rfl) (by kernel_rfl) (by kernel_rfl) (by kernel_rfl)) ?_
  intro W base args ds gs before hval0 hW hcnd _
  have hval : ∀ (j : Nat) t v, Try.f6.params[j]? = some t → args[j]? = some v → Value.okWide Try.prog W .any base t v := hval0
  have hW' := hW
  obtain ⟨p, q, hA0, hV, rfl, hfz, hnd⟩ := hW
  have hA : DataW.TrodAll enc Try.prog W 0 (fun _ => true) true Try.f6.params.toList args.toList ds p := hA0
  rw [Try.params6] at hA hval
  obtain ⟨v0, vs0, d0, ds0, p0, q0, hargs, rfl, rfl, h0, r0⟩ := trodAll_cons hA
  obtain ⟨v1, vs1, d1, ds1, p1, q1, rfl, rfl, rfl, h1, r1⟩ := trodAll_cons r0
  obtain ⟨v2, vs2, d2, ds2, p2, q2, rfl, rfl, rfl, h2, r2⟩ := trodAll_cons r1
  obtain ⟨rfl, rfl, rfl⟩ := trodAll_nil r2
  obtain rfl : args = #[v0, v1, v2] := by cases args; simp_all
  obtain ⟨rfl, rfl⟩ := trodVars_none hV
  obtain ⟨a0, rfl, rfl, rfl, w0⟩ := open_int Try.underlying30 (hval 0 30 v0 rfl rfl) h0
  obtain ⟨a1, rfl, rfl, rfl, w1⟩ := open_int Try.underlying30 (hval 1 30 v1 rfl rfl) h1
  obtain ⟨a2, rfl, rfl, rfl, w2⟩ := open_int Try.underlying5 (hval 2 5 v2 rfl rfl) h2
  clear hA0 hval0
  simp only [List.append_nil] at hW'
  refine (walk a0 a1 a2 w0 w1 w2 W).mono fun e W' ⟨he, hg⟩ => ?_
  subst he
  exact ⟨_, rfl, _, _, _, [], _, [], hW', (trodAll_cons_mk (shut_bool Try.underlying4 _) trodAll_mk0), (trodAll_cons_mk (shut_int Try.underlying30 w0) (trodAll_cons_mk (shut_int Try.underlying30 w1) (trodAll_cons_mk (shut_int Try.underlying5 w2) trodAll_mk0))), rfl, hg.frame _, fun h => by cases h⟩

theorem over : Rows.wordRoundTripRow.holds Try.pinned (OpenSpec.ofChange Rows.wordRoundTripSpec) :=
  OpenClaim.holds_of_wide 6 Try.f6 rfl rfl rfl rfl rfl rfl rfl ⟨rfl, rfl, rfl, rfl, rfl⟩ rfl rfl rfl rfl rfl (by kernel_rfl) Try.func6 (by kernel_rfl)
    (of_decide_eq_true (by kernel_rfl)) (by unfold Func.isWrapper; first | (rw [if_pos (by decide +kernel)]; kernel_rfl) | (rw [if_neg (by decide +kernel)]; exact ⟨rfl, rfl⟩))
    (fun os started H enc _ => lifted os started H enc)

/-- ████ THE STATEMENT ████ -/
theorem proved : Rows.WordRoundTripSaid :=
  over
#print axioms proved
end Go.Proofs.Ytlgfkodllacfdaa.wordRoundTrip
