/- WordBits: for every mask below 2^62, Bits returns exactly the contained threads in ascending order, and adding them to the empty mask makes the mask. No condition. -/
import Derived.Test.YtlgfkodllacfdabRows
import Derived.Test.YtlgfkodllacfdabWordSane
import Derived.Test.YtlgfkodllacfdabWordBv
import Derived.Test.YtlgfkodllacfdabWordBitsLaw
import Derived.Deep.QuietTactic
import Derived.BigQuiet
import Derived.IntWalk
import Derived.WalkKit
import Derived.ProofKit
import Derived.OpenShut
import Derived.Lib.Hide
namespace Go.Proofs.Ytlgfkodllacfdab.wordBits
open Go.ChangeShapes Go.WideShapes Go.ChangeAt Go.RowKit
set_option linter.unusedVariables false

theorem u64_of {n : Int} (h : (Lit.int .u64 n).wf = true) : 0 ≤ n ∧ n ≤ 18446744073709551615 := by
  have h1 : IntKind.u64.min = 0 := rfl
  have h2 : IntKind.u64.max = 18446744073709551615 := rfl
  simp only [Lit.wf, Bool.and_eq_true, decide_eq_true_eq] at h
  omega

theorem rises_at {m : Int} {j : Nat} (h : j + 1 < (bitsL m 62).length) : (bitsL m 62).getD j 0 < (bitsL m 62).getD (j + 1) 0 := by
  have hp := bitsL_rises m 62 (Nat.le_refl _)
  rw [List.pairwise_iff_getElem] at hp
  have := hp j (j + 1) (by omega) h (by omega)
  simpa [List.getD, List.getElem?_eq_getElem h, List.getElem?_eq_getElem (show j < (bitsL m 62).length by omega)] using this
theorem in_at {m : Int} {j : Nat} (h : j < (bitsL m 62).length) : isIn m ((bitsL m 62).getD j 0) = true := by
  have : (bitsL m 62).getD j 0 ∈ bitsL m 62 := by
    simp [List.getD, List.getElem?_eq_getElem h]
  exact (bitsL_mem this).2.2

theorem in_true (m x : Int) (h : Hid (isIn m x = true)) (w : World) : Calls Try.prog 6 #[.int .i64 m, .int .i64 x] w fun e w' => e = .returned (.bool true) ∧ w' = w :=
  (in_any m x w).mono fun _ _ ⟨he, hw⟩ => ⟨by rw [he, h.out], hw.symm⟩

set_option maxRecDepth 100000 in
theorem walk (a0 : Int) (w0 : (Lit.int .u64 a0).wf = true) (w : World) :
    Calls Try.prog 3 #[.int .u64 a0] w fun e w' => e = .returned (.bool true) ∧ Below w.heap.size w w' := by
  obtain ⟨h1, h2⟩ := u64_of w0
  clear w0
  obtain ⟨m, hm⟩ : ∃ m, a0 % 4611686018427387904 = m := ⟨_, rfl⟩
  have m0 : 0 ≤ m := by omega
  have m1 : m ≤ 4611686018427387903 := by omega
  have HM := Lib.hid (made_all m m0 (by omega))
  go_enter Try.func3, Try.ntmps3
  go_wp2_with (first
    | (go_at_call 4; refine (sane_any _).mono ?_; rintro e w1 ⟨rfl, hb⟩)
    | (go_at_call 5; refine (bits_any _ _).mono ?_; rintro e w2 ⟨v, rfl, hv, hb2⟩))
  have hle := bitsL_le m 62
  obtain ⟨a, cap, rfl, _, hc⟩ := hasInts_of_owns hv
  have HB := Lib.hid (show Below w.heap.size w w2 from hb.trans (hb2.mono hb.size))
  clear hv hb hb2 hm h1 h2
  obtain ⟨L, hL⟩ : ∃ L, L = bitsL m 62 := ⟨_, rfl⟩
  rw [← hL] at hc hle HM
  rw [← hL]
  have HL := Lib.hid hL
  clear hL
  go_loopw [6, 7] (fun p i wr => ∃ k n : Nat, k ≤ L.length ∧ i = .int .i64 k ∧ wr = w2.drewN n ∧ p = .int .i64 (madeOf (L.take k))) (fun _ i _ => L.length - (intOf i).toNat)
  case atStart => exact ⟨0, 0, Nat.zero_le _, rfl, rfl, rfl⟩
  case round =>
    obtain ⟨k, n, hk, rfl, hwr, rfl⟩ := hrel
    have HWR := Lib.hid hwr
    have hcr : ∀ a, wr.cell? a = w2.cell? a := fun a => by rw [hwr]; rfl
    clear hwr
    by_cases hlt : k < L.length
    · rcases hc with hc | ⟨b, o, rfl, hc⟩
      · omega
      have hx1 := (hcr _).trans (hc k hlt)
      have hi1 : isIn m (L.getD k 0) = true := by rw [HL.out]; exact in_at (by rw [← HL.out]; exact hlt)
      have HT := Lib.hid (take_snoc' L k hlt)
      have HI := Lib.hid (madeOf_i64 (L.take k))
      obtain ⟨x, hx⟩ : ∃ x, x = L.getD k 0 := ⟨_, rfl⟩
      rw [← hx] at hx1 hi1 HT
      have HX := Lib.hid hi1
      clear hi1
      by_cases h0 : 0 < k
      · obtain ⟨j, rfl⟩ : ∃ j, k = j + 1 := ⟨k - 1, by omega⟩
        have hx2 := (hcr _).trans (hc j (by omega))
        have hr : L.getD j 0 < L.getD (j + 1) 0 := by rw [HL.out]; exact rises_at (by rw [← HL.out]; exact hlt)
        obtain ⟨y, hy⟩ : ∃ y, y = L.getD j 0 := ⟨_, rfl⟩
        rw [← hy] at hx2 hr
        rw [← hx] at hr
        clear hx hy hc h0 hcr
        have q1 : IntKind.i64.wrap (j : Int) = j := IntWalk.i64_in _ (by omega)
        have q2 : ((j : Int) < 0) = False := by simp
        have q4 : (j : Int) < L.length := by omega
        have q5 : (j : Int) + 1 < L.length := by omega
        have q6 : 0 ≤ (j : Int) + 1 := by omega
        have q7 : ((j : Int) + 1).toNat = j + 1 := by omega
        have q3 : decide (x ≤ y) = false := by simp; omega
        go_wp2
        go_quiet ((go_at_call 6; exact Calls.quiet_of_same (in_true m x HX _)))
        clear q1 q2 q7
        go_wp2_with (first | (go_at_call 7; refine (with_any _ _ HI.out _).mono ?_; rintro e w' ⟨rfl, rfl⟩))
        go_roundw
        case rel => exact ⟨j + 1 + 1, n + nq, by omega, by go_num, by rw [HWR.out]; exact World.drewN_drewN .., by rw [HT.out, madeOf_snoc]⟩
        case measure => simp [intOf]; omega
      · have h0' : k ≤ 0 := by omega
        have h1' : decide (0 < k) = false := by simp; omega
        have q4 : (k : Int) < L.length := by omega
        clear h0 hx hc hcr
        go_wp2
        go_quiet ((go_at_call 6; exact Calls.quiet_of_same (in_true m x HX _)))
        go_wp2_with (first | (go_at_call 7; refine (with_any _ _ HI.out _).mono ?_; rintro e w' ⟨rfl, rfl⟩))
        go_roundw
        case rel => exact ⟨k + 1, n + nq, by omega, by go_num, by rw [HWR.out]; exact World.drewN_drewN .., by rw [HT.out, madeOf_snoc]⟩
        case measure => simp [intOf]; omega
    · obtain rfl : k = L.length := by omega
      have HT : madeOf (L.take L.length) = m := by rw [List.take_length]; exact HM.out
      rw [HT]
      go_wp2
      go_ret
      exact ⟨rfl, by rw [HWR.out]; exact below_drewN HB.out n⟩

theorem own : ownKnob Try.prog.godebug = none := by kernel_rfl

/-! ### THE ROW's STEP: WRITTEN OUT: LEAVE IT -/
set_option maxRecDepth 100000 in
theorem lifted (os : Os) (started : os.Started) (H : Type) (enc : TypeId × Value → H) :
    ReturnsInHanded {} Try.checked os 3 .any (Rows.wordBitsSpec.pre6 enc Try.prog Try.f3 Rows.wordBitsRow.domain false) (Rows.wordBitsSpec.post enc Try.prog Try.f3 false true false false) := by
  refine returnsInHanded_of_change (C := Try.checked) own started (by kernel_rfl) Try.func3
    (ChangeSpec.witness6 (enc := enc) (C := Try.checked) false ⟨#[], #[.int .u64 0], []⟩ 8 (by kernel_rfl) (by kernel_rfl) (by kernel_rfl) (by kernel_rfl)) ?_
  intro W base args ds gs before hval0 hW hcnd _
  have hval : ∀ (j : Nat) t v, Try.f3.params[j]? = some t → args[j]? = some v → Value.okWide Try.prog W .any base t v := hval0
  have hW' := hW
  obtain ⟨p, q, hA0, hV, rfl, hfz, hnd⟩ := hW
  have hA : DataW.TrodAll enc Try.prog W 0 (fun _ => true) true Try.f3.params.toList args.toList ds p := hA0
  rw [Try.params3] at hA hval
  obtain ⟨v0, vs0, d0, ds0, p0, q0, hargs, rfl, rfl, h0, r0⟩ := trodAll_cons hA
  obtain ⟨rfl, rfl, rfl⟩ := trodAll_nil r0
  obtain rfl : args = #[v0] := by cases args; simp_all
  obtain ⟨rfl, rfl⟩ := trodVars_none hV
  obtain ⟨a0, rfl, rfl, rfl, w0⟩ := open_int Try.underlying22 (hval 0 22 v0 rfl rfl) h0
  clear hA0 hval0
  simp only [List.append_nil] at hW'
  refine (walk a0 w0 W).mono fun e W' ⟨he, hg⟩ => ?_
  subst he
  exact ⟨_, rfl, _, _, _, [], _, [], hW', (trodAll_cons_mk (shut_bool Try.underlying4 _) trodAll_mk0), (trodAll_cons_mk (shut_int Try.underlying22 w0) trodAll_mk0), rfl, hg.frame _, fun h => by cases h⟩

theorem over : Rows.wordBitsRow.holds Try.pinned (OpenSpec.ofChange Rows.wordBitsSpec) :=
  OpenClaim.holds_of_wide 3 Try.f3 rfl rfl rfl rfl rfl rfl rfl ⟨rfl, rfl, rfl, rfl, rfl⟩ rfl rfl rfl rfl rfl (by kernel_rfl) Try.func3 (by kernel_rfl)
    (of_decide_eq_true (by kernel_rfl)) (by unfold Func.isWrapper; first | (rw [if_pos (by decide +kernel)]; kernel_rfl) | (rw [if_neg (by decide +kernel)]; exact ⟨rfl, rfl⟩))
    (fun os started H enc _ => lifted os started H enc)

/-- ████ THE STATEMENT ████ -/
theorem proved : Rows.WordBitsSaid :=
  over
#print axioms proved
end Go.Proofs.Ytlgfkodllacfdab.wordBits
