
/-
  What each function of layer 1 (words, status words, masks) returns, program and reference alike.
-/
import Derived.Test.YtlgfkodllacfdabRows
import Derived.Test.YtlgfkodllacfdabWordPlain
import Derived.WalkKit
import Derived.ProofKit
import Derived.OpenShut
import Derived.Lib.Hide
namespace Go.Proofs.Ytlgfkodllacfdab
open Go.ChangeShapes Go.WideShapes Go.ChangeAt Go.RowKit

theorem i64_zero : I64 0 := ⟨by decide, by decide⟩
theorem ret_bool {a b : Bool} (h : a = b) : Ending.returned (.bool a) = .returned (.bool b) := by rw [h]
theorem ret_int {k : IntKind} {a b : Int} (h : a = b) : Ending.returned (.int k a) = .returned (.int k b) := by rw [h]
theorem odd_ne (a : Int) : (a % 2 != 0) = decide (a % 2 = 1) := by
  have : a % 2 = 0 ∨ a % 2 = 1 := by omega
  rcases this with h | h <;> rw [h] <;> decide

theorem half_any (a : Int) (w : World) : Calls Try.prog 23 #[.int .i64 a] w fun e w' => e = .returned (.int .i64 (a / 2)) ∧ w = w' := by
  go_enter Try.func23, Try.ntmps23
  go_wp2
  go_ret
  exact ⟨rfl, rfl⟩

theorem tmod_lem (a n : Int) (hn : 0 < n) : (0 ≤ a.tmod n ∧ a.tmod n = a % n) ∨ (a.tmod n < 0 ∧ -n < a.tmod n ∧ a.tmod n + n = a % n) := by
  rw [Int.tmod_eq_emod]
  have h0 := Int.emod_nonneg a (show n ≠ 0 by omega)
  have h1 := Int.emod_lt_of_pos a hn
  split
  · left; omega
  · rename_i h
    right
    have hne : a % n ≠ 0 := fun hc => h (Or.inr (Int.dvd_of_emod_eq_zero hc))
    have : (n.natAbs : Int) = n := by omega
    omega

theorem locked_any (a : Int) (w : World) : Calls Try.prog 11 #[.int .i64 a] w fun e w' => e = .returned (.bool (decide (a % 2 = 1))) ∧ w = w' := by
  have h := and_mask a 1 (by decide)
  have h' : bits .and .i64 a 1 = a % 2 := by simpa using h
  clear h
  go_enter Try.func11, Try.ntmps11
  go_wp2
  go_ret
  exact ⟨ret_bool (odd_ne a), rfl⟩

theorem kind_any (a : Int) (w : World) : Calls Try.prog 15 #[.int .i64 a] w fun e w' => e = .returned (.int .i64 (a % 4)) ∧ w = w' := by
  have h := and_mask a 2 (by decide)
  have h' : bits .and .i64 a 3 = a % 4 := by simpa using h
  clear h
  go_enter Try.func15, Try.ntmps15
  go_wp2
  go_ret
  exact ⟨rfl, rfl⟩

theorem free_any (a : Int) (w : World) : Calls Try.prog 8 #[.int .i64 a] w fun e w' => e = .returned (.int .i64 (wrap64 (2 * a))) ∧ w = w' := by
  go_enter Try.func8, Try.ntmps8
  go_wp2
  go_ret
  exact ⟨rfl, rfl⟩

theorem held_any (a : Int) (w : World) : Calls Try.prog 9 #[.int .i64 a] w fun e w' => e = .returned (.int .i64 (wrap64 (2 * a + 1))) ∧ w = w' := by
  go_enter Try.func9, Try.ntmps9
  go_wp2
  go_ret
  refine ⟨ret_int ?_, rfl⟩
  unfold wrap64; omega

theorem ver_any (a : Int) (w : World) : Calls Try.prog 12 #[.int .i64 a] w fun e w' => e = .returned (.int .i64 (a / 2)) ∧ w = w' := by
  go_enter Try.func12, Try.ntmps12
  go_wp2
  go_ret
  exact ⟨rfl, rfl⟩

theorem who_any (a : Int) (w : World) : Calls Try.prog 13 #[.int .i64 a] w fun e w' => e = .returned (.int .i64 (a / 2)) ∧ w = w' := by
  go_enter Try.func13, Try.ntmps13
  go_wp2
  go_ret
  exact ⟨rfl, rfl⟩

theorem status_any (t k : Int) (w : World) : Calls Try.prog 10 #[.int .i64 t, .int .i64 k] w fun e w' => e = .returned (.int .i64 (wrap64 (4 * t + k % 4))) ∧ w = w' := by
  have h := and_mask k 2 (by decide)
  have h' : bits .and .i64 k 3 = k % 4 := by simpa using h
  clear h
  go_enter Try.func10, Try.ntmps10
  go_wp2
  go_ret
  refine ⟨ret_int ?_, rfl⟩
  unfold wrap64; omega

theorem try_any (a : Int) (ha : I64 a) (w : World) : Calls Try.prog 14 #[.int .i64 a] w fun e w' => e = .returned (.int .i64 (a / 4)) ∧ w = w' := by
  obtain ⟨h1, h2⟩ := ha
  have hd : (a - a % 4).tdiv 4 = a / 4 := by rw [Int.tdiv_eq_ediv_of_dvd (by omega)]; omega
  have HD : Hid ((a - a % 4).tdiv 4 = a / 4) := Lib.hid hd
  clear hd
  go_enter Try.func14, Try.ntmps14
  go_wp2_with (first | (go_at_call 15; refine (kind_any _ _).mono ?_; rintro e w' ⟨rfl, rfl⟩))
  go_ret
  exact ⟨ret_int HD.out, rfl⟩

/-- One thread's mask. -/
def pw (t : Int) : Int := if 0 ≤ t ∧ t ≤ 61 then 2 ^ t.toNat else 0
theorem pw_in {t : Nat} (h : t ≤ 61) : pw t = 2 ^ t := by unfold pw; rw [if_pos (by omega)]; simp
theorem pw_out {t : Int} (h : ¬ (0 ≤ t ∧ t ≤ 61)) : pw t = 0 := by unfold pw; rw [if_neg h]

theorem single_any (t : Int) (w : World) : Calls Try.prog 25 #[.int .i64 t] w fun e w' => e = .returned (.int .i64 (pw t)) ∧ w = w' := by
  by_cases h : 0 ≤ t ∧ t ≤ 61
  · obtain ⟨n, rfl⟩ := Int.eq_ofNat_of_zero_le h.1
    have ht : n ≤ 61 := by omega
    have hp := pow_le61 ht
    have hp0 := pow_pos' n
    have HE := Lib.hid (pw_in ht)
    go_enter Try.func25, Try.ntmps25
    go_wp2
    go_ret
    exact ⟨ret_int HE.out.symm, rfl⟩
  · have HE := Lib.hid (pw_out h)
    by_cases h0 : t < 0
    · go_enter Try.func25, Try.ntmps25
      go_wp2
      go_ret
      exact ⟨ret_int HE.out.symm, rfl⟩
    · have h1 : 61 < t := by omega
      have h2 : 0 ≤ t := by omega
      clear h h0
      go_enter Try.func25, Try.ntmps25
      go_wp2
      go_ret
      exact ⟨ret_int HE.out.symm, rfl⟩

/-- Does mask m contain thread t? -/
def isIn (m t : Int) : Bool := decide (0 ≤ t ∧ t ≤ 61) && tb m t.toNat
theorem isIn_in (m : Int) {t : Nat} (h : t ≤ 61) : isIn m t = tb m t := by
  unfold isIn; rw [decide_eq_true (by omega : (0 : Int) ≤ t ∧ (t : Int) ≤ 61)]; simp
theorem isIn_out (m : Int) {t : Int} (h : ¬ (0 ≤ t ∧ t ≤ 61)) : isIn m t = false := by
  unfold isIn; rw [decide_eq_false h]; rfl
def withT (m t : Int) : Int := if isIn m t then m else m + pw t
def sansT (m t : Int) : Int := if isIn m t then m - pw t else m

theorem and_pw (m t : Int) : (bits .and .i64 m (pw t) != 0) = isIn m t := by
  by_cases h : 0 ≤ t ∧ t ≤ 61
  · obtain ⟨n, rfl⟩ := Int.eq_ofNat_of_zero_le h.1
    have ht : n ≤ 61 := by omega
    rw [pw_in ht, isIn_in m ht, bits_and_pow m ht]
    have := pow_pos' n
    cases tb m n
    · simp
    · simp; omega
  · rw [pw_out h, isIn_out m h, bits_and_zero]; rfl
theorem or_pw {m : Int} (hm : I64 m) (t : Int) : bits .or .i64 m (pw t) = withT m t := by
  unfold withT
  by_cases h : 0 ≤ t ∧ t ≤ 61
  · obtain ⟨n, rfl⟩ := Int.eq_ofNat_of_zero_le h.1
    have ht : n ≤ 61 := by omega
    rw [pw_in ht, isIn_in m ht, bits_or_pow hm ht]
  · rw [pw_out h, isIn_out m h, bits_or_zero hm]; simp
theorem andNot_pw {m : Int} (hm : I64 m) (t : Int) : bits .andNot .i64 m (pw t) = sansT m t := by
  unfold sansT
  by_cases h : 0 ≤ t ∧ t ≤ 61
  · obtain ⟨n, rfl⟩ := Int.eq_ofNat_of_zero_le h.1
    have ht : n ≤ 61 := by omega
    rw [pw_in ht, isIn_in m ht, bits_andNot_pow hm ht]
  · rw [pw_out h, isIn_out m h, bits_andNot_zero hm]; simp

theorem has_any (m t : Int) (w : World) : Calls Try.prog 20 #[.int .i64 m, .int .i64 t] w fun e w' => e = .returned (.bool (isIn m t)) ∧ w = w' := by
  have HE := Lib.hid (and_pw m t)
  go_enter Try.func20, Try.ntmps20
  go_wp2_with (first | (go_at_call 25; refine (single_any _ _).mono ?_; rintro e w' ⟨rfl, rfl⟩))
  go_ret
  exact ⟨ret_bool HE.out, rfl⟩
theorem add_any (m t : Int) (hm : I64 m) (w : World) : Calls Try.prog 22 #[.int .i64 m, .int .i64 t] w fun e w' => e = .returned (.int .i64 (withT m t)) ∧ w = w' := by
  have HE := Lib.hid (or_pw hm t)
  go_enter Try.func22, Try.ntmps22
  go_wp2_with (first | (go_at_call 25; refine (single_any _ _).mono ?_; rintro e w' ⟨rfl, rfl⟩))
  go_ret
  exact ⟨ret_int HE.out, rfl⟩
theorem remove_any (m t : Int) (hm : I64 m) (w : World) : Calls Try.prog 24 #[.int .i64 m, .int .i64 t] w fun e w' => e = .returned (.int .i64 (sansT m t)) ∧ w = w' := by
  have HE := Lib.hid (andNot_pw hm t)
  go_enter Try.func24, Try.ntmps24
  go_wp2_with (first | (go_at_call 25; refine (single_any _ _).mono ?_; rintro e w' ⟨rfl, rfl⟩))
  go_ret
  exact ⟨ret_int HE.out, rfl⟩

theorem withT_zero (t : Int) : withT 0 t = pw t := by
  have h : isIn 0 t = false := by
    unfold isIn tb; simp
  unfold withT; rw [h]; simp

theorem bit_any (t : Int) (w : World) : Calls Try.prog 16 #[.int .i64 t] w fun e w' => e = .returned (.int .i64 (pw t)) ∧ w = w' := by
  have HE := Lib.hid (withT_zero t)
  go_enter Try.func16, Try.ntmps16
  go_wp2_with (first | (go_at_call 22; refine (add_any _ _ i64_zero _).mono ?_; rintro e w' ⟨rfl, rfl⟩))
  go_ret
  exact ⟨ret_int HE.out, rfl⟩
theorem in_any (m t : Int) (w : World) : Calls Try.prog 6 #[.int .i64 m, .int .i64 t] w fun e w' => e = .returned (.bool (isIn m t)) ∧ w = w' := by
  go_enter Try.func6, Try.ntmps6
  go_wp2_with (first | (go_at_call 20; refine (has_any _ _ _).mono ?_; rintro e w' ⟨rfl, rfl⟩) | go_in)
  go_ret
  exact ⟨rfl, rfl⟩
theorem with_any (m t : Int) (hm : I64 m) (w : World) : Calls Try.prog 7 #[.int .i64 m, .int .i64 t] w fun e w' => e = .returned (.int .i64 (withT m t)) ∧ w = w' := by
  have HM := Lib.hid hm
  clear hm
  go_enter Try.func7, Try.ntmps7
  go_wp2_with (first | (go_at_call 22; refine (add_any _ _ HM.out _).mono ?_; rintro e w' ⟨rfl, rfl⟩) | go_in)
  go_ret
  exact ⟨rfl, rfl⟩
theorem without_any (m t : Int) (hm : I64 m) (w : World) : Calls Try.prog 17 #[.int .i64 m, .int .i64 t] w fun e w' => e = .returned (.int .i64 (sansT m t)) ∧ w = w' := by
  have HM := Lib.hid hm
  clear hm
  go_enter Try.func17, Try.ntmps17
  go_wp2_with (first | (go_at_call 24; refine (remove_any _ _ HM.out _).mono ?_; rintro e w' ⟨rfl, rfl⟩) | go_in)
  go_ret
  exact ⟨rfl, rfl⟩

end Go.Proofs.Ytlgfkodllacfdab
