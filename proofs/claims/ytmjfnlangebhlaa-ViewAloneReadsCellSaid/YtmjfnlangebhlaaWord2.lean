
/-
  What the functions of layer 1 on lock words and status words return, program and reference alike.
-/
import Derived.Test.YtmjfnlangebhlaaRows
import Derived.Test.YtmjfnlangebhlaaBase
import Derived.Test.YtmjfnlangebhlaaAux
import Derived.WalkKit
import Derived.ProofKit
import Derived.OpenShut
import Derived.Lib.Hide
import Derived.Deep.QuietTactic
import Derived.BigQuiet
namespace Go.Proofs.Ytmjfnlangebhlaa
open Go.ChangeShapes Go.WideShapes Go.ChangeAt Go.RowKit

theorem bits_i64 (op : BinOp) (x y : Int) : bits op .i64 x y = wrap64 (((match op with
    | .and => BitVec.ofInt 64 x &&& BitVec.ofInt 64 y
    | .or => BitVec.ofInt 64 x ||| BitVec.ofInt 64 y
    | .xor => BitVec.ofInt 64 x ^^^ BitVec.ofInt 64 y
    | _ => BitVec.ofInt 64 x &&& ~~~BitVec.ofInt 64 y).toNat : Nat) : Int) := by
  unfold bits wrap64
  rw [IntKind.wrap_i64]
  cases op <;> rfl

theorem ofInt_toNat (a : Int) : (((BitVec.ofInt 64 a).toNat : Nat) : Int) = a % 18446744073709551616 := by
  rw [BitVec.toNat_ofInt]
  have h : (((2 : Nat) ^ 64 : Nat) : Int) = 18446744073709551616 := by decide
  rw [h]
  omega

theorem wrap_ofInt {a : Int} (h : I64 a) : wrap64 (((BitVec.ofInt 64 a).toNat : Nat) : Int) = a := by
  rw [ofInt_toNat]; unfold I64 at h; unfold wrap64; omega

theorem two_pow_cast (t : Nat) : ((2 ^ t : Nat) : Int) = 2 ^ t := by push_cast; rfl

theorem and_mask (a : Int) (j : Nat) (hj : j ≤ 62) : bits .and .i64 a (2 ^ j - 1) = a % 2 ^ j := by
  rw [bits_i64]
  have hp : (2 : Int) ^ j ≤ 2 ^ 62 := by
    have : (2 : Nat) ^ j ≤ 2 ^ 62 := Nat.pow_le_pow_right (by decide) hj
    exact_mod_cast this
  have h0 : (0 : Int) < 2 ^ j := by exact_mod_cast Nat.pow_pos (n := j) (by decide : 0 < 2)
  have e1 : (BitVec.ofInt 64 (2 ^ j - 1)).toNat = 2 ^ j - 1 := by
    have h1 := ofInt_toNat (2 ^ j - 1)
    have h2 : ((2 : Int) ^ j - 1) % 18446744073709551616 = 2 ^ j - 1 := Int.emod_eq_of_lt (by omega) (by omega)
    rw [h2] at h1
    have h3 := two_pow_cast j
    have h4 : 1 ≤ (2 : Nat) ^ j := Nat.pow_pos (by decide)
    omega
  have e2 : (BitVec.ofInt 64 a &&& BitVec.ofInt 64 (2 ^ j - 1)).toNat = (BitVec.ofInt 64 a).toNat % 2 ^ j := by
    rw [BitVec.toNat_and, e1, Nat.and_two_pow_sub_one_eq_mod]
  show wrap64 (((BitVec.ofInt 64 a &&& BitVec.ofInt 64 (2 ^ j - 1)).toNat : Nat) : Int) = _
  rw [e2]
  have e3 : (((BitVec.ofInt 64 a).toNat % 2 ^ j : Nat) : Int) = a % 2 ^ j := by
    push_cast
    rw [ofInt_toNat]
    have hd : (2 : Int) ^ j ∣ 18446744073709551616 := by
      refine ⟨2 ^ (64 - j), ?_⟩
      rw [← Int.pow_add]
      have : j + (64 - j) = 64 := by omega
      rw [this]; rfl
    exact Int.emod_emod_of_dvd _ hd
  rw [e3]
  have h4 : 0 ≤ a % 2 ^ j := Int.emod_nonneg _ (by omega)
  have h5 : a % 2 ^ j < 2 ^ j := Int.emod_lt_of_pos _ h0
  refine wrap64_id ⟨by omega, ?_⟩
  have : (2 : Int) ^ 62 = 4611686018427387904 := by decide
  omega

theorem odd_ne (a : Int) : (a % 2 != 0) = decide (a % 2 = 1) := by
  have : a % 2 = 0 ∨ a % 2 = 1 := by omega
  rcases this with h | h <;> rw [h] <;> decide

theorem half_any (a : Int) (w : World) : Calls Try.prog 130 #[.int .i64 a] w fun e w' => e = .returned (.int .i64 (a / 2)) ∧ w = w' := by
  go_enter Try.func130, Try.ntmps130
  go_wp2
  go_ret
  exact ⟨rfl, rfl⟩

theorem tmod_lem (a n : Int) (hn : 0 < n) : (0 ≤ a.tmod n ∧ a.tmod n = a % n) ∨ (a.tmod n < 0 ∧ -n < a.tmod n ∧ a.tmod n + n = a % n) := by
  rw [Int.tmod_eq_emod]
  have h0 := Int.emod_nonneg a (show n ≠ 0 by omega)
  have h1 := Int.emod_lt_of_pos a hn
  split
  · left; omega
  · rename_i h
    right
    have hne : a % n ≠ 0 := fun hc => h (Or.inr (Int.dvd_of_emod_eq_zero hc))
    have : (n.natAbs : Int) = n := by omega
    omega

theorem mod_any (a n : Int) (hn : 0 < n) (h : n ≤ 2305843009213693952) (w : World) : Calls Try.prog 67 #[.int .i64 a, .int .i64 n] w fun e w' => e = .returned (.int .i64 (a % n)) ∧ w = w' := by
  have hz : (n == 0) = false := by simp; omega
  have hl := tmod_lem a n hn
  rcases hl with ⟨h1, h2⟩ | ⟨h1, h2, h3⟩
  · go_enter Try.func67, Try.ntmps67
    go_wp2
    go_ret
    exact ⟨by first | rfl | (rw [h2]), rfl⟩
  · have h4 : Hid (a.tmod n + n = a % n) := Lib.hid h3
    clear h3
    go_enter Try.func67, Try.ntmps67
    go_wp2
    go_ret
    exact ⟨ret_int h4.out, rfl⟩

theorem locked_any (a : Int) (w : World) : Calls Try.prog 114 #[.int .i64 a] w fun e w' => e = .returned (.bool (decide (a % 2 = 1))) ∧ w = w' := by
  have h := and_mask a 1 (by decide)
  have h' : bits .and .i64 a 1 = a % 2 := by simpa using h
  clear h
  go_enter Try.func114, Try.ntmps114
  go_wp2
  go_ret
  exact ⟨ret_bool (odd_ne a), rfl⟩

theorem kind_any (a : Int) (w : World) : Calls Try.prog 138 #[.int .i64 a] w fun e w' => e = .returned (.int .i64 (a % 4)) ∧ w = w' := by
  have h := and_mask a 2 (by decide)
  have h' : bits .and .i64 a 3 = a % 4 := by simpa using h
  clear h
  go_enter Try.func138, Try.ntmps138
  go_wp2
  go_ret
  exact ⟨rfl, rfl⟩

theorem free_any (a : Int) (w : World) : Calls Try.prog 118 #[.int .i64 a] w fun e w' => e = .returned (.int .i64 (wrap64 (2 * a))) ∧ w = w' := by
  go_enter Try.func118, Try.ntmps118
  go_wp2
  go_ret
  exact ⟨rfl, rfl⟩

theorem held_any (a : Int) (w : World) : Calls Try.prog 116 #[.int .i64 a] w fun e w' => e = .returned (.int .i64 (wrap64 (2 * a + 1))) ∧ w = w' := by
  go_enter Try.func116, Try.ntmps116
  go_wp2
  go_ret
  refine ⟨ret_int ?_, rfl⟩
  unfold wrap64; omega

theorem ver_any (a : Int) (w : World) : Calls Try.prog 117 #[.int .i64 a] w fun e w' => e = .returned (.int .i64 (a / 2)) ∧ w = w' := by
  go_enter Try.func117, Try.ntmps117
  go_wp2
  go_ret
  exact ⟨rfl, rfl⟩

theorem who_any (a : Int) (w : World) : Calls Try.prog 115 #[.int .i64 a] w fun e w' => e = .returned (.int .i64 (a / 2)) ∧ w = w' := by
  go_enter Try.func115, Try.ntmps115
  go_wp2
  go_ret
  exact ⟨rfl, rfl⟩

theorem wstatus_any (t k : Int) (w : World) : Calls Try.prog 152 #[.int .i64 t, .int .i64 k] w fun e w' => e = .returned (.int .i64 (wrap64 (4 * t + k % 4))) ∧ w = w' := by
  have h := and_mask k 2 (by decide)
  have h' : bits .and .i64 k 3 = k % 4 := by simpa using h
  clear h
  go_enter Try.func152, Try.ntmps152
  go_wp2
  go_ret
  refine ⟨ret_int ?_, rfl⟩
  unfold wrap64; omega

theorem try_any (a : Int) (ha : I64 a) (w : World) : Calls Try.prog 148 #[.int .i64 a] w fun e w' => e = .returned (.int .i64 (a / 4)) ∧ w = w' := by
  obtain ⟨h1, h2⟩ := ha
  have hd : (a - a % 4).tdiv 4 = a / 4 := by rw [Int.tdiv_eq_ediv_of_dvd (by omega)]; omega
  have HD : Hid ((a - a % 4).tdiv 4 = a / 4) := Lib.hid hd
  clear hd
  go_enter Try.func148, Try.ntmps148
  go_wp2_with (first | (go_at_call 138; refine (kind_any _ _).mono ?_; rintro e w' ⟨rfl, rfl⟩))
  go_ret
  exact ⟨ret_int HD.out, rfl⟩

theorem pow_pos' (t : Nat) : (0 : Int) < 2 ^ t := by exact_mod_cast Nat.pow_pos (n := t) (by decide : 0 < 2)

theorem down_lo {a : Int} (h : I64 a) {n : Nat} (hn : n ≤ 61) : -9223372036854775808 ≤ a - a % 2 ^ n := by
  obtain ⟨h1, h2⟩ := h
  have hp := pow_pos' n
  have e : (-9223372036854775808 : Int) = 2 ^ n * (-(2 ^ (63 - n))) := by
    have h2 : (2 : Int) ^ n * (-(2 ^ (63 - n))) = - 2 ^ (n + (63 - n)) := by rw [Int.pow_add, Int.mul_neg]
    have : n + (63 - n) = 63 := by omega
    rw [h2, this]; decide
  have hq : -(2 ^ (63 - n)) ≤ a / 2 ^ n := by
    have : (-9223372036854775808) / 2 ^ n ≤ a / 2 ^ n := Int.ediv_le_ediv hp h1
    have e2 : (-9223372036854775808 : Int) / 2 ^ n = -(2 ^ (63 - n)) := by
      rw [e, Int.mul_ediv_cancel_left _ (by omega)]
    omega
  have hm := Int.mul_ediv_add_emod a (2 ^ n)
  have hmul : 2 ^ n * (-(2 ^ (63 - n))) ≤ 2 ^ n * (a / 2 ^ n) := Int.mul_le_mul_of_nonneg_left hq (by omega)
  omega

theorem down_any (a n : Int) (ha : I64 a) (hn : 0 < n) (h : n ≤ 2305843009213693952) (hlo : -9223372036854775808 ≤ a - a % n) (w : World) : Calls Try.prog 68 #[.int .i64 a, .int .i64 n] w fun e w' => e = .returned (.int .i64 (a / n)) ∧ w = w' := by
  obtain ⟨h1, h2⟩ := ha
  have hz : (n == 0) = false := by simp; omega
  have hm0 := Int.emod_nonneg a (show n ≠ 0 by omega)
  have hd : (a - a % n).tdiv n = a / n := by
    rw [Int.tdiv_eq_ediv_of_dvd (Int.dvd_self_sub_emod)]
    have hm := Int.mul_ediv_add_emod a n
    have : a - a % n = n * (a / n) := by omega
    rw [this, Int.mul_ediv_cancel_left _ (by omega)]
  have HD : Hid ((a - a % n).tdiv n = a / n) := Lib.hid hd
  have hb1 : a - a % n ≤ 9223372036854775807 := by omega
  have hr : n ≠ -1 := by omega
  have HW : Hid (wrap64 ((a - a % n).tdiv n) = a / n) := Lib.hid (by
    rw [hd]
    refine wrap64_id ⟨?_, ?_⟩
    · have h3 : a / n ≥ 0 ∨ a / n < 0 := by omega
      rcases h3 with h3 | h3
      · omega
      · have : n * (a / n) ≤ 1 * (a / n) := Int.mul_le_mul_of_nonpos_right (by omega) (by omega)
        have hm := Int.mul_ediv_add_emod a n
        omega
    · have h3 : a / n ≤ 0 ∨ 0 < a / n := by omega
      rcases h3 with h3 | h3
      · omega
      · have : 1 * (a / n) ≤ n * (a / n) := Int.mul_le_mul_of_nonneg_right (by omega) (by omega)
        have hm := Int.mul_ediv_add_emod a n
        omega)
  clear hd
  go_enter Try.func68, Try.ntmps68
  go_wp2_with (first | (go_at_call 67; refine (mod_any _ _ hn h _).mono ?_; rintro e w' ⟨rfl, rfl⟩))
  go_ret
  first | exact ⟨ret_int HD.out, rfl⟩ | exact ⟨ret_int HW.out, rfl⟩

theorem rfree_any (a : Int) (w : World) : Calls Try.prog 96 #[.int .i64 a] w fun e w' => e = .returned (.int .i64 (wrap64 (2 * a))) ∧ w = w' := by
  go_enter Try.func96, Try.ntmps96
  go_wp2
  go_ret
  exact ⟨rfl, rfl⟩

theorem rheld_any (a : Int) (w : World) : Calls Try.prog 93 #[.int .i64 a] w fun e w' => e = .returned (.int .i64 (wrap64 (2 * a + 1))) ∧ w = w' := by
  go_enter Try.func93, Try.ntmps93
  go_wp2
  go_ret
  refine ⟨ret_int ?_, rfl⟩
  unfold wrap64; omega

theorem rlocked_any (a : Int) (w : World) : Calls Try.prog 90 #[.int .i64 a] w fun e w' => e = .returned (.bool (decide (a % 2 = 1))) ∧ w = w' := by
  go_enter Try.func90, Try.ntmps90
  go_wp2_with (first | (go_at_call 67; refine (mod_any _ _ (by decide) (by decide) _).mono ?_; rintro e w' ⟨rfl, rfl⟩))
  go_ret
  exact ⟨ret_bool (by rfl), rfl⟩

theorem rver_any (a : Int) (ha : I64 a) (w : World) : Calls Try.prog 94 #[.int .i64 a] w fun e w' => e = .returned (.int .i64 (a / 2)) ∧ w = w' := by
  have hl := Lib.hid (show -9223372036854775808 ≤ a - a % 2 by unfold I64 at ha; omega)
  have HA := Lib.hid ha
  clear ha
  go_enter Try.func94, Try.ntmps94
  go_wp2_with (first | (go_at_call 68; refine (down_any _ _ HA.out (by decide) (by decide) hl.out _).mono ?_; rintro e w' ⟨rfl, rfl⟩))
  go_ret
  exact ⟨rfl, rfl⟩

theorem rwho_any (a : Int) (ha : I64 a) (w : World) : Calls Try.prog 91 #[.int .i64 a] w fun e w' => e = .returned (.int .i64 (a / 2)) ∧ w = w' := by
  have hl := Lib.hid (show -9223372036854775808 ≤ a - a % 2 by unfold I64 at ha; omega)
  have HA := Lib.hid ha
  clear ha
  go_enter Try.func91, Try.ntmps91
  go_wp2_with (first | (go_at_call 68; refine (down_any _ _ HA.out (by decide) (by decide) hl.out _).mono ?_; rintro e w' ⟨rfl, rfl⟩))
  go_ret
  exact ⟨rfl, rfl⟩

end Go.Proofs.Ytmjfnlangebhlaa
