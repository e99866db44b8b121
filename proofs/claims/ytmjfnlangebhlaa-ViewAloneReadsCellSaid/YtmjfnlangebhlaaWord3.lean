
/-
  Layer 1's masks: bits, membership, adding, removing: program and reference.
-/
import Derived.Test.YtmjfnlangebhlaaRows
import Derived.Test.YtmjfnlangebhlaaBase
import Derived.Test.YtmjfnlangebhlaaWord2
import Derived.WalkKit
import Derived.ProofKit
import Derived.OpenShut
import Derived.Lib.Hide
import Derived.Deep.QuietTactic
import Derived.BigQuiet
namespace Go.Proofs.Ytmjfnlangebhlaa
set_option linter.unusedVariables false
open Go.ChangeShapes Go.WideShapes Go.ChangeAt Go.RowKit

/-- Is bit t set? -/
def tb (a : Int) (t : Nat) : Bool := a / 2 ^ t % 2 == 1

theorem pow_le61 {t : Nat} (h : t ≤ 61) : (2 : Int) ^ t ≤ 2305843009213693952 := by
  have : (2 : Nat) ^ t ≤ 2 ^ 61 := Nat.pow_le_pow_right (by decide) h
  have h2 : ((2 : Nat) ^ 61 : Nat) = 2305843009213693952 := by decide
  have h3 : ((2 ^ t : Nat) : Int) ≤ ((2305843009213693952 : Nat) : Int) := by exact_mod_cast (h2 ▸ this)
  simpa using h3

theorem ofInt_pow {t : Nat} (h : t ≤ 61) : (BitVec.ofInt 64 (2 ^ t)).toNat = 2 ^ t := by
  have h1 := ofInt_toNat (2 ^ t)
  have h2 := pow_le61 h
  have h3 := pow_pos' t
  have h4 : ((2 : Int) ^ t) % 18446744073709551616 = 2 ^ t := Int.emod_eq_of_lt (by omega) (by omega)
  rw [h4, ← two_pow_cast] at h1
  exact_mod_cast h1

theorem div_bit (a : Int) {t : Nat} (h : t ≤ 61) : (a % 18446744073709551616) / 2 ^ t % 2 = a / 2 ^ t % 2 := by
  have hp := pow_pos' t
  have e : (18446744073709551616 : Int) = 2 ^ t * (2 * 2 ^ (63 - t)) := by
    have : t + (1 + (63 - t)) = 64 := by omega
    have h2 : (2 : Int) ^ t * (2 * 2 ^ (63 - t)) = 2 ^ (t + (1 + (63 - t))) := by rw [Int.pow_add, Int.pow_add]; rfl
    rw [h2, this]; rfl
  have key : a / 2 ^ t = (a % 18446744073709551616) / 2 ^ t + 2 * (2 ^ (63 - t) * (a / 18446744073709551616)) := by
    have h1 : a = a % 18446744073709551616 + 2 ^ t * (2 * (2 ^ (63 - t) * (a / 18446744073709551616))) := by
      have h2 : 2 ^ t * (2 * (2 ^ (63 - t) * (a / 18446744073709551616))) = 18446744073709551616 * (a / 18446744073709551616) := by
        rw [e]; simp only [Int.mul_assoc]
      rw [h2]; omega
    conv => lhs; rw [h1]
    rw [Int.add_mul_ediv_left _ _ (by omega)]
  omega

theorem and_pow (a : Int) {t : Nat} (h : t ≤ 61) : BitVec.ofInt 64 a &&& BitVec.ofInt 64 (2 ^ t) = if tb a t then BitVec.ofInt 64 (2 ^ t) else 0#64 := by
  apply BitVec.eq_of_toNat_eq
  rw [BitVec.toNat_and, ofInt_pow h, nat_bit]
  have e : (((BitVec.ofInt 64 a).toNat / 2 ^ t % 2 : Nat) : Int) = a / 2 ^ t % 2 := by
    push_cast
    rw [ofInt_toNat, div_bit a h]
  have hr : a / 2 ^ t % 2 = 0 ∨ a / 2 ^ t % 2 = 1 := by omega
  unfold tb
  rcases hr with hr | hr
  · rw [hr] at e
    have : (BitVec.ofInt 64 a).toNat / 2 ^ t % 2 = 0 := by exact_mod_cast e
    rw [this, hr]; simp
  · rw [hr] at e
    have : (BitVec.ofInt 64 a).toNat / 2 ^ t % 2 = 1 := by exact_mod_cast e
    rw [this, hr]; simp [ofInt_pow h]

theorem i64_pow {t : Nat} (h : t ≤ 61) : I64 (2 ^ t) := by
  have h2 := pow_le61 h
  have h3 := pow_pos' t
  exact ⟨by omega, by omega⟩

theorem bits_and_pow (a : Int) {t : Nat} (h : t ≤ 61) : bits .and .i64 a (2 ^ t) = if tb a t then 2 ^ t else 0 := by
  rw [bits_i64]
  show wrap64 (((BitVec.ofInt 64 a &&& BitVec.ofInt 64 (2 ^ t)).toNat : Nat) : Int) = _
  rw [and_pow a h]
  cases hb : tb a t
  · simp [wrap64]
  · simp only [if_true]; exact wrap_ofInt (i64_pow h)

theorem bv_or_of_and {w : Nat} (x y : BitVec w) (h : x &&& y = y) : x ||| y = x := by
  ext i hi
  have := congrArg (fun z : BitVec w => z[i]) h
  simp at this ⊢
  intro hy
  exact this hy

theorem bv_andnot_of_zero {w : Nat} (x y : BitVec w) (h : x &&& y = 0#w) : x &&& ~~~y = x := by
  ext i hi
  have := congrArg (fun z : BitVec w => z[i]) h
  simp at this ⊢
  intro hx
  exact this hx

theorem bv_andnot_add {w : Nat} (x y : BitVec w) (h : x &&& y = y) : (x &&& ~~~y) + y = x := by
  rw [BitVec.add_eq_or_of_and_eq_zero]
  · ext i hi
    have := congrArg (fun z : BitVec w => z[i]) h
    simp at this ⊢
    cases hx : x[i] <;> cases hy : y[i] <;> simp_all
  · ext i hi
    simp

theorem wrap_toNat_add (x y : BitVec 64) : wrap64 (((x + y).toNat : Nat) : Int) = wrap64 ((x.toNat : Int) + (y.toNat : Int)) := by
  rw [BitVec.toNat_add]; unfold wrap64; omega

theorem wrap_add_ofInt (a b : Int) : wrap64 (((BitVec.ofInt 64 a).toNat : Int) + ((BitVec.ofInt 64 b).toNat : Int)) = wrap64 (a + b) := by
  rw [ofInt_toNat, ofInt_toNat]; unfold wrap64; omega

/-- A bit that is not set, set: no carry. -/
theorem add_pow_in {a : Int} (h : I64 a) {t : Nat} (ht : t ≤ 61) (hb : tb a t = false) : I64 (a + 2 ^ t) := by
  obtain ⟨h1, h2⟩ := h
  have hp := pow_pos' t
  refine ⟨by omega, ?_⟩
  -- a + 2^t ≤ max: the bit t of max is set
  have e : (9223372036854775807 : Int) = 2 ^ t * (2 * 2 ^ (62 - t) - 1) + (2 ^ t - 1) := by
    have : t + (1 + (62 - t)) = 63 := by omega
    have h2 : (2 : Int) ^ t * (2 * 2 ^ (62 - t)) = 2 ^ (t + (1 + (62 - t))) := by rw [Int.pow_add, Int.pow_add]; rfl
    rw [Int.mul_sub, h2, this, Int.mul_one]
    have : (2 : Int) ^ 63 = 9223372036854775808 := by decide
    rw [this]; omega
  have hq : a / 2 ^ t ≤ 2 * 2 ^ (62 - t) - 1 := by
    have : a / 2 ^ t ≤ 9223372036854775807 / 2 ^ t := Int.ediv_le_ediv hp h2
    have e2 : (9223372036854775807 : Int) / 2 ^ t = 2 * 2 ^ (62 - t) - 1 := by
      rw [e, Int.add_comm, Int.add_mul_ediv_left _ _ (by omega), Int.ediv_eq_zero_of_lt (by omega) (by omega)]; omega
    omega
  have hbit : a / 2 ^ t % 2 ≠ 1 := by
    intro hc; unfold tb at hb; rw [hc] at hb; simp at hb
  have hq2 : a / 2 ^ t ≤ 2 * 2 ^ (62 - t) - 2 := by omega
  have hm := Int.mul_ediv_add_emod a (2 ^ t)
  have hl := Int.emod_lt_of_pos a hp
  have hmul : 2 ^ t * (a / 2 ^ t) ≤ 2 ^ t * (2 * 2 ^ (62 - t) - 2) := Int.mul_le_mul_of_nonneg_left hq2 (by omega)
  have hx : (2 : Int) ^ t * (2 * 2 ^ (62 - t) - 2) = 2 ^ t * (2 * 2 ^ (62 - t) - 1) - 2 ^ t := by
    rw [Int.mul_sub, Int.mul_sub, Int.mul_one]; omega
  omega

theorem sub_pow_in {a : Int} (h : I64 a) {t : Nat} (ht : t ≤ 61) (hb : tb a t = true) : I64 (a - 2 ^ t) := by
  obtain ⟨h1, h2⟩ := h
  have hp := pow_pos' t
  refine ⟨?_, by omega⟩
  have e : (-9223372036854775808 : Int) = 2 ^ t * (2 * (-(2 ^ (62 - t)))) := by
    have : t + (1 + (62 - t)) = 63 := by omega
    have h2 : (2 : Int) ^ t * (2 * (-(2 ^ (62 - t)))) = - 2 ^ (t + (1 + (62 - t))) := by rw [Int.pow_add, Int.pow_add, Int.mul_neg, Int.mul_neg]; rfl
    rw [h2, this]; decide
  have hq : 2 * (-(2 ^ (62 - t))) ≤ a / 2 ^ t := by
    have : (-9223372036854775808) / 2 ^ t ≤ a / 2 ^ t := Int.ediv_le_ediv hp h1
    have e2 : (-9223372036854775808 : Int) / 2 ^ t = 2 * (-(2 ^ (62 - t))) := by
      rw [e, Int.mul_ediv_cancel_left _ (by omega)]
    omega
  have hbit : a / 2 ^ t % 2 = 1 := by unfold tb at hb; simpa using hb
  have hq2 : 2 * (-(2 ^ (62 - t))) + 1 ≤ a / 2 ^ t := by omega
  have hm := Int.mul_ediv_add_emod a (2 ^ t)
  have hl := Int.emod_nonneg a (show (2 : Int) ^ t ≠ 0 by omega)
  have hmul : 2 ^ t * (2 * (-(2 ^ (62 - t))) + 1) ≤ 2 ^ t * (a / 2 ^ t) := Int.mul_le_mul_of_nonneg_left hq2 (by omega)
  have hx : (2 : Int) ^ t * (2 * (-(2 ^ (62 - t))) + 1) = 2 ^ t * (2 * (-(2 ^ (62 - t)))) + 2 ^ t := by
    rw [Int.mul_add, Int.mul_one]
  omega

theorem bits_or_pow {a : Int} (ha : I64 a) {t : Nat} (h : t ≤ 61) : bits .or .i64 a (2 ^ t) = if tb a t then a else a + 2 ^ t := by
  rw [bits_i64]
  show wrap64 (((BitVec.ofInt 64 a ||| BitVec.ofInt 64 (2 ^ t)).toNat : Nat) : Int) = _
  have e := and_pow a h
  cases hb : tb a t
  · rw [hb] at e
    simp only [Bool.false_eq_true, if_false] at e ⊢
    rw [← BitVec.add_eq_or_of_and_eq_zero _ _ e, wrap_toNat_add, wrap_add_ofInt]
    exact wrap64_id (add_pow_in ha h hb)
  · rw [hb] at e
    simp only [if_true] at e ⊢
    rw [bv_or_of_and _ _ e]
    exact wrap_ofInt ha

theorem bits_andNot_pow {a : Int} (ha : I64 a) {t : Nat} (h : t ≤ 61) : bits .andNot .i64 a (2 ^ t) = if tb a t then a - 2 ^ t else a := by
  rw [bits_i64]
  show wrap64 (((BitVec.ofInt 64 a &&& ~~~BitVec.ofInt 64 (2 ^ t)).toNat : Nat) : Int) = _
  have e := and_pow a h
  cases hb : tb a t
  · rw [hb] at e
    simp only [Bool.false_eq_true, if_false] at e ⊢
    rw [bv_andnot_of_zero _ _ e]
    exact wrap_ofInt ha
  · rw [hb] at e
    simp only [if_true] at e ⊢
    have e2 := bv_andnot_add _ _ e
    have e3 : wrap64 ((((BitVec.ofInt 64 a &&& ~~~BitVec.ofInt 64 (2 ^ t)) + BitVec.ofInt 64 (2 ^ t)).toNat : Nat) : Int) = a := by rw [e2]; exact wrap_ofInt ha
    rw [wrap_toNat_add, ofInt_pow h, two_pow_cast] at e3
    have hi := sub_pow_in ha h hb
    have hp := pow_pos' t
    have hq := pow_le61 h
    obtain ⟨i1, i2⟩ := hi
    obtain ⟨j1, j2⟩ := ha
    unfold wrap64 at e3 ⊢
    omega

theorem bits_and_zero (a : Int) : bits .and .i64 a 0 = 0 := by
  have := and_mask a 0 (by decide); simpa using this

theorem bits_or_zero {a : Int} (ha : I64 a) : bits .or .i64 a 0 = a := by
  rw [bits_i64]
  show wrap64 (((BitVec.ofInt 64 a ||| BitVec.ofInt 64 0).toNat : Nat) : Int) = _
  have : BitVec.ofInt 64 a ||| BitVec.ofInt 64 0 = BitVec.ofInt 64 a := by simp
  rw [this]; exact wrap_ofInt ha

theorem bits_andNot_zero {a : Int} (ha : I64 a) : bits .andNot .i64 a 0 = a := by
  rw [bits_i64]
  show wrap64 (((BitVec.ofInt 64 a &&& ~~~BitVec.ofInt 64 0).toNat : Nat) : Int) = _
  have : BitVec.ofInt 64 a &&& ~~~BitVec.ofInt 64 0 = BitVec.ofInt 64 a := bv_andnot_of_zero _ _ (by simp)
  rw [this]; exact wrap_ofInt ha

def pw (t : Int) : Int := if 0 ≤ t ∧ t ≤ 61 then 2 ^ t.toNat else 0

theorem pw_in {t : Nat} (h : t ≤ 61) : pw t = 2 ^ t := by unfold pw; rw [if_pos (by omega)]; simp

theorem pw_out {t : Int} (h : ¬ (0 ≤ t ∧ t ≤ 61)) : pw t = 0 := by unfold pw; rw [if_neg h]

theorem single_any (t : Int) (w : World) : Calls Try.prog 141 #[.int .i64 t] w fun e w' => e = .returned (.int .i64 (pw t)) ∧ w = w' := by
  by_cases h : 0 ≤ t ∧ t ≤ 61
  · obtain ⟨n, rfl⟩ := Int.eq_ofNat_of_zero_le h.1
    have ht : n ≤ 61 := by omega
    have hp := pow_le61 ht
    have hp0 := pow_pos' n
    have HE := Lib.hid (pw_in ht)
    go_enter Try.func141, Try.ntmps141
    go_wp2
    go_ret
    exact ⟨ret_int HE.out.symm, rfl⟩
  · have HE := Lib.hid (pw_out h)
    by_cases h0 : t < 0
    · go_enter Try.func141, Try.ntmps141
      go_wp2
      go_ret
      exact ⟨ret_int HE.out.symm, rfl⟩
    · have h1 : 61 < t := by omega
      have h2 : 0 ≤ t := by omega
      clear h h0
      go_enter Try.func141, Try.ntmps141
      go_wp2
      go_ret
      exact ⟨ret_int HE.out.symm, rfl⟩

/-- Does mask m contain thread t? -/
def isIn (m t : Int) : Bool := decide (0 ≤ t ∧ t ≤ 61) && tb m t.toNat

theorem isIn_in (m : Int) {t : Nat} (h : t ≤ 61) : isIn m t = tb m t := by
  unfold isIn; rw [decide_eq_true (by omega : (0 : Int) ≤ t ∧ (t : Int) ≤ 61)]; simp

theorem isIn_out (m : Int) {t : Int} (h : ¬ (0 ≤ t ∧ t ≤ 61)) : isIn m t = false := by
  unfold isIn; rw [decide_eq_false h]; rfl

def withT (m t : Int) : Int := if isIn m t then m else m + pw t

def sansT (m t : Int) : Int := if isIn m t then m - pw t else m

theorem and_pw (m t : Int) : (bits .and .i64 m (pw t) != 0) = isIn m t := by
  by_cases h : 0 ≤ t ∧ t ≤ 61
  · obtain ⟨n, rfl⟩ := Int.eq_ofNat_of_zero_le h.1
    have ht : n ≤ 61 := by omega
    rw [pw_in ht, isIn_in m ht, bits_and_pow m ht]
    have := pow_pos' n
    cases tb m n
    · simp
    · simp; omega
  · rw [pw_out h, isIn_out m h, bits_and_zero]; rfl

theorem or_pw {m : Int} (hm : I64 m) (t : Int) : bits .or .i64 m (pw t) = withT m t := by
  unfold withT
  by_cases h : 0 ≤ t ∧ t ≤ 61
  · obtain ⟨n, rfl⟩ := Int.eq_ofNat_of_zero_le h.1
    have ht : n ≤ 61 := by omega
    rw [pw_in ht, isIn_in m ht, bits_or_pow hm ht]
  · rw [pw_out h, isIn_out m h, bits_or_zero hm]; simp

theorem andNot_pw {m : Int} (hm : I64 m) (t : Int) : bits .andNot .i64 m (pw t) = sansT m t := by
  unfold sansT
  by_cases h : 0 ≤ t ∧ t ≤ 61
  · obtain ⟨n, rfl⟩ := Int.eq_ofNat_of_zero_le h.1
    have ht : n ≤ 61 := by omega
    rw [pw_in ht, isIn_in m ht, bits_andNot_pow hm ht]
  · rw [pw_out h, isIn_out m h, bits_andNot_zero hm]; simp

theorem add_any (m t : Int) (hm : I64 m) (w : World) : Calls Try.prog 132 #[.int .i64 m, .int .i64 t] w fun e w' => e = .returned (.int .i64 (withT m t)) ∧ w = w' := by
  have HE := Lib.hid (or_pw hm t)
  go_enter Try.func132, Try.ntmps132
  go_wp2_with (first | (go_at_call 141; refine (single_any _ _).mono ?_; rintro e w' ⟨rfl, rfl⟩))
  go_ret
  exact ⟨ret_int HE.out, rfl⟩

theorem remove_any (m t : Int) (hm : I64 m) (w : World) : Calls Try.prog 133 #[.int .i64 m, .int .i64 t] w fun e w' => e = .returned (.int .i64 (sansT m t)) ∧ w = w' := by
  have HE := Lib.hid (andNot_pw hm t)
  go_enter Try.func133, Try.ntmps133
  go_wp2_with (first | (go_at_call 141; refine (single_any _ _).mono ?_; rintro e w' ⟨rfl, rfl⟩))
  go_ret
  exact ⟨ret_int HE.out, rfl⟩

theorem withT_zero (t : Int) : withT 0 t = pw t := by
  have h : isIn 0 t = false := by
    unfold isIn tb; simp
  unfold withT; rw [h]; simp

theorem wwith_any (m t : Int) (hm : I64 m) (w : World) : Calls Try.prog 121 #[.int .i64 m, .int .i64 t] w fun e w' => e = .returned (.int .i64 (withT m t)) ∧ w = w' := by
  have HM := Lib.hid hm
  clear hm
  go_enter Try.func121, Try.ntmps121
  go_wp2_with (first | (go_at_call 132; refine (add_any _ _ HM.out _).mono ?_; rintro e w' ⟨rfl, rfl⟩) | go_in)
  go_ret
  exact ⟨rfl, rfl⟩

theorem wwithout_any (m t : Int) (hm : I64 m) (w : World) : Calls Try.prog 122 #[.int .i64 m, .int .i64 t] w fun e w' => e = .returned (.int .i64 (sansT m t)) ∧ w = w' := by
  have HM := Lib.hid hm
  clear hm
  go_enter Try.func122, Try.ntmps122
  go_wp2_with (first | (go_at_call 133; refine (remove_any _ _ HM.out _).mono ?_; rintro e w' ⟨rfl, rfl⟩) | go_in)
  go_ret
  exact ⟨rfl, rfl⟩

theorem rbit_any (t : Int) (w : World) : Calls Try.prog 66 #[.int .i64 t] w fun e w' => e = .returned (.int .i64 (pw t)) ∧ w = w' := by
  by_cases h : 0 ≤ t ∧ t ≤ 61
  · obtain ⟨n, rfl⟩ := Int.eq_ofNat_of_zero_le h.1
    have ht : n ≤ 61 := by omega
    have HE := Lib.hid (pw_in ht)
    clear h
    go_enter Try.func66, Try.ntmps66
    go_wp2
    go_loop [3, 4] (fun p i => ∃ k : Nat, k ≤ n ∧ i = .int .i64 k ∧ p = .int .i64 (2 ^ k)) (fun _ i => n - (intOf i).toNat)
    case atStart => exact ⟨0, Nat.zero_le _, rfl, rfl⟩
    case round =>
      obtain ⟨k, hk, rfl, rfl⟩ := hrel
      have hp := pow_le61 (show k ≤ 61 by omega)
      have hp0 := pow_pos' k
      by_cases hlt : k < n
      · go_wp2
        go_round
        case rel => exact ⟨k + 1, by omega, by go_num, by rw [Int.pow_succ, Int.mul_comm]⟩
        case measure => simp [intOf]; omega
      · obtain rfl : k = n := by omega
        go_wp2
        go_ret
        exact ⟨ret_int HE.out.symm, rfl⟩
  · have HE := Lib.hid (pw_out h)
    by_cases h0 : t < 0
    · go_enter Try.func66, Try.ntmps66
      go_wp2
      go_ret
      exact ⟨ret_int HE.out.symm, rfl⟩
    · have h1 : 61 < t := by omega
      have h2 : 0 ≤ t := by omega
      clear h h0
      go_enter Try.func66, Try.ntmps66
      go_wp2
      go_ret
      exact ⟨ret_int HE.out.symm, rfl⟩

theorem rin_any (m t : Int) (hm : I64 m) (w : World) : Calls Try.prog 29 #[.int .i64 m, .int .i64 t] w fun e w' => e = .returned (.bool (isIn m t)) ∧ w = w' := by
  by_cases h : 0 ≤ t ∧ t ≤ 61
  · obtain ⟨n, rfl⟩ := Int.eq_ofNat_of_zero_le h.1
    have ht : n ≤ 61 := by omega
    have HE := Lib.hid (isIn_in m ht)
    have hp := pow_le61 ht
    have hp0 := pow_pos' n
    have HP := Lib.hid (pw_in ht)
    have hpp : 0 < pw n := by rw [pw_in ht]; exact hp0
    have hpl : pw n ≤ 2305843009213693952 := by rw [pw_in ht]; exact hp
    have HL : Hid (-9223372036854775808 ≤ m - m % pw n) := Lib.hid (by rw [pw_in ht]; exact down_lo hm ht)
    have HM := Lib.hid hm
    clear h hm
    go_enter Try.func29, Try.ntmps29
    go_wp2_with (first | (go_at_call 66; refine (rbit_any _ _).mono ?_; rintro e w' ⟨rfl, rfl⟩) | (go_at_call 68; refine (down_any _ _ HM.out hpp hpl HL.out _).mono ?_; rintro e w' ⟨rfl, rfl⟩) | (go_at_call 67; refine (mod_any _ _ (by decide) (by decide) _).mono ?_; rintro e w' ⟨rfl, rfl⟩))
    go_ret
    refine ⟨ret_bool ?_, rfl⟩
    rw [HE.out, HP.out]
    rfl
  · have HE := Lib.hid (isIn_out m h)
    have HP := Lib.hid (pw_out h)
    clear h
    go_enter Try.func29, Try.ntmps29
    go_wp2_with (first | (go_at_call 66; refine (rbit_any _ _).mono ?_; rw [HP.out]; rintro e w' ⟨rfl, rfl⟩))
    go_ret
    exact ⟨ret_bool HE.out.symm, rfl⟩

theorem rwith_any (m t : Int) (hm : I64 m) (w : World) : Calls Try.prog 103 #[.int .i64 m, .int .i64 t] w fun e w' => e = .returned (.int .i64 (withT m t)) ∧ w = w' := by
  have HM := Lib.hid hm
  have HV : Hid (I64 (withT m t)) := Lib.hid (by rw [← or_pw hm t, bits_i64]; exact i64_wrap64 _)
  clear hm
  cases hb : isIn m t
  · have HW : Hid (withT m t = m + pw t) := Lib.hid (by unfold withT; rw [hb]; rfl)
    have hb1 : -9223372036854775808 ≤ m + pw t := by have := HV.out; rw [HW.out] at this; exact this.1
    have hb2 : m + pw t ≤ 9223372036854775807 := by have := HV.out; rw [HW.out] at this; exact this.2
    go_enter Try.func103, Try.ntmps103
    go_wp2_with (first | (go_at_call 29; refine (rin_any _ _ HM.out _).mono ?_; rintro e w' ⟨rfl, rfl⟩) | (go_at_call 66; refine (rbit_any _ _).mono ?_; rintro e w' ⟨rfl, rfl⟩))
    go_ret
    exact ⟨ret_int HW.out.symm, rfl⟩
  · have HW : Hid (withT m t = m) := Lib.hid (by unfold withT; rw [hb]; rfl)
    go_enter Try.func103, Try.ntmps103
    go_wp2_with (first | (go_at_call 29; refine (rin_any _ _ HM.out _).mono ?_; rintro e w' ⟨rfl, rfl⟩) | (go_at_call 66; refine (rbit_any _ _).mono ?_; rintro e w' ⟨rfl, rfl⟩))
    go_ret
    exact ⟨ret_int HW.out.symm, rfl⟩

theorem rwithout_any (m t : Int) (hm : I64 m) (w : World) : Calls Try.prog 104 #[.int .i64 m, .int .i64 t] w fun e w' => e = .returned (.int .i64 (sansT m t)) ∧ w = w' := by
  have HM := Lib.hid hm
  have HV : Hid (I64 (sansT m t)) := Lib.hid (by rw [← andNot_pw hm t, bits_i64]; exact i64_wrap64 _)
  clear hm
  cases hb : isIn m t
  · have HW : Hid (sansT m t = m) := Lib.hid (by unfold sansT; rw [hb]; rfl)
    go_enter Try.func104, Try.ntmps104
    go_wp2_with (first | (go_at_call 29; refine (rin_any _ _ HM.out _).mono ?_; rintro e w' ⟨rfl, rfl⟩) | (go_at_call 66; refine (rbit_any _ _).mono ?_; rintro e w' ⟨rfl, rfl⟩))
    go_ret
    exact ⟨ret_int HW.out.symm, rfl⟩
  · have HW : Hid (sansT m t = m - pw t) := Lib.hid (by unfold sansT; rw [hb]; rfl)
    have hb1 : -9223372036854775808 ≤ m - pw t := by have := HV.out; rw [HW.out] at this; exact this.1
    have hb2 : m - pw t ≤ 9223372036854775807 := by have := HV.out; rw [HW.out] at this; exact this.2
    go_enter Try.func104, Try.ntmps104
    go_wp2_with (first | (go_at_call 29; refine (rin_any _ _ HM.out _).mono ?_; rintro e w' ⟨rfl, rfl⟩) | (go_at_call 66; refine (rbit_any _ _).mono ?_; rintro e w' ⟨rfl, rfl⟩))
    go_ret
    exact ⟨ret_int HW.out.symm, rfl⟩

def bv (a : Int) : BitVec 64 := BitVec.ofInt 64 a

theorem bv_wrap (Z : BitVec 64) : bv (wrap64 ((Z.toNat : Nat) : Int)) = Z := by
  apply BitVec.eq_of_toNat_eq
  have h := ofInt_toNat (wrap64 ((Z.toNat : Nat) : Int))
  have hz := Z.isLt
  have e : wrap64 ((Z.toNat : Nat) : Int) % 18446744073709551616 = ((Z.toNat : Nat) : Int) := by unfold wrap64; omega
  rw [e] at h
  exact_mod_cast h

theorem bv_inj {a b : Int} (ha : I64 a) (hb : I64 b) (h : bv a = bv b) : a = b := by
  rw [← wrap_ofInt ha, ← wrap_ofInt hb]
  unfold bv at h
  rw [h]

theorem bv_with {m : Int} (hm : I64 m) (t : Int) : bv (withT m t) = bv m ||| bv (pw t) := by
  rw [← or_pw hm t, bits_i64]; exact bv_wrap _

theorem bv_sans {m : Int} (hm : I64 m) (t : Int) : bv (sansT m t) = bv m &&& ~~~bv (pw t) := by
  rw [← andNot_pw hm t, bits_i64]; exact bv_wrap _

theorem i64_with {m : Int} (hm : I64 m) (t : Int) : I64 (withT m t) := by
  rw [← or_pw hm t, bits_i64]; exact i64_wrap64 _

theorem i64_sans {m : Int} (hm : I64 m) (t : Int) : I64 (sansT m t) := by
  rw [← andNot_pw hm t, bits_i64]; exact i64_wrap64 _

theorem tb_bv (a : Int) {s : Nat} (h : s ≤ 61) : tb a s = (bv a).getLsbD s := by
  unfold tb bv BitVec.getLsbD
  rw [Nat.testBit_eq_decide_div_mod_eq]
  have e : (((BitVec.ofInt 64 a).toNat / 2 ^ s % 2 : Nat) : Int) = a / 2 ^ s % 2 := by
    push_cast
    rw [ofInt_toNat, div_bit a h]
  rw [Bool.eq_iff_iff]
  simp only [beq_iff_eq, decide_eq_true_eq]
  omega

theorem isIn_bv (m : Int) {s : Nat} (h : s ≤ 61) : isIn m s = (bv m).getLsbD s := by rw [isIn_in m h, tb_bv m h]

theorem bv_pw {t : Nat} (h : t ≤ 61) (s : Nat) : (bv (pw t)).getLsbD s = decide (t = s) := by
  rw [pw_in h]
  unfold bv BitVec.getLsbD
  rw [ofInt_pow h, Nat.testBit_two_pow]

theorem in_with {m : Int} (hm : I64 m) {x y : Nat} (hx : x ≤ 61) (hy : y ≤ 61) : isIn (withT m x) y = (isIn m y || decide (x = y)) := by
  rw [isIn_bv _ hy, isIn_bv _ hy, bv_with hm, BitVec.getLsbD_or, bv_pw hx]

theorem in_sans {m : Int} (hm : I64 m) {x y : Nat} (hx : x ≤ 61) (hy : y ≤ 61) : isIn (sansT m x) y = (isIn m y && !decide (x = y)) := by
  have hlt : y < 64 := by omega
  rw [isIn_bv _ hy, isIn_bv _ hy, bv_sans hm, BitVec.getLsbD_and, BitVec.getLsbD_not, bv_pw hx]
  simp [hlt]

theorem with_with {m : Int} (hm : I64 m) (x : Int) : withT (withT m x) x = withT m x := by
  refine bv_inj (i64_with (i64_with hm x) x) (i64_with hm x) ?_
  rw [bv_with (i64_with hm x), bv_with hm, BitVec.or_assoc, BitVec.or_self]

theorem sans_sans {m : Int} (hm : I64 m) (x : Int) : sansT (sansT m x) x = sansT m x := by
  refine bv_inj (i64_sans (i64_sans hm x) x) (i64_sans hm x) ?_
  rw [bv_sans (i64_sans hm x), bv_sans hm, BitVec.and_assoc, BitVec.and_self]

theorem with_comm {m : Int} (hm : I64 m) (x y : Int) : withT (withT m x) y = withT (withT m y) x := by
  refine bv_inj (i64_with (i64_with hm x) y) (i64_with (i64_with hm y) x) ?_
  rw [bv_with (i64_with hm x), bv_with hm, bv_with (i64_with hm y), bv_with hm, BitVec.or_assoc, BitVec.or_assoc, BitVec.or_comm (bv (pw x))]

theorem sans_with {m : Int} (hm : I64 m) (x : Int) : sansT (withT m x) x = sansT m x := by
  refine bv_inj (i64_sans (i64_with hm x) x) (i64_sans hm x) ?_
  rw [bv_sans (i64_with hm x), bv_with hm, bv_sans hm]
  ext i hi
  simp
  cases (bv m)[i] <;> simp
end Go.Proofs.Ytmjfnlangebhlaa
