
/-
  Plain arithmetic of two's complement words for the functions of layer 1: masks, single bits, floor division. No program text is named here.
-/
import Derived.WalkKit
namespace Go.Proofs.Ytlgfkodllacfdab
open Go.RowKit

/-- The bounds of an int. -/
def I64 (n : Int) : Prop := -9223372036854775808 ≤ n ∧ n ≤ 9223372036854775807
theorem i64_of_wf {n : Int} (h : (Lit.int .i64 n).wf = true) : I64 n := by
  have h1 : IntKind.i64.min = -9223372036854775808 := rfl
  have h2 : IntKind.i64.max = 9223372036854775807 := rfl
  simp only [Lit.wf, Bool.and_eq_true, decide_eq_true_eq] at h
  unfold I64; omega
theorem i64_wrap64 (n : Int) : I64 (wrap64 n) := by unfold I64 wrap64; omega
theorem wrap64_id {n : Int} (h : I64 n) : wrap64 n = n := by unfold I64 at h; unfold wrap64; omega

theorem bits_i64 (op : BinOp) (x y : Int) : bits op .i64 x y = wrap64 (((match op with
    | .and => BitVec.ofInt 64 x &&& BitVec.ofInt 64 y
    | .or => BitVec.ofInt 64 x ||| BitVec.ofInt 64 y
    | .xor => BitVec.ofInt 64 x ^^^ BitVec.ofInt 64 y
    | _ => BitVec.ofInt 64 x &&& ~~~BitVec.ofInt 64 y).toNat : Nat) : Int) := by
  unfold bits wrap64
  rw [IntKind.wrap_i64]
  cases op <;> rfl

theorem ofInt_toNat (a : Int) : (((BitVec.ofInt 64 a).toNat : Nat) : Int) = a % 18446744073709551616 := by
  rw [BitVec.toNat_ofInt]
  have h : (((2 : Nat) ^ 64 : Nat) : Int) = 18446744073709551616 := by decide
  rw [h]
  omega
theorem wrap_ofInt {a : Int} (h : I64 a) : wrap64 (((BitVec.ofInt 64 a).toNat : Nat) : Int) = a := by
  rw [ofInt_toNat]; unfold I64 at h; unfold wrap64; omega

theorem two_pow_cast (t : Nat) : ((2 ^ t : Nat) : Int) = 2 ^ t := by push_cast; rfl

theorem and_mask (a : Int) (j : Nat) (hj : j ≤ 62) : bits .and .i64 a (2 ^ j - 1) = a % 2 ^ j := by
  rw [bits_i64]
  have hp : (2 : Int) ^ j ≤ 2 ^ 62 := by
    have : (2 : Nat) ^ j ≤ 2 ^ 62 := Nat.pow_le_pow_right (by decide) hj
    exact_mod_cast this
  have h0 : (0 : Int) < 2 ^ j := by exact_mod_cast Nat.pow_pos (n := j) (by decide : 0 < 2)
  have e1 : (BitVec.ofInt 64 (2 ^ j - 1)).toNat = 2 ^ j - 1 := by
    have h1 := ofInt_toNat (2 ^ j - 1)
    have h2 : ((2 : Int) ^ j - 1) % 18446744073709551616 = 2 ^ j - 1 := Int.emod_eq_of_lt (by omega) (by omega)
    rw [h2] at h1
    have h3 := two_pow_cast j
    have h4 : 1 ≤ (2 : Nat) ^ j := Nat.pow_pos (by decide)
    omega
  have e2 : (BitVec.ofInt 64 a &&& BitVec.ofInt 64 (2 ^ j - 1)).toNat = (BitVec.ofInt 64 a).toNat % 2 ^ j := by
    rw [BitVec.toNat_and, e1, Nat.and_two_pow_sub_one_eq_mod]
  show wrap64 (((BitVec.ofInt 64 a &&& BitVec.ofInt 64 (2 ^ j - 1)).toNat : Nat) : Int) = _
  rw [e2]
  have e3 : (((BitVec.ofInt 64 a).toNat % 2 ^ j : Nat) : Int) = a % 2 ^ j := by
    push_cast
    rw [ofInt_toNat]
    have hd : (2 : Int) ^ j ∣ 18446744073709551616 := by
      refine ⟨2 ^ (64 - j), ?_⟩
      rw [← Int.pow_add]
      have : j + (64 - j) = 64 := by omega
      rw [this]; rfl
    exact Int.emod_emod_of_dvd _ hd
  rw [e3]
  have h4 : 0 ≤ a % 2 ^ j := Int.emod_nonneg _ (by omega)
  have h5 : a % 2 ^ j < 2 ^ j := Int.emod_lt_of_pos _ h0
  refine wrap64_id ⟨by omega, ?_⟩
  have : (2 : Int) ^ 62 = 4611686018427387904 := by decide
  omega

/-- Is bit t set? -/
def tb (a : Int) (t : Nat) : Bool := a / 2 ^ t % 2 == 1

theorem pow_le61 {t : Nat} (h : t ≤ 61) : (2 : Int) ^ t ≤ 2305843009213693952 := by
  have : (2 : Nat) ^ t ≤ 2 ^ 61 := Nat.pow_le_pow_right (by decide) h
  have h2 : ((2 : Nat) ^ 61 : Nat) = 2305843009213693952 := by decide
  have h3 : ((2 ^ t : Nat) : Int) ≤ ((2305843009213693952 : Nat) : Int) := by exact_mod_cast (h2 ▸ this)
  simpa using h3
theorem pow_pos' (t : Nat) : (0 : Int) < 2 ^ t := by exact_mod_cast Nat.pow_pos (n := t) (by decide : 0 < 2)

theorem ofInt_pow {t : Nat} (h : t ≤ 61) : (BitVec.ofInt 64 (2 ^ t)).toNat = 2 ^ t := by
  have h1 := ofInt_toNat (2 ^ t)
  have h2 := pow_le61 h
  have h3 := pow_pos' t
  have h4 : ((2 : Int) ^ t) % 18446744073709551616 = 2 ^ t := Int.emod_eq_of_lt (by omega) (by omega)
  rw [h4, ← two_pow_cast] at h1
  exact_mod_cast h1

theorem div_bit (a : Int) {t : Nat} (h : t ≤ 61) : (a % 18446744073709551616) / 2 ^ t % 2 = a / 2 ^ t % 2 := by
  have hp := pow_pos' t
  have e : (18446744073709551616 : Int) = 2 ^ t * (2 * 2 ^ (63 - t)) := by
    have : t + (1 + (63 - t)) = 64 := by omega
    have h2 : (2 : Int) ^ t * (2 * 2 ^ (63 - t)) = 2 ^ (t + (1 + (63 - t))) := by rw [Int.pow_add, Int.pow_add]; rfl
    rw [h2, this]; rfl
  have key : a / 2 ^ t = (a % 18446744073709551616) / 2 ^ t + 2 * (2 ^ (63 - t) * (a / 18446744073709551616)) := by
    have h1 : a = a % 18446744073709551616 + 2 ^ t * (2 * (2 ^ (63 - t) * (a / 18446744073709551616))) := by
      have h2 : 2 ^ t * (2 * (2 ^ (63 - t) * (a / 18446744073709551616))) = 18446744073709551616 * (a / 18446744073709551616) := by
        rw [e]; simp only [Int.mul_assoc]
      rw [h2]; omega
    conv => lhs; rw [h1]
    rw [Int.add_mul_ediv_left _ _ (by omega)]
  omega

theorem and_pow (a : Int) {t : Nat} (h : t ≤ 61) : BitVec.ofInt 64 a &&& BitVec.ofInt 64 (2 ^ t) = if tb a t then BitVec.ofInt 64 (2 ^ t) else 0#64 := by
  apply BitVec.eq_of_toNat_eq
  rw [BitVec.toNat_and, ofInt_pow h, nat_bit]
  have e : (((BitVec.ofInt 64 a).toNat / 2 ^ t % 2 : Nat) : Int) = a / 2 ^ t % 2 := by
    push_cast
    rw [ofInt_toNat, div_bit a h]
  have hr : a / 2 ^ t % 2 = 0 ∨ a / 2 ^ t % 2 = 1 := by omega
  unfold tb
  rcases hr with hr | hr
  · rw [hr] at e
    have : (BitVec.ofInt 64 a).toNat / 2 ^ t % 2 = 0 := by exact_mod_cast e
    rw [this, hr]; simp
  · rw [hr] at e
    have : (BitVec.ofInt 64 a).toNat / 2 ^ t % 2 = 1 := by exact_mod_cast e
    rw [this, hr]; simp [ofInt_pow h]

theorem i64_pow {t : Nat} (h : t ≤ 61) : I64 (2 ^ t) := by
  have h2 := pow_le61 h
  have h3 := pow_pos' t
  exact ⟨by omega, by omega⟩

theorem bits_and_pow (a : Int) {t : Nat} (h : t ≤ 61) : bits .and .i64 a (2 ^ t) = if tb a t then 2 ^ t else 0 := by
  rw [bits_i64]
  show wrap64 (((BitVec.ofInt 64 a &&& BitVec.ofInt 64 (2 ^ t)).toNat : Nat) : Int) = _
  rw [and_pow a h]
  cases hb : tb a t
  · simp [wrap64]
  · simp only [if_true]; exact wrap_ofInt (i64_pow h)

theorem bv_or_of_and {w : Nat} (x y : BitVec w) (h : x &&& y = y) : x ||| y = x := by
  ext i hi
  have := congrArg (fun z : BitVec w => z[i]) h
  simp at this ⊢
  intro hy
  exact this hy
theorem bv_andnot_of_zero {w : Nat} (x y : BitVec w) (h : x &&& y = 0#w) : x &&& ~~~y = x := by
  ext i hi
  have := congrArg (fun z : BitVec w => z[i]) h
  simp at this ⊢
  intro hx
  exact this hx
theorem bv_andnot_add {w : Nat} (x y : BitVec w) (h : x &&& y = y) : (x &&& ~~~y) + y = x := by
  rw [BitVec.add_eq_or_of_and_eq_zero]
  · ext i hi
    have := congrArg (fun z : BitVec w => z[i]) h
    simp at this ⊢
    cases hx : x[i] <;> cases hy : y[i] <;> simp_all
  · ext i hi
    simp

theorem wrap_toNat_add (x y : BitVec 64) : wrap64 (((x + y).toNat : Nat) : Int) = wrap64 ((x.toNat : Int) + (y.toNat : Int)) := by
  rw [BitVec.toNat_add]; unfold wrap64; omega

theorem wrap_add_ofInt (a b : Int) : wrap64 (((BitVec.ofInt 64 a).toNat : Int) + ((BitVec.ofInt 64 b).toNat : Int)) = wrap64 (a + b) := by
  rw [ofInt_toNat, ofInt_toNat]; unfold wrap64; omega

/-- A bit that is not set, set: no carry. -/
theorem add_pow_in {a : Int} (h : I64 a) {t : Nat} (ht : t ≤ 61) (hb : tb a t = false) : I64 (a + 2 ^ t) := by
  obtain ⟨h1, h2⟩ := h
  have hp := pow_pos' t
  refine ⟨by omega, ?_⟩
  -- a + 2^t ≤ max: the bit t of max is set
  have e : (9223372036854775807 : Int) = 2 ^ t * (2 * 2 ^ (62 - t) - 1) + (2 ^ t - 1) := by
    have : t + (1 + (62 - t)) = 63 := by omega
    have h2 : (2 : Int) ^ t * (2 * 2 ^ (62 - t)) = 2 ^ (t + (1 + (62 - t))) := by rw [Int.pow_add, Int.pow_add]; rfl
    rw [Int.mul_sub, h2, this, Int.mul_one]
    have : (2 : Int) ^ 63 = 9223372036854775808 := by decide
    rw [this]; omega
  have hq : a / 2 ^ t ≤ 2 * 2 ^ (62 - t) - 1 := by
    have : a / 2 ^ t ≤ 9223372036854775807 / 2 ^ t := Int.ediv_le_ediv hp h2
    have e2 : (9223372036854775807 : Int) / 2 ^ t = 2 * 2 ^ (62 - t) - 1 := by
      rw [e, Int.add_comm, Int.add_mul_ediv_left _ _ (by omega), Int.ediv_eq_zero_of_lt (by omega) (by omega)]; omega
    omega
  have hbit : a / 2 ^ t % 2 ≠ 1 := by
    intro hc; unfold tb at hb; rw [hc] at hb; simp at hb
  have hq2 : a / 2 ^ t ≤ 2 * 2 ^ (62 - t) - 2 := by omega
  have hm := Int.mul_ediv_add_emod a (2 ^ t)
  have hl := Int.emod_lt_of_pos a hp
  have hmul : 2 ^ t * (a / 2 ^ t) ≤ 2 ^ t * (2 * 2 ^ (62 - t) - 2) := Int.mul_le_mul_of_nonneg_left hq2 (by omega)
  have hx : (2 : Int) ^ t * (2 * 2 ^ (62 - t) - 2) = 2 ^ t * (2 * 2 ^ (62 - t) - 1) - 2 ^ t := by
    rw [Int.mul_sub, Int.mul_sub, Int.mul_one]; omega
  omega

theorem sub_pow_in {a : Int} (h : I64 a) {t : Nat} (ht : t ≤ 61) (hb : tb a t = true) : I64 (a - 2 ^ t) := by
  obtain ⟨h1, h2⟩ := h
  have hp := pow_pos' t
  refine ⟨?_, by omega⟩
  have e : (-9223372036854775808 : Int) = 2 ^ t * (2 * (-(2 ^ (62 - t)))) := by
    have : t + (1 + (62 - t)) = 63 := by omega
    have h2 : (2 : Int) ^ t * (2 * (-(2 ^ (62 - t)))) = - 2 ^ (t + (1 + (62 - t))) := by rw [Int.pow_add, Int.pow_add, Int.mul_neg, Int.mul_neg]; rfl
    rw [h2, this]; decide
  have hq : 2 * (-(2 ^ (62 - t))) ≤ a / 2 ^ t := by
    have : (-9223372036854775808) / 2 ^ t ≤ a / 2 ^ t := Int.ediv_le_ediv hp h1
    have e2 : (-9223372036854775808 : Int) / 2 ^ t = 2 * (-(2 ^ (62 - t))) := by
      rw [e, Int.mul_ediv_cancel_left _ (by omega)]
    omega
  have hbit : a / 2 ^ t % 2 = 1 := by unfold tb at hb; simpa using hb
  have hq2 : 2 * (-(2 ^ (62 - t))) + 1 ≤ a / 2 ^ t := by omega
  have hm := Int.mul_ediv_add_emod a (2 ^ t)
  have hl := Int.emod_nonneg a (show (2 : Int) ^ t ≠ 0 by omega)
  have hmul : 2 ^ t * (2 * (-(2 ^ (62 - t))) + 1) ≤ 2 ^ t * (a / 2 ^ t) := Int.mul_le_mul_of_nonneg_left hq2 (by omega)
  have hx : (2 : Int) ^ t * (2 * (-(2 ^ (62 - t))) + 1) = 2 ^ t * (2 * (-(2 ^ (62 - t)))) + 2 ^ t := by
    rw [Int.mul_add, Int.mul_one]
  omega

theorem bits_or_pow {a : Int} (ha : I64 a) {t : Nat} (h : t ≤ 61) : bits .or .i64 a (2 ^ t) = if tb a t then a else a + 2 ^ t := by
  rw [bits_i64]
  show wrap64 (((BitVec.ofInt 64 a ||| BitVec.ofInt 64 (2 ^ t)).toNat : Nat) : Int) = _
  have e := and_pow a h
  cases hb : tb a t
  · rw [hb] at e
    simp only [Bool.false_eq_true, if_false] at e ⊢
    rw [← BitVec.add_eq_or_of_and_eq_zero _ _ e, wrap_toNat_add, wrap_add_ofInt]
    exact wrap64_id (add_pow_in ha h hb)
  · rw [hb] at e
    simp only [if_true] at e ⊢
    rw [bv_or_of_and _ _ e]
    exact wrap_ofInt ha

theorem bits_andNot_pow {a : Int} (ha : I64 a) {t : Nat} (h : t ≤ 61) : bits .andNot .i64 a (2 ^ t) = if tb a t then a - 2 ^ t else a := by
  rw [bits_i64]
  show wrap64 (((BitVec.ofInt 64 a &&& ~~~BitVec.ofInt 64 (2 ^ t)).toNat : Nat) : Int) = _
  have e := and_pow a h
  cases hb : tb a t
  · rw [hb] at e
    simp only [Bool.false_eq_true, if_false] at e ⊢
    rw [bv_andnot_of_zero _ _ e]
    exact wrap_ofInt ha
  · rw [hb] at e
    simp only [if_true] at e ⊢
    have e2 := bv_andnot_add _ _ e
    have e3 : wrap64 ((((BitVec.ofInt 64 a &&& ~~~BitVec.ofInt 64 (2 ^ t)) + BitVec.ofInt 64 (2 ^ t)).toNat : Nat) : Int) = a := by rw [e2]; exact wrap_ofInt ha
    rw [wrap_toNat_add, ofInt_pow h, two_pow_cast] at e3
    have hi := sub_pow_in ha h hb
    have hp := pow_pos' t
    have hq := pow_le61 h
    obtain ⟨i1, i2⟩ := hi
    obtain ⟨j1, j2⟩ := ha
    unfold wrap64 at e3 ⊢
    omega

theorem bits_and_zero (a : Int) : bits .and .i64 a 0 = 0 := by
  have := and_mask a 0 (by decide); simpa using this
theorem bits_or_zero {a : Int} (ha : I64 a) : bits .or .i64 a 0 = a := by
  rw [bits_i64]
  show wrap64 (((BitVec.ofInt 64 a ||| BitVec.ofInt 64 0).toNat : Nat) : Int) = _
  have : BitVec.ofInt 64 a ||| BitVec.ofInt 64 0 = BitVec.ofInt 64 a := by simp
  rw [this]; exact wrap_ofInt ha
theorem bits_andNot_zero {a : Int} (ha : I64 a) : bits .andNot .i64 a 0 = a := by
  rw [bits_i64]
  show wrap64 (((BitVec.ofInt 64 a &&& ~~~BitVec.ofInt 64 0).toNat : Nat) : Int) = _
  have : BitVec.ofInt 64 a &&& ~~~BitVec.ofInt 64 0 = BitVec.ofInt 64 a := bv_andnot_of_zero _ _ (by simp)
  rw [this]; exact wrap_ofInt ha

end Go.Proofs.Ytlgfkodllacfdab
