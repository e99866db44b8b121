
/-
  Masks of layer 1 as bit vectors: adding and removing threads, bit by bit. No program text is named here.
-/
import Derived.Test.YtlgfkodllacfdabRows
import Derived.Test.YtlgfkodllacfdabWordPlain
import Derived.Test.YtlgfkodllacfdabWordWalks
namespace Go.Proofs.Ytlgfkodllacfdab
open Go.RowKit

def bv (a : Int) : BitVec 64 := BitVec.ofInt 64 a
theorem bv_wrap (Z : BitVec 64) : bv (wrap64 ((Z.toNat : Nat) : Int)) = Z := by
  apply BitVec.eq_of_toNat_eq
  have h := ofInt_toNat (wrap64 ((Z.toNat : Nat) : Int))
  have hz := Z.isLt
  have e : wrap64 ((Z.toNat : Nat) : Int) % 18446744073709551616 = ((Z.toNat : Nat) : Int) := by unfold wrap64; omega
  rw [e] at h
  exact_mod_cast h
theorem bv_inj {a b : Int} (ha : I64 a) (hb : I64 b) (h : bv a = bv b) : a = b := by
  rw [← wrap_ofInt ha, ← wrap_ofInt hb]
  unfold bv at h
  rw [h]
theorem bv_with {m : Int} (hm : I64 m) (t : Int) : bv (withT m t) = bv m ||| bv (pw t) := by
  rw [← or_pw hm t, bits_i64]; exact bv_wrap _
theorem bv_sans {m : Int} (hm : I64 m) (t : Int) : bv (sansT m t) = bv m &&& ~~~bv (pw t) := by
  rw [← andNot_pw hm t, bits_i64]; exact bv_wrap _
theorem i64_with {m : Int} (hm : I64 m) (t : Int) : I64 (withT m t) := by
  rw [← or_pw hm t, bits_i64]; exact i64_wrap64 _
theorem i64_sans {m : Int} (hm : I64 m) (t : Int) : I64 (sansT m t) := by
  rw [← andNot_pw hm t, bits_i64]; exact i64_wrap64 _

theorem tb_bv (a : Int) {s : Nat} (h : s ≤ 61) : tb a s = (bv a).getLsbD s := by
  unfold tb bv BitVec.getLsbD
  rw [Nat.testBit_eq_decide_div_mod_eq]
  have e : (((BitVec.ofInt 64 a).toNat / 2 ^ s % 2 : Nat) : Int) = a / 2 ^ s % 2 := by
    push_cast
    rw [ofInt_toNat, div_bit a h]
  rw [Bool.eq_iff_iff]
  simp only [beq_iff_eq, decide_eq_true_eq]
  omega
theorem isIn_bv (m : Int) {s : Nat} (h : s ≤ 61) : isIn m s = (bv m).getLsbD s := by rw [isIn_in m h, tb_bv m h]
theorem bv_pw {t : Nat} (h : t ≤ 61) (s : Nat) : (bv (pw t)).getLsbD s = decide (t = s) := by
  rw [pw_in h]
  unfold bv BitVec.getLsbD
  rw [ofInt_pow h, Nat.testBit_two_pow]

theorem in_with {m : Int} (hm : I64 m) {x y : Nat} (hx : x ≤ 61) (hy : y ≤ 61) : isIn (withT m x) y = (isIn m y || decide (x = y)) := by
  rw [isIn_bv _ hy, isIn_bv _ hy, bv_with hm, BitVec.getLsbD_or, bv_pw hx]
theorem in_sans {m : Int} (hm : I64 m) {x y : Nat} (hx : x ≤ 61) (hy : y ≤ 61) : isIn (sansT m x) y = (isIn m y && !decide (x = y)) := by
  have hlt : y < 64 := by omega
  rw [isIn_bv _ hy, isIn_bv _ hy, bv_sans hm, BitVec.getLsbD_and, BitVec.getLsbD_not, bv_pw hx]
  simp [hlt]
theorem with_with {m : Int} (hm : I64 m) (x : Int) : withT (withT m x) x = withT m x := by
  refine bv_inj (i64_with (i64_with hm x) x) (i64_with hm x) ?_
  rw [bv_with (i64_with hm x), bv_with hm, BitVec.or_assoc, BitVec.or_self]
theorem sans_sans {m : Int} (hm : I64 m) (x : Int) : sansT (sansT m x) x = sansT m x := by
  refine bv_inj (i64_sans (i64_sans hm x) x) (i64_sans hm x) ?_
  rw [bv_sans (i64_sans hm x), bv_sans hm, BitVec.and_assoc, BitVec.and_self]
theorem with_comm {m : Int} (hm : I64 m) (x y : Int) : withT (withT m x) y = withT (withT m y) x := by
  refine bv_inj (i64_with (i64_with hm x) y) (i64_with (i64_with hm y) x) ?_
  rw [bv_with (i64_with hm x), bv_with hm, bv_with (i64_with hm y), bv_with hm, BitVec.or_assoc, BitVec.or_assoc, BitVec.or_comm (bv (pw x))]
theorem sans_with {m : Int} (hm : I64 m) (x : Int) : sansT (withT m x) x = sansT m x := by
  refine bv_inj (i64_sans (i64_with hm x) x) (i64_sans hm x) ?_
  rw [bv_sans (i64_with hm x), bv_with hm, bv_sans hm]
  ext i hi
  simp
  cases (bv m)[i] <;> simp

end Go.Proofs.Ytlgfkodllacfdab
