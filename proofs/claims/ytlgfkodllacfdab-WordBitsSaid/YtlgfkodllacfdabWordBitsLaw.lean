
/-
  The list of the threads in a mask, added one by one to the empty mask: the mask itself. No program text is named here.
-/
import Derived.Test.YtlgfkodllacfdabRows
import Derived.Test.YtlgfkodllacfdabWordPlain
import Derived.Test.YtlgfkodllacfdabWordWalks
import Derived.Test.YtlgfkodllacfdabWordRef
import Derived.Test.YtlgfkodllacfdabWordBv
namespace Go.Proofs.Ytlgfkodllacfdab
open Go.RowKit

/-- Adding threads to the empty mask, in order. -/
def madeOf (l : List Int) : Int := l.foldl withT 0
theorem madeOf_snoc (l : List Int) (x : Int) : madeOf (l ++ [x]) = withT (madeOf l) x := by simp [madeOf]
theorem foldl_i64 (l : List Int) : ∀ a, I64 a → I64 (l.foldl withT a) := by
  induction l with
  | nil => intro a h; exact h
  | cons x l ih => intro a h; exact ih _ (i64_with h x)
theorem madeOf_i64 (l : List Int) : I64 (madeOf l) := foldl_i64 l 0 i64_zero

theorem made_bits (m : Int) (k : Nat) (hk : k ≤ 62) (s : Nat) : (bv (madeOf (bitsL m k))).getLsbD s = (decide (s < k) && isIn m s) := by
  induction k with
  | zero => simp [bitsL_zero, madeOf, bv]
  | succ k ih =>
    have ih' := ih (by omega)
    by_cases hin : isIn m k = true
    · rw [bitsL_hit hin, madeOf_snoc, bv_with (madeOf_i64 _), BitVec.getLsbD_or, ih', bv_pw (by omega : k ≤ 61)]
      by_cases hs : s = k
      · subst hs; simp [hin]
      · have h1 : decide (k = s) = false := by simp; omega
        have h2 : decide (s < k + 1) = decide (s < k) := by rw [decide_eq_decide]; omega
        rw [h1, h2, Bool.or_false]
    · have hin' : isIn m k = false := by simpa using hin
      rw [bitsL_miss hin', ih']
      by_cases hs : s = k
      · subst hs; simp [hin']
      · have h2 : decide (s < k + 1) = decide (s < k) := by rw [decide_eq_decide]; omega
        rw [h2]

theorem made_all (m : Int) (h0 : 0 ≤ m) (h1 : m < 4611686018427387904) : madeOf (bitsL m 62) = m := by
  refine bv_inj (madeOf_i64 _) ⟨by omega, by omega⟩ ?_
  apply BitVec.eq_of_getLsbD_eq
  intro s hs
  rw [made_bits m 62 (Nat.le_refl _) s]
  by_cases h : s ≤ 61
  · rw [isIn_bv m h, decide_eq_true (by omega : s < 62)]; rfl
  · have h2 : decide (s < 62) = false := by simp; omega
    rw [h2, Bool.false_and]
    unfold bv BitVec.getLsbD
    have e := ofInt_toNat m
    rw [Int.emod_eq_of_lt h0 (by omega)] at e
    have hlt : (BitVec.ofInt 64 m).toNat < 2 ^ s := by
      have h3 : (2 : Nat) ^ 62 ≤ 2 ^ s := Nat.pow_le_pow_right (by decide) (by omega)
      have h4 : (2 : Nat) ^ 62 = 4611686018427387904 := by decide
      omega
    exact (Nat.testBit_lt_two_pow hlt).symm

theorem bitsL_mem {m x : Int} {k : Nat} (h : x ∈ bitsL m k) : 0 ≤ x ∧ x < k ∧ isIn m x = true := by
  unfold bitsL at h
  rw [List.mem_map] at h
  obtain ⟨t, ht, rfl⟩ := h
  rw [List.mem_filter, List.mem_range] at ht
  exact ⟨by omega, by omega, ht.2⟩
theorem bitsL_rises (m : Int) (k : Nat) (hk : k ≤ 62) : (bitsL m k).Pairwise (· < ·) := by
  induction k with
  | zero => rw [bitsL_zero]; exact List.Pairwise.nil
  | succ k ih =>
    by_cases hin : isIn m k = true
    · rw [bitsL_hit hin, List.pairwise_append]
      refine ⟨ih (by omega), List.pairwise_singleton _ _, fun x hx y hy => ?_⟩
      simp at hy; subst hy
      exact (bitsL_mem hx).2.1
    · have hin' : isIn m k = false := by simpa using hin
      rw [bitsL_miss hin']; exact ih (by omega)

theorem take_snoc' (l : List Int) (k : Nat) (h : k < l.length) : l.take (k + 1) = l.take k ++ [l.getD k 0] := by
  rw [List.take_succ_eq_append_getElem h]; simp [List.getD, List.getElem?_eq_getElem h]

end Go.Proofs.Ytlgfkodllacfdab
