
/-
  Layer 8: the remainder by the modulus: arithmetic.
-/
import Derived.Test.YtoijdnlplbeomaaDoorMd1
namespace Go.Proofs.YtoijdnlplbeomaaDoor
open Go Go.RowKit EX
set_option maxRecDepth 100000
set_option linter.unusedVariables false
set_option linter.unusedSimpArgs false
theorem wU_eq (x : Int) : wU x = x % 18446744073709551616 := by
  unfold wU
  simp [IntKind.wrap, IntKind.signed, IntKind.bits]
theorem wSh_eq (x : Int) (n : Nat) : wSh x n = x / 2 ^ n := by
  unfold wSh
  exact Int.fdiv_eq_ediv_of_nonneg x (Int.le_of_lt (Int.pow_pos (by decide)))
theorem wSl_eq (x : Int) (n : Nat) : wSl x n = (x * 2 ^ n) % 18446744073709551616 := wU_eq _
theorem ofN {x : Int} (h0 : 0 ≤ x) (h1 : x < 18446744073709551616) : (BitVec.ofInt 64 x).toNat = x.toNat := by
  rw [BitVec.toNat_ofInt]
  have h : (((2 : Nat) ^ 64 : Nat) : Int) = 18446744073709551616 := by decide
  rw [h, Int.emod_eq_of_lt h0 h1]
theorem wAn_eq {x : Int} (h0 : 0 ≤ x) (h1 : x < 18446744073709551616) : wAn x 4294967295 = x % 4294967296 := by
  have e := wU_eq (((BitVec.ofInt 64 x &&& BitVec.ofInt 64 4294967295).toNat : Nat) : Int)
  unfold wU at e
  unfold wAn
  rw [e, BitVec.toNat_and, ofN h0 h1, ofN (by decide) (by decide)]
  have : x.toNat &&& (4294967295 : Int).toNat = x.toNat % 4294967296 := Nat.and_two_pow_sub_one_eq_mod x.toNat 32
  rw [this]
  omega
theorem wOr_eq {a b : Int} (h0 : 0 ≤ a) (h1 : a < 4398046511104) (h2 : 0 ≤ b) (h3 : b < 4194304) : wOr (a * 4194304) b = a * 4194304 + b := by
  have e := wU_eq (((BitVec.ofInt 64 (a * 4194304) ||| BitVec.ofInt 64 b).toNat : Nat) : Int)
  unfold wU at e
  unfold wOr
  rw [e, BitVec.toNat_or, ofN (by omega) (by omega), ofN h2 (by omega)]
  have h : (a * 4194304).toNat = a.toNat <<< 22 := by
    rw [Nat.shiftLeft_eq]; omega
  have g := Nat.shiftLeft_add_eq_or_of_lt (b := b.toNat) (i := 22) (by omega) a.toNat
  rw [h, ← g, Nat.shiftLeft_eq]
  omega
end Go.Proofs.YtoijdnlplbeomaaDoor
