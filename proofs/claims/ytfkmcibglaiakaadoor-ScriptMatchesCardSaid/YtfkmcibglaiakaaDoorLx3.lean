
/-
  Layer 4: the value of digits.
-/
import Derived.Test.YtfkmcibglaiakaaDoorRows
import Derived.Test.YtfkmcibglaiakaaDoorBase
import Derived.Test.YtfkmcibglaiakaaDoorLx2
import Derived.WalkKit
namespace Go.Proofs.YtfkmcibglaiakaaDoor
open Go Go.RowKit SZ
set_option linter.unusedVariables false
set_option linter.unusedSimpArgs false
set_option maxRecDepth 100000
attribute [local irreducible] post GD Nxt NxtAll
def numV (w : List Nat) : Nat := w.foldl (fun n c => 10 * n + (c - 48)) 0
theorem numV_snoc (w : List Nat) (c : Nat) : numV (w ++ [c]) = 10 * numV w + (c - 48) := by simp [numV, List.foldl_append]
theorem numV_take {w : List Nat} {j : Nat} (h : j < w.length) : numV (w.take (j + 1)) = 10 * numV (w.take j) + (w.getD j 0 - 48) := by
  have e : w.getD j 0 = w[j] := by simp [List.getD, List.getElem?_eq_getElem h]
  rw [List.take_succ_eq_append_getElem h, numV_snoc, e]
theorem numV_lt {w : List Nat} (hd : ∀ b ∈ w, digB b = true) : ∀ j, j ≤ w.length → numV (w.take j) < 10 ^ j
  | 0, _ => by simp [numV]
  | j + 1, h => by
    have ih := numV_lt hd j (by omega)
    have hb := hd _ (getD_mem w j 0 (by omega))
    simp only [digB, Bool.and_eq_true, decide_eq_true_eq] at hb
    rw [numV_take (by omega), Nat.pow_succ]
    omega
theorem numV_13 {w : List Nat} (hd : ∀ b ∈ w, digB b = true) (h13 : w.length ≤ 13) {j : Nat} (hj : j ≤ w.length) : numV (w.take j) < 10000000000000 := by
  have h := numV_lt hd j hj
  have h2 : 10 ^ j ≤ 10 ^ 13 := Nat.pow_le_pow_right (by omega) (by omega)
  omega
/-- Whether the digits are a number of the language. -/
def nOk (w : List Nat) : Bool := decide (w.length ≤ 13) && !(decide (1 < w.length) && decide (w.getD 0 0 = 48)) && decide (numV w ≤ 1099511627776)
noncomputable def nuS (l : List Nat) (g j : Nat) : SS := ⟨34, [(0, .v (.string (strOf l))), (4, .v (.int .i64 (numV (l.take j) : Int))), (21, .v (.pointer (some ⟨g, 0, none⟩)))], []⟩
end Go.Proofs.YtfkmcibglaiakaaDoor
