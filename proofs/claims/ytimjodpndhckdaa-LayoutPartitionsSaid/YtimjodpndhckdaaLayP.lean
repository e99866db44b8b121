
/-
  Layer 15: which cells the variables of the first indexes cover.
-/
import Derived.Test.YtimjodpndhckdaaRows
import Derived.Test.YtimjodpndhckdaaBase
import Derived.Test.YtimjodpndhckdaaLayA
import Derived.Test.YtimjodpndhckdaaLayF
namespace Go.Proofs.Ytimjodpndhckdaa
set_option maxRecDepth 20000
set_option linter.unusedVariables false
open Go.ChangeShapes Go.WideShapes Go.ChangeAt Go.RowKit

/-- Is the cell i covered by the four global variables, by all variables of the indexes below n, and by the first k kinds at the index n? -/
def Cov (lo lc sz n k i : Nat) : Prop :=
  i < 4 ∨ (4 ≤ i ∧ i < lo ∧ ((i - 4) / 4 < n ∨ ((i - 4) / 4 = n ∧ (i - 4) % 4 < k))) ∨ (lo ≤ i ∧ i < lc ∧ (i - lo < n ∨ (i - lo = n ∧ 4 < k))) ∨ (lc ≤ i ∧ i < sz ∧ ((i - lc) / 4 < n ∨ ((i - lc) / 4 = n ∧ (i - lc) % 4 + 5 < k)))
instance (lo lc sz n k i : Nat) : Decidable (Cov lo lc sz n k i) := by unfold Cov; infer_instance
def covL (lo lc sz n k : Nat) : List Int := (List.range sz).map (fun i => if Cov lo lc sz n k i then 1 else 0)
theorem covL_length (lo lc sz n k : Nat) : (covL lo lc sz n k).length = sz := by simp [covL]
theorem covL_at (lo lc sz n k i : Nat) (h : i < sz) : (covL lo lc sz n k)[i]? = some (if Cov lo lc sz n k i then 1 else 0) := by
  simp [covL, h]
theorem covL_same (lo lc sz n k n' k' : Nat) (h : ∀ i, i < sz → (Cov lo lc sz n k i ↔ Cov lo lc sz n' k' i)) : covL lo lc sz n k = covL lo lc sz n' k' := by
  apply List.ext_getElem?
  intro i
  by_cases hi : i < sz
  · rw [covL_at _ _ _ _ _ _ hi, covL_at _ _ _ _ _ _ hi]
    by_cases hc : Cov lo lc sz n k i
    · rw [if_pos hc, if_pos ((h i hi).1 hc)]
    · rw [if_neg hc, if_neg (fun h2 => hc ((h i hi).2 h2))]
  · rw [List.getElem?_eq_none (by rw [covL_length]; omega), List.getElem?_eq_none (by rw [covL_length]; omega)]
theorem covL_step (lo lc sz n k j : Nat) (hj : j < sz) (h0 : ¬Cov lo lc sz n k j) (h : ∀ i, i < sz → (Cov lo lc sz n (k + 1) i ↔ (i = j ∨ Cov lo lc sz n k i))) :
    (covL lo lc sz n k)[j]? = some 0 ∧ covL lo lc sz n (k + 1) = (covL lo lc sz n k).set j 1 := by
  refine ⟨by rw [covL_at _ _ _ _ _ _ hj, if_neg h0], ?_⟩
  apply List.ext_getElem?
  intro i
  by_cases hi : i < sz
  · rw [covL_at _ _ _ _ _ _ hi, List.getElem?_set]
    by_cases hij : j = i
    · subst hij
      rw [if_pos ((h _ hi).2 (Or.inl rfl)), if_pos rfl, if_pos (by rw [covL_length]; exact hi)]
    · rw [if_neg hij, covL_at _ _ _ _ _ _ hi]
      by_cases hc : Cov lo lc sz n k i
      · rw [if_pos hc, if_pos ((h i hi).2 (Or.inr hc))]
      · rw [if_neg hc, if_neg (fun h2 => by rcases (h i hi).1 h2 with h2 | h2; exact hij h2.symm; exact hc h2)]
  · rw [List.getElem?_eq_none (by rw [covL_length]; omega), List.getElem?_eq_none (by rw [List.length_set, covL_length]; omega)]

theorem cov_next (lo lc sz n : Nat) : covL lo lc sz n 9 = covL lo lc sz (n + 1) 0 := covL_same _ _ _ _ _ _ _ (fun i hi => by unfold Cov; omega)
theorem cov_all (t q l lo lc sz : Nat) (h1 : lo = 4 + 4 * t) (h2 : lc = lo + q) (h3 : sz = lc + 4 * l) (ht : t ≤ 4) (hq : q ≤ 8) (hl : l ≤ 32) (i : Nat) (hi : i < sz) : (covL lo lc sz 40 0)[i]? = some 1 := by
  rw [covL_at _ _ _ _ _ _ hi, if_pos (by unfold Cov; omega)]
theorem cov_start (lo lc sz : Nat) (h : 4 ≤ sz) (h1 : 4 ≤ lo) (h2 : lo ≤ lc) : covL lo lc sz 0 0 = ((((List.replicate sz (0 : Int)).set 0 1).set 1 1).set 2 1).set 3 1 := by
  apply List.ext_getElem?
  intro i
  by_cases hi : i < sz
  · rw [covL_at _ _ _ _ _ _ hi]
    have hr : (List.replicate sz (0 : Int))[i]? = some 0 := by simp [hi]
    simp only [List.getElem?_set, List.length_set, List.length_replicate, hr]
    by_cases h4 : i < 4
    · rw [if_pos (by unfold Cov; omega)]
      have : i = 0 ∨ i = 1 ∨ i = 2 ∨ i = 3 := by omega
      rcases this with rfl | rfl | rfl | rfl <;> simp <;> omega
    · rw [if_neg (by unfold Cov; omega), if_neg (by omega), if_neg (by omega), if_neg (by omega), if_neg (by omega)]
  · rw [List.getElem?_eq_none (by rw [covL_length]; omega), List.getElem?_eq_none (by simp; omega)]

/-- The nine cells of an index, one kind after the other. -/
theorem cov_place (c : Cf) (t q l lo lc sz n k : Nat) (ht : c.t = t) (hq : c.k = q) (hl : c.l = l) (h1 : lo = 4 + 4 * t) (h2 : lc = lo + q) (h3 : sz = lc + 4 * l) (hk : k < 9) :
    ((placesL ⟨c, 0, 1, 2, 3, 4, (lo : Nat), (lc : Nat), (sz : Nat)⟩ (n : Nat)).getD k 0 = -1 ∧ covL lo lc sz n (k + 1) = covL lo lc sz n k) ∨
    (∃ j : Nat, (placesL ⟨c, 0, 1, 2, 3, 4, (lo : Nat), (lc : Nat), (sz : Nat)⟩ (n : Nat)).getD k 0 = (j : Nat) ∧ j < sz ∧ (covL lo lc sz n k)[j]? = some 0 ∧ covL lo lc sz n (k + 1) = (covL lo lc sz n k).set j 1) := by
  have hk9 : k = 0 ∨ k = 1 ∨ k = 2 ∨ k = 3 ∨ k = 4 ∨ k = 5 ∨ k = 6 ∨ k = 7 ∨ k = 8 := by omega
  have hcase : (k < 4 ∧ n < t) ∨ (k < 4 ∧ ¬n < t) ∨ (k = 4 ∧ n < q) ∨ (k = 4 ∧ ¬n < q) ∨ (5 ≤ k ∧ n < l) ∨ (5 ≤ k ∧ ¬n < l) := by omega
  rcases hcase with ⟨a, b⟩ | ⟨a, b⟩ | ⟨a, b⟩ | ⟨a, b⟩ | ⟨a, b⟩ | ⟨a, b⟩
  · refine Or.inr ⟨4 + n * 4 + k, ?_, by omega, ?_⟩
    · have hk4 : k = 0 ∨ k = 1 ∨ k = 2 ∨ k = 3 := by omega
      rcases hk4 with rfl | rfl | rfl | rfl <;> (simp [placesL, atStatus, atStamp, atWake, atKarma, cellN]; omega)
    · exact covL_step _ _ _ _ _ _ (by omega) (by unfold Cov; omega) (fun i hi => by unfold Cov; omega)
  · refine Or.inl ⟨?_, covL_same _ _ _ _ _ _ _ (fun i hi => by unfold Cov; omega)⟩
    have hk4 : k = 0 ∨ k = 1 ∨ k = 2 ∨ k = 3 := by omega
    rcases hk4 with rfl | rfl | rfl | rfl <;> (simp [placesL, atStatus, atStamp, atWake, atKarma, cellN]; omega)
  · subst a
    refine Or.inr ⟨lo + n, ?_, by omega, ?_⟩
    · simp [placesL, atLock, cellN]; omega
    · exact covL_step _ _ _ _ _ _ (by omega) (by unfold Cov; omega) (fun i hi => by unfold Cov; omega)
  · subst a
    refine Or.inl ⟨?_, covL_same _ _ _ _ _ _ _ (fun i hi => by unfold Cov; omega)⟩
    simp [placesL, atLock, cellN]; omega
  · refine Or.inr ⟨lc + n * 4 + (k - 5), ?_, by omega, ?_⟩
    · have hk4 : k = 5 ∨ k = 6 ∨ k = 7 ∨ k = 8 := by omega
      rcases hk4 with rfl | rfl | rfl | rfl <;> (simp [placesL, atWord, atVal, atReaders, atWaiters, cellN]; omega)
    · exact covL_step _ _ _ _ _ _ (by omega) (by unfold Cov; omega) (fun i hi => by unfold Cov; omega)
  · refine Or.inl ⟨?_, covL_same _ _ _ _ _ _ _ (fun i hi => by unfold Cov; omega)⟩
    have hk4 : k = 5 ∨ k = 6 ∨ k = 7 ∨ k = 8 := by omega
    rcases hk4 with rfl | rfl | rfl | rfl <;> (simp [placesL, atWord, atVal, atReaders, atWaiters, cellN]; omega)

end Go.Proofs.Ytimjodpndhckdaa
