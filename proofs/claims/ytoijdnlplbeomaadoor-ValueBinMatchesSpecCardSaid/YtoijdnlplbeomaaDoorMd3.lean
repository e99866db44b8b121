
/-
  Layer 8: the remainder by the modulus is the remainder.
-/
import Derived.Test.YtoijdnlplbeomaaDoorMd2
namespace Go.Proofs.YtoijdnlplbeomaaDoor
open Go Go.RowKit EX
set_option maxRecDepth 100000
set_option linter.unusedVariables false
set_option linter.unusedSimpArgs false
theorem pe_ok {x y : Int} (h : x = y) : (pe x y).1 = (pe x y).2 := by simp [pe, h]
theorem pw_ok {p b : Bool} (h : p = b) : (pw p b).1 = (pw p b).2 := by simp [pw, h]
theorem p22 : (2 : Int) ^ 22 = 4194304 := by decide
theorem p32 : (2 : Int) ^ 32 = 4294967296 := by decide
theorem p42 : (2 : Int) ^ 42 = 4398046511104 := by decide
theorem eA {hi lo : Int} (h0 : 0 ≤ hi) (h1 : hi ≤ 65536) (l0 : 0 ≤ lo) (l1 : lo < 18446744073709551616) : wOr (wSl hi 22) (wSh lo 42) = hi * 4194304 + lo / 4398046511104 := by
  rw [wSl_eq, wSh_eq, p22, p42]
  have : (hi * 4194304) % 18446744073709551616 = hi * 4194304 := by omega
  rw [this]
  exact wOr_eq h0 (by omega) (by omega) (by omega)
theorem eL (lo : Int) : wSl lo 22 = (lo * 4194304) % 18446744073709551616 := by rw [wSl_eq, p22]
theorem eD (l : Int) : wSh l 32 = l / 4294967296 := by rw [wSh_eq, p32]
theorem eQ {v : Int} (h0 : 0 ≤ v) (h1 : v < 18446744073709551616) : wU (Int.tdiv v 2147483648) = v / 2147483648 := by
  rw [wU_eq, Int.tdiv_eq_ediv_of_nonneg h0]; omega
theorem eR {v : Int} (h0 : 0 ≤ v) (h1 : v < 18446744073709551616) : wU (v - wU (v / 2147483648 * 2147483648)) = v % 2147483648 := by
  rw [wU_eq, wU_eq]; omega
theorem eC {q r d : Int} (a : 0 ≤ q ∧ q ≤ 4294967296) (b : 0 ≤ r ∧ r < 4294967296) (c : 0 ≤ d ∧ d < 4294967296) : mCmp q r d = decide (q * 4194304 > 4294967296 * r + d) := by
  unfold mCmp
  rw [wU_eq, wU_eq, wU_eq]
  have e1 : (q * 4194304) % 18446744073709551616 = q * 4194304 := by omega
  have e2 : (4294967296 * r) % 18446744073709551616 = 4294967296 * r := by omega
  have e3 : (4294967296 * r + d) % 18446744073709551616 = 4294967296 * r + d := by omega
  rw [e1, e2, e3]
theorem eDec {q : Int} (a : 1 ≤ q ∧ q ≤ 4294967296) : mDec q = q - 1 := by unfold mDec; rw [wU_eq]; omega
theorem eInc {r : Int} (a : 0 ≤ r ∧ r < 4294967296) : mInc r = r + 2147483648 := by unfold mInc; rw [wU_eq]; omega
theorem eV {a d q : Int} (h0 : 0 ≤ a * 4294967296 + d - q * 9223372036858970112) (h1 : a * 4294967296 + d - q * 9223372036858970112 < 18446744073709551616) : mV a d q = a * 4294967296 + d - q * 9223372036858970112 := by
  unfold mV
  rw [wU_eq, wU_eq, wU_eq, wU_eq]; omega
theorem eX {a d q : Int} (h0 : 0 ≤ a * 4294967296 + d - q * 9223372036858970112) (h1 : a * 4294967296 + d - q * 9223372036858970112 < 18446744073709551616) : mRes a d q = (a * 4294967296 + d - q * 9223372036858970112) / 4194304 := by
  unfold mRes
  rw [wSh_eq, p22]
  have := eV h0 h1
  unfold mV at this
  rw [this]
theorem eB {x : Int} (b : Bool) (h : decide (x ≥ 4294967296) = b) : big x = b := h
theorem hyp_NN {hi lo H A L D E Q1 R1 V Q3 R3 X : Int} (h0 : 0 < hi) (h1 : hi ≤ 65536) (l0 : 0 ≤ lo) (l1 : lo < 18446744073709551616)
    (vH : H = hi) (vA : A = hi * 4194304 + lo / 4398046511104) (vL : L = (lo * 4194304) % 18446744073709551616) (vD : D = L / 4294967296) (vE : E = L % 4294967296) (vQ1 : Q1 = A / 2147483648) (vR1 : R1 = A % 2147483648)
    (k1 : ¬Q1 * 4194304 > 4294967296 * R1 + D)
    (vV : V = A * 4294967296 + D - Q1 * 9223372036858970112) (vQ3 : Q3 = V / 2147483648) (vR3 : R3 = V % 2147483648)
    (k3 : ¬Q3 ≥ 4294967296) (k4 : ¬Q3 * 4194304 > 4294967296 * R3 + E)
    (vX : X = (V * 4294967296 + E - Q3 * 9223372036858970112) / 4194304) : (∀ q ∈ csNN hi lo H A L D E Q1 R1 V Q3 R3 X, q.1 = q.2) ∧ X = (hi * 18446744073709551616 + lo) % 2199023255553 := by
  have bA : 0 ≤ A ∧ A < 274882101248 := by omega
  have bD : 0 ≤ D ∧ D < 4294967296 := by omega
  have bE : 0 ≤ E ∧ E < 4294967296 := by omega
  have bV : 0 ≤ V ∧ V < 9223372036858970112 := by omega
  have bX : 0 ≤ V * 4294967296 + E - Q3 * 9223372036858970112 ∧ V * 4294967296 + E - Q3 * 9223372036858970112 < 9223372036858970112 := by omega
  refine ⟨?_, by omega⟩
  intro q hq
  simp only [csNN, List.mem_cons, List.not_mem_nil, or_false] at hq
  rcases hq with rfl | rfl | rfl | rfl | rfl | rfl | rfl | rfl | rfl | rfl | rfl | rfl | rfl | rfl | rfl | rfl | rfl
  · exact pe_ok ((eX (by omega) (by omega)).trans vX.symm)
  · exact pw_ok (by rw [eC (by omega) (by omega) (by omega)]; simp only [decide_eq_false_iff_not, decide_eq_true_eq]; omega)
  · exact pw_ok (eB _ (by simp only [decide_eq_false_iff_not, decide_eq_true_eq]; omega))
  · exact pe_ok (by rw [vQ3, vR3]; exact eR (by omega) (by omega))
  · exact pe_ok ((eQ (by omega) (by omega)).trans vQ3.symm)
  · exact pe_ok ((eV (by omega) (by omega)).trans vV.symm)
  · exact pw_ok (by rw [eC (by omega) (by omega) (by omega)]; simp only [decide_eq_false_iff_not, decide_eq_true_eq]; omega)
  · exact pw_ok (eB _ (by simp only [decide_eq_false_iff_not, decide_eq_true_eq]; omega))
  · exact pe_ok (by rw [vQ1, vR1]; exact eR (by omega) (by omega))
  · exact pe_ok ((eQ (by omega) (by omega)).trans vQ1.symm)
  · exact pe_ok ((wAn_eq (by omega) (by omega)).trans vE.symm)
  · exact pe_ok ((eD L).trans vD.symm)
  · exact pe_ok ((eL lo).trans vL.symm)
  · exact pe_ok (by rw [vH]; exact (eA (by omega) h1 l0 l1).trans vA.symm)
  · exact pw_ok (by simp only [beq_eq_false_iff_ne, ne_eq]; omega)
  · exact pw_ok (by simp only [decide_eq_false_iff_not]; omega)
  · exact pe_ok (by rw [Int.tmod_eq_of_lt (by omega) (by omega)]; omega)
theorem hyp_NM {hi lo H A L D E Q1 R1 V Q3 R3 Q4 R4 X : Int} (h0 : 0 < hi) (h1 : hi ≤ 65536) (l0 : 0 ≤ lo) (l1 : lo < 18446744073709551616)
    (vH : H = hi) (vA : A = hi * 4194304 + lo / 4398046511104) (vL : L = (lo * 4194304) % 18446744073709551616) (vD : D = L / 4294967296) (vE : E = L % 4294967296) (vQ1 : Q1 = A / 2147483648) (vR1 : R1 = A % 2147483648)
    (k1 : ¬Q1 * 4194304 > 4294967296 * R1 + D)
    (vV : V = A * 4294967296 + D - Q1 * 9223372036858970112) (vQ3 : Q3 = V / 2147483648) (vR3 : R3 = V % 2147483648)
    (k3 : ¬Q3 ≥ 4294967296) (k4 : Q3 * 4194304 > 4294967296 * R3 + E) (vQ4 : Q4 = Q3 - 1) (vR4 : R4 = R3 + 2147483648)
    (vX : X = (V * 4294967296 + E - Q4 * 9223372036858970112) / 4194304) : (∀ q ∈ csNM hi lo H A L D E Q1 R1 V Q3 R3 Q4 R4 X, q.1 = q.2) ∧ X = (hi * 18446744073709551616 + lo) % 2199023255553 := by
  have bA : 0 ≤ A ∧ A < 274882101248 := by omega
  have bD : 0 ≤ D ∧ D < 4294967296 := by omega
  have bE : 0 ≤ E ∧ E < 4294967296 := by omega
  have bV : 0 ≤ V ∧ V < 9223372036858970112 := by omega
  have bX : 0 ≤ V * 4294967296 + E - Q4 * 9223372036858970112 ∧ V * 4294967296 + E - Q4 * 9223372036858970112 < 9223372036858970112 := by omega
  refine ⟨?_, by omega⟩
  intro q hq
  simp only [csNM, List.mem_cons, List.not_mem_nil, or_false] at hq
  rcases hq with rfl | rfl | rfl | rfl | rfl | rfl | rfl | rfl | rfl | rfl | rfl | rfl | rfl | rfl | rfl | rfl | rfl | rfl | rfl | rfl | rfl | rfl
  · exact pe_ok ((eX (by omega) (by omega)).trans vX.symm)
  · exact pw_ok (by rw [eC (by omega) (by omega) (by omega)]; simp only [decide_eq_false_iff_not, decide_eq_true_eq]; omega)
  · exact pw_ok (eB _ (by simp only [decide_eq_false_iff_not, decide_eq_true_eq]; omega))
  · exact pw_ok (eB _ (by simp only [decide_eq_false_iff_not, decide_eq_true_eq]; omega))
  · exact pe_ok ((eInc (by omega)).trans (by omega))
  · exact pe_ok ((eDec (by omega)).trans (by omega))
  · exact pw_ok (by rw [eC (by omega) (by omega) (by omega)]; simp only [decide_eq_false_iff_not, decide_eq_true_eq]; omega)
  · exact pw_ok (eB _ (by simp only [decide_eq_false_iff_not, decide_eq_true_eq]; omega))
  · exact pe_ok (by rw [vQ3, vR3]; exact eR (by omega) (by omega))
  · exact pe_ok ((eQ (by omega) (by omega)).trans vQ3.symm)
  · exact pe_ok ((eV (by omega) (by omega)).trans vV.symm)
  · exact pw_ok (by rw [eC (by omega) (by omega) (by omega)]; simp only [decide_eq_false_iff_not, decide_eq_true_eq]; omega)
  · exact pw_ok (eB _ (by simp only [decide_eq_false_iff_not, decide_eq_true_eq]; omega))
  · exact pe_ok (by rw [vQ1, vR1]; exact eR (by omega) (by omega))
  · exact pe_ok ((eQ (by omega) (by omega)).trans vQ1.symm)
  · exact pe_ok ((wAn_eq (by omega) (by omega)).trans vE.symm)
  · exact pe_ok ((eD L).trans vD.symm)
  · exact pe_ok ((eL lo).trans vL.symm)
  · exact pe_ok (by rw [vH]; exact (eA (by omega) h1 l0 l1).trans vA.symm)
  · exact pw_ok (by simp only [beq_eq_false_iff_ne, ne_eq]; omega)
  · exact pw_ok (by simp only [decide_eq_false_iff_not]; omega)
  · exact pe_ok (by rw [Int.tmod_eq_of_lt (by omega) (by omega)]; omega)
theorem hyp_NF {hi lo H A L D E Q1 R1 V Q3 R3 Q4 R4 X : Int} (h0 : 0 < hi) (h1 : hi ≤ 65536) (l0 : 0 ≤ lo) (l1 : lo < 18446744073709551616)
    (vH : H = hi) (vA : A = hi * 4194304 + lo / 4398046511104) (vL : L = (lo * 4194304) % 18446744073709551616) (vD : D = L / 4294967296) (vE : E = L % 4294967296) (vQ1 : Q1 = A / 2147483648) (vR1 : R1 = A % 2147483648)
    (k1 : ¬Q1 * 4194304 > 4294967296 * R1 + D)
    (vV : V = A * 4294967296 + D - Q1 * 9223372036858970112) (vQ3 : Q3 = V / 2147483648) (vR3 : R3 = V % 2147483648)
    (k3 : Q3 ≥ 4294967296) (vQ4 : Q4 = Q3 - 1) (vR4 : R4 = R3 + 2147483648)
    (vX : X = (V * 4294967296 + E - Q4 * 9223372036858970112) / 4194304) : (∀ q ∈ csNF hi lo H A L D E Q1 R1 V Q3 R3 Q4 R4 X, q.1 = q.2) ∧ X = (hi * 18446744073709551616 + lo) % 2199023255553 := by
  have bA : 0 ≤ A ∧ A < 274882101248 := by omega
  have bD : 0 ≤ D ∧ D < 4294967296 := by omega
  have bE : 0 ≤ E ∧ E < 4294967296 := by omega
  have bV : 0 ≤ V ∧ V < 9223372036858970112 := by omega
  have bX : 0 ≤ V * 4294967296 + E - Q4 * 9223372036858970112 ∧ V * 4294967296 + E - Q4 * 9223372036858970112 < 9223372036858970112 := by omega
  refine ⟨?_, by omega⟩
  intro q hq
  simp only [csNF, List.mem_cons, List.not_mem_nil, or_false] at hq
  rcases hq with rfl | rfl | rfl | rfl | rfl | rfl | rfl | rfl | rfl | rfl | rfl | rfl | rfl | rfl | rfl | rfl | rfl | rfl | rfl | rfl | rfl
  · exact pe_ok ((eX (by omega) (by omega)).trans vX.symm)
  · exact pw_ok (by rw [eC (by omega) (by omega) (by omega)]; simp only [decide_eq_false_iff_not, decide_eq_true_eq]; omega)
  · exact pw_ok (eB _ (by simp only [decide_eq_false_iff_not, decide_eq_true_eq]; omega))
  · exact pw_ok (eB _ (by simp only [decide_eq_false_iff_not, decide_eq_true_eq]; omega))
  · exact pe_ok ((eInc (by omega)).trans (by omega))
  · exact pe_ok ((eDec (by omega)).trans (by omega))
  · exact pw_ok (eB _ (by simp only [decide_eq_false_iff_not, decide_eq_true_eq]; omega))
  · exact pe_ok (by rw [vQ3, vR3]; exact eR (by omega) (by omega))
  · exact pe_ok ((eQ (by omega) (by omega)).trans vQ3.symm)
  · exact pe_ok ((eV (by omega) (by omega)).trans vV.symm)
  · exact pw_ok (by rw [eC (by omega) (by omega) (by omega)]; simp only [decide_eq_false_iff_not, decide_eq_true_eq]; omega)
  · exact pw_ok (eB _ (by simp only [decide_eq_false_iff_not, decide_eq_true_eq]; omega))
  · exact pe_ok (by rw [vQ1, vR1]; exact eR (by omega) (by omega))
  · exact pe_ok ((eQ (by omega) (by omega)).trans vQ1.symm)
  · exact pe_ok ((wAn_eq (by omega) (by omega)).trans vE.symm)
  · exact pe_ok ((eD L).trans vD.symm)
  · exact pe_ok ((eL lo).trans vL.symm)
  · exact pe_ok (by rw [vH]; exact (eA (by omega) h1 l0 l1).trans vA.symm)
  · exact pw_ok (by simp only [beq_eq_false_iff_ne, ne_eq]; omega)
  · exact pw_ok (by simp only [decide_eq_false_iff_not]; omega)
  · exact pe_ok (by rw [Int.tmod_eq_of_lt (by omega) (by omega)]; omega)
theorem hyp_MN {hi lo H A L D E Q1 R1 Q2 R2 V Q3 R3 X : Int} (h0 : 0 < hi) (h1 : hi ≤ 65536) (l0 : 0 ≤ lo) (l1 : lo < 18446744073709551616)
    (vH : H = hi) (vA : A = hi * 4194304 + lo / 4398046511104) (vL : L = (lo * 4194304) % 18446744073709551616) (vD : D = L / 4294967296) (vE : E = L % 4294967296) (vQ1 : Q1 = A / 2147483648) (vR1 : R1 = A % 2147483648)
    (k1 : Q1 * 4194304 > 4294967296 * R1 + D) (vQ2 : Q2 = Q1 - 1) (vR2 : R2 = R1 + 2147483648)
    (vV : V = A * 4294967296 + D - Q2 * 9223372036858970112) (vQ3 : Q3 = V / 2147483648) (vR3 : R3 = V % 2147483648)
    (k3 : ¬Q3 ≥ 4294967296) (k4 : ¬Q3 * 4194304 > 4294967296 * R3 + E)
    (vX : X = (V * 4294967296 + E - Q3 * 9223372036858970112) / 4194304) : (∀ q ∈ csMN hi lo H A L D E Q1 R1 Q2 R2 V Q3 R3 X, q.1 = q.2) ∧ X = (hi * 18446744073709551616 + lo) % 2199023255553 := by
  have bA : 0 ≤ A ∧ A < 274882101248 := by omega
  have bD : 0 ≤ D ∧ D < 4294967296 := by omega
  have bE : 0 ≤ E ∧ E < 4294967296 := by omega
  have bV : 0 ≤ V ∧ V < 9223372036858970112 := by omega
  have bX : 0 ≤ V * 4294967296 + E - Q3 * 9223372036858970112 ∧ V * 4294967296 + E - Q3 * 9223372036858970112 < 9223372036858970112 := by omega
  refine ⟨?_, by omega⟩
  intro q hq
  simp only [csMN, List.mem_cons, List.not_mem_nil, or_false] at hq
  rcases hq with rfl | rfl | rfl | rfl | rfl | rfl | rfl | rfl | rfl | rfl | rfl | rfl | rfl | rfl | rfl | rfl | rfl | rfl | rfl | rfl | rfl | rfl
  · exact pe_ok ((eX (by omega) (by omega)).trans vX.symm)
  · exact pw_ok (by rw [eC (by omega) (by omega) (by omega)]; simp only [decide_eq_false_iff_not, decide_eq_true_eq]; omega)
  · exact pw_ok (eB _ (by simp only [decide_eq_false_iff_not, decide_eq_true_eq]; omega))
  · exact pe_ok (by rw [vQ3, vR3]; exact eR (by omega) (by omega))
  · exact pe_ok ((eQ (by omega) (by omega)).trans vQ3.symm)
  · exact pe_ok ((eV (by omega) (by omega)).trans vV.symm)
  · exact pw_ok (by rw [eC (by omega) (by omega) (by omega)]; simp only [decide_eq_false_iff_not, decide_eq_true_eq]; omega)
  · exact pw_ok (eB _ (by simp only [decide_eq_false_iff_not, decide_eq_true_eq]; omega))
  · exact pw_ok (eB _ (by simp only [decide_eq_false_iff_not, decide_eq_true_eq]; omega))
  · exact pe_ok ((eInc (by omega)).trans (by omega))
  · exact pe_ok ((eDec (by omega)).trans (by omega))
  · exact pw_ok (by rw [eC (by omega) (by omega) (by omega)]; simp only [decide_eq_false_iff_not, decide_eq_true_eq]; omega)
  · exact pw_ok (eB _ (by simp only [decide_eq_false_iff_not, decide_eq_true_eq]; omega))
  · exact pe_ok (by rw [vQ1, vR1]; exact eR (by omega) (by omega))
  · exact pe_ok ((eQ (by omega) (by omega)).trans vQ1.symm)
  · exact pe_ok ((wAn_eq (by omega) (by omega)).trans vE.symm)
  · exact pe_ok ((eD L).trans vD.symm)
  · exact pe_ok ((eL lo).trans vL.symm)
  · exact pe_ok (by rw [vH]; exact (eA (by omega) h1 l0 l1).trans vA.symm)
  · exact pw_ok (by simp only [beq_eq_false_iff_ne, ne_eq]; omega)
  · exact pw_ok (by simp only [decide_eq_false_iff_not]; omega)
  · exact pe_ok (by rw [Int.tmod_eq_of_lt (by omega) (by omega)]; omega)
theorem hyp_MM {hi lo H A L D E Q1 R1 Q2 R2 V Q3 R3 Q4 R4 X : Int} (h0 : 0 < hi) (h1 : hi ≤ 65536) (l0 : 0 ≤ lo) (l1 : lo < 18446744073709551616)
    (vH : H = hi) (vA : A = hi * 4194304 + lo / 4398046511104) (vL : L = (lo * 4194304) % 18446744073709551616) (vD : D = L / 4294967296) (vE : E = L % 4294967296) (vQ1 : Q1 = A / 2147483648) (vR1 : R1 = A % 2147483648)
    (k1 : Q1 * 4194304 > 4294967296 * R1 + D) (vQ2 : Q2 = Q1 - 1) (vR2 : R2 = R1 + 2147483648)
    (vV : V = A * 4294967296 + D - Q2 * 9223372036858970112) (vQ3 : Q3 = V / 2147483648) (vR3 : R3 = V % 2147483648)
    (k3 : ¬Q3 ≥ 4294967296) (k4 : Q3 * 4194304 > 4294967296 * R3 + E) (vQ4 : Q4 = Q3 - 1) (vR4 : R4 = R3 + 2147483648)
    (vX : X = (V * 4294967296 + E - Q4 * 9223372036858970112) / 4194304) : (∀ q ∈ csMM hi lo H A L D E Q1 R1 Q2 R2 V Q3 R3 Q4 R4 X, q.1 = q.2) ∧ X = (hi * 18446744073709551616 + lo) % 2199023255553 := by
  have bA : 0 ≤ A ∧ A < 274882101248 := by omega
  have bD : 0 ≤ D ∧ D < 4294967296 := by omega
  have bE : 0 ≤ E ∧ E < 4294967296 := by omega
  have bV : 0 ≤ V ∧ V < 9223372036858970112 := by omega
  have bX : 0 ≤ V * 4294967296 + E - Q4 * 9223372036858970112 ∧ V * 4294967296 + E - Q4 * 9223372036858970112 < 9223372036858970112 := by omega
  refine ⟨?_, by omega⟩
  intro q hq
  simp only [csMM, List.mem_cons, List.not_mem_nil, or_false] at hq
  rcases hq with rfl | rfl | rfl | rfl | rfl | rfl | rfl | rfl | rfl | rfl | rfl | rfl | rfl | rfl | rfl | rfl | rfl | rfl | rfl | rfl | rfl | rfl | rfl | rfl | rfl | rfl | rfl
  · exact pe_ok ((eX (by omega) (by omega)).trans vX.symm)
  · exact pw_ok (by rw [eC (by omega) (by omega) (by omega)]; simp only [decide_eq_false_iff_not, decide_eq_true_eq]; omega)
  · exact pw_ok (eB _ (by simp only [decide_eq_false_iff_not, decide_eq_true_eq]; omega))
  · exact pw_ok (eB _ (by simp only [decide_eq_false_iff_not, decide_eq_true_eq]; omega))
  · exact pe_ok ((eInc (by omega)).trans (by omega))
  · exact pe_ok ((eDec (by omega)).trans (by omega))
  · exact pw_ok (by rw [eC (by omega) (by omega) (by omega)]; simp only [decide_eq_false_iff_not, decide_eq_true_eq]; omega)
  · exact pw_ok (eB _ (by simp only [decide_eq_false_iff_not, decide_eq_true_eq]; omega))
  · exact pe_ok (by rw [vQ3, vR3]; exact eR (by omega) (by omega))
  · exact pe_ok ((eQ (by omega) (by omega)).trans vQ3.symm)
  · exact pe_ok ((eV (by omega) (by omega)).trans vV.symm)
  · exact pw_ok (by rw [eC (by omega) (by omega) (by omega)]; simp only [decide_eq_false_iff_not, decide_eq_true_eq]; omega)
  · exact pw_ok (eB _ (by simp only [decide_eq_false_iff_not, decide_eq_true_eq]; omega))
  · exact pw_ok (eB _ (by simp only [decide_eq_false_iff_not, decide_eq_true_eq]; omega))
  · exact pe_ok ((eInc (by omega)).trans (by omega))
  · exact pe_ok ((eDec (by omega)).trans (by omega))
  · exact pw_ok (by rw [eC (by omega) (by omega) (by omega)]; simp only [decide_eq_false_iff_not, decide_eq_true_eq]; omega)
  · exact pw_ok (eB _ (by simp only [decide_eq_false_iff_not, decide_eq_true_eq]; omega))
  · exact pe_ok (by rw [vQ1, vR1]; exact eR (by omega) (by omega))
  · exact pe_ok ((eQ (by omega) (by omega)).trans vQ1.symm)
  · exact pe_ok ((wAn_eq (by omega) (by omega)).trans vE.symm)
  · exact pe_ok ((eD L).trans vD.symm)
  · exact pe_ok ((eL lo).trans vL.symm)
  · exact pe_ok (by rw [vH]; exact (eA (by omega) h1 l0 l1).trans vA.symm)
  · exact pw_ok (by simp only [beq_eq_false_iff_ne, ne_eq]; omega)
  · exact pw_ok (by simp only [decide_eq_false_iff_not]; omega)
  · exact pe_ok (by rw [Int.tmod_eq_of_lt (by omega) (by omega)]; omega)
theorem hyp_MF {hi lo H A L D E Q1 R1 Q2 R2 V Q3 R3 Q4 R4 X : Int} (h0 : 0 < hi) (h1 : hi ≤ 65536) (l0 : 0 ≤ lo) (l1 : lo < 18446744073709551616)
    (vH : H = hi) (vA : A = hi * 4194304 + lo / 4398046511104) (vL : L = (lo * 4194304) % 18446744073709551616) (vD : D = L / 4294967296) (vE : E = L % 4294967296) (vQ1 : Q1 = A / 2147483648) (vR1 : R1 = A % 2147483648)
    (k1 : Q1 * 4194304 > 4294967296 * R1 + D) (vQ2 : Q2 = Q1 - 1) (vR2 : R2 = R1 + 2147483648)
    (vV : V = A * 4294967296 + D - Q2 * 9223372036858970112) (vQ3 : Q3 = V / 2147483648) (vR3 : R3 = V % 2147483648)
    (k3 : Q3 ≥ 4294967296) (vQ4 : Q4 = Q3 - 1) (vR4 : R4 = R3 + 2147483648)
    (vX : X = (V * 4294967296 + E - Q4 * 9223372036858970112) / 4194304) : (∀ q ∈ csMF hi lo H A L D E Q1 R1 Q2 R2 V Q3 R3 Q4 R4 X, q.1 = q.2) ∧ X = (hi * 18446744073709551616 + lo) % 2199023255553 := by
  have bA : 0 ≤ A ∧ A < 274882101248 := by omega
  have bD : 0 ≤ D ∧ D < 4294967296 := by omega
  have bE : 0 ≤ E ∧ E < 4294967296 := by omega
  have bV : 0 ≤ V ∧ V < 9223372036858970112 := by omega
  have bX : 0 ≤ V * 4294967296 + E - Q4 * 9223372036858970112 ∧ V * 4294967296 + E - Q4 * 9223372036858970112 < 9223372036858970112 := by omega
  refine ⟨?_, by omega⟩
  intro q hq
  simp only [csMF, List.mem_cons, List.not_mem_nil, or_false] at hq
  rcases hq with rfl | rfl | rfl | rfl | rfl | rfl | rfl | rfl | rfl | rfl | rfl | rfl | rfl | rfl | rfl | rfl | rfl | rfl | rfl | rfl | rfl | rfl | rfl | rfl | rfl | rfl
  · exact pe_ok ((eX (by omega) (by omega)).trans vX.symm)
  · exact pw_ok (by rw [eC (by omega) (by omega) (by omega)]; simp only [decide_eq_false_iff_not, decide_eq_true_eq]; omega)
  · exact pw_ok (eB _ (by simp only [decide_eq_false_iff_not, decide_eq_true_eq]; omega))
  · exact pw_ok (eB _ (by simp only [decide_eq_false_iff_not, decide_eq_true_eq]; omega))
  · exact pe_ok ((eInc (by omega)).trans (by omega))
  · exact pe_ok ((eDec (by omega)).trans (by omega))
  · exact pw_ok (eB _ (by simp only [decide_eq_false_iff_not, decide_eq_true_eq]; omega))
  · exact pe_ok (by rw [vQ3, vR3]; exact eR (by omega) (by omega))
  · exact pe_ok ((eQ (by omega) (by omega)).trans vQ3.symm)
  · exact pe_ok ((eV (by omega) (by omega)).trans vV.symm)
  · exact pw_ok (by rw [eC (by omega) (by omega) (by omega)]; simp only [decide_eq_false_iff_not, decide_eq_true_eq]; omega)
  · exact pw_ok (eB _ (by simp only [decide_eq_false_iff_not, decide_eq_true_eq]; omega))
  · exact pw_ok (eB _ (by simp only [decide_eq_false_iff_not, decide_eq_true_eq]; omega))
  · exact pe_ok ((eInc (by omega)).trans (by omega))
  · exact pe_ok ((eDec (by omega)).trans (by omega))
  · exact pw_ok (by rw [eC (by omega) (by omega) (by omega)]; simp only [decide_eq_false_iff_not, decide_eq_true_eq]; omega)
  · exact pw_ok (eB _ (by simp only [decide_eq_false_iff_not, decide_eq_true_eq]; omega))
  · exact pe_ok (by rw [vQ1, vR1]; exact eR (by omega) (by omega))
  · exact pe_ok ((eQ (by omega) (by omega)).trans vQ1.symm)
  · exact pe_ok ((wAn_eq (by omega) (by omega)).trans vE.symm)
  · exact pe_ok ((eD L).trans vD.symm)
  · exact pe_ok ((eL lo).trans vL.symm)
  · exact pe_ok (by rw [vH]; exact (eA (by omega) h1 l0 l1).trans vA.symm)
  · exact pw_ok (by simp only [beq_eq_false_iff_ne, ne_eq]; omega)
  · exact pw_ok (by simp only [decide_eq_false_iff_not]; omega)
  · exact pe_ok (by rw [Int.tmod_eq_of_lt (by omega) (by omega)]; omega)
/-- bits.Rem64 by the modulus. -/
theorem rem_any (w : World) (hi lo : Int) (h0 : 0 ≤ hi) (h1 : hi ≤ 65536) (l0 : 0 ≤ lo) (l1 : lo < 18446744073709551616) : Calls Tryd.prog REM #[.int .u64 hi, .int .u64 lo, .int .u64 2199023255553] w fun e w' => e = .returned (.int .u64 ((hi * 18446744073709551616 + lo) % 2199023255553)) ∧ Below w.heap.size w w' := by
  by_cases hz : hi = 0
  · subst hz
    refine (rem_0 w 0 lo ?_).mono fun e w' ⟨e1, e2⟩ => ⟨?_, e2⟩
    · intro q hq
      simp only [csZ, List.mem_cons, List.not_mem_nil, or_false] at hq
      rcases hq with rfl | rfl <;> simp [pw, mH]
    · rw [e1, Int.tmod_eq_emod_of_nonneg l0]
      congr 2
      omega
  · have hp : 0 < hi := by omega
    obtain ⟨A, vA⟩ : ∃ A, A = hi * 4194304 + lo / 4398046511104 := ⟨_, rfl⟩
    obtain ⟨L, vL⟩ : ∃ L, L = (lo * 4194304) % 18446744073709551616 := ⟨_, rfl⟩
    obtain ⟨D, vD⟩ : ∃ D, D = L / 4294967296 := ⟨_, rfl⟩
    obtain ⟨E, vE⟩ : ∃ E, E = L % 4294967296 := ⟨_, rfl⟩
    obtain ⟨Q1, vQ1⟩ : ∃ Q1, Q1 = A / 2147483648 := ⟨_, rfl⟩
    obtain ⟨R1, vR1⟩ : ∃ R1, R1 = A % 2147483648 := ⟨_, rfl⟩
    by_cases k1 : Q1 * 4194304 > 4294967296 * R1 + D
    · obtain ⟨V, vV⟩ : ∃ V, V = A * 4294967296 + D - (Q1 - 1) * 9223372036858970112 := ⟨_, rfl⟩
      by_cases k3 : V / 2147483648 ≥ 4294967296
      · obtain ⟨c1, c2⟩ := hyp_MF hp h1 l0 l1 rfl vA vL vD vE vQ1 vR1 k1 rfl rfl vV rfl rfl k3 rfl rfl rfl
        exact c2 ▸ rem_MF w hi lo _ _ _ _ _ _ _ _ _ _ _ _ _ _ _ c1
      · by_cases k4 : V / 2147483648 * 4194304 > 4294967296 * (V % 2147483648) + E
        · obtain ⟨c1, c2⟩ := hyp_MM hp h1 l0 l1 rfl vA vL vD vE vQ1 vR1 k1 rfl rfl vV rfl rfl k3 k4 rfl rfl rfl
          exact c2 ▸ rem_MM w hi lo _ _ _ _ _ _ _ _ _ _ _ _ _ _ _ c1
        · obtain ⟨c1, c2⟩ := hyp_MN hp h1 l0 l1 rfl vA vL vD vE vQ1 vR1 k1 rfl rfl vV rfl rfl k3 k4 rfl
          exact c2 ▸ rem_MN w hi lo _ _ _ _ _ _ _ _ _ _ _ _ _ c1
    · obtain ⟨V, vV⟩ : ∃ V, V = A * 4294967296 + D - Q1 * 9223372036858970112 := ⟨_, rfl⟩
      by_cases k3 : V / 2147483648 ≥ 4294967296
      · obtain ⟨c1, c2⟩ := hyp_NF hp h1 l0 l1 rfl vA vL vD vE vQ1 vR1 k1 vV rfl rfl k3 rfl rfl rfl
        exact c2 ▸ rem_NF w hi lo _ _ _ _ _ _ _ _ _ _ _ _ _ c1
      · by_cases k4 : V / 2147483648 * 4194304 > 4294967296 * (V % 2147483648) + E
        · obtain ⟨c1, c2⟩ := hyp_NM hp h1 l0 l1 rfl vA vL vD vE vQ1 vR1 k1 vV rfl rfl k3 k4 rfl rfl rfl
          exact c2 ▸ rem_NM w hi lo _ _ _ _ _ _ _ _ _ _ _ _ _ c1
        · obtain ⟨c1, c2⟩ := hyp_NN hp h1 l0 l1 rfl vA vL vD vE vQ1 vR1 k1 vV rfl rfl k3 k4 rfl
          exact c2 ▸ rem_NN w hi lo _ _ _ _ _ _ _ _ _ _ _ c1
end Go.Proofs.YtoijdnlplbeomaaDoor
