/-
  Merged: AoX
-/
import Derived.Test.YtdfngmplfgifiaaPa18
import Derived.Test.YtdfngmplfgifiaaPa19
import Derived.Test.YtdfngmplfgifiaaPa20
import Derived.Test.YtdfngmplfgifiaaPa21
import Derived.Test.YtdfngmplfgifiaaPa22
import Derived.Test.YtdfngmplfgifiaaPa23
import Derived.Test.YtdfngmplfgifiaaPa24
import Derived.Test.YtdfngmplfgifiaaPa25
import Derived.Test.YtdfngmplfgifiaaPa26

/-
  Layer 20: AbstractOutcome.
-/
namespace Go.Proofs.Ytdfngmplfgifiaa
open Go Go.RowKit
set_option maxRecDepth 100000
set_option linter.unusedVariables false
set_option linter.unusedSimpArgs false
theorem ch_t {m b : Ct} : chooseD 0 m ⟨b.s, b.k, 1⟩ = 1 := rfl
theorem ch_ga {m b : Ct} (hlt : decide (m.s < b.s) = true) : chooseD 1 m ⟨b.s, b.k, 1⟩ = 2 := by
  exact chooseD_t (by rw [ahead_1]; exact hlt)
theorem ch_gn {m b : Ct} (hlt : decide (m.s < b.s) = false) : chooseD 1 m ⟨b.s, b.k, 1⟩ = 1 := by
  exact chooseD_f (by rw [ahead_1]; exact hlt)
theorem ch_ka {m b : Ct} (hgt : decide (m.k > b.k) = true) : chooseD 2 m ⟨b.s, b.k, 1⟩ = 2 := by
  refine chooseD_t ?_
  rw [ahead_2]
  unfold karmaB
  have g := of_decide_eq_true hgt
  rw [if_neg (show ¬ m.k = b.k by omega)]
  exact hgt
theorem ch_kb {m b : Ct} (hgt : decide (m.k > b.k) = false) (heq : decide (m.k = b.k) = true) (hlt : decide (m.s < b.s) = true) : chooseD 2 m ⟨b.s, b.k, 1⟩ = 2 := by
  refine chooseD_t ?_
  rw [ahead_2]
  unfold karmaB
  rw [if_pos (of_decide_eq_true heq)]
  exact hlt
theorem ch_kn {m b : Ct} (hgt : decide (m.k > b.k) = false) (heq : decide (m.k = b.k) = true) (hlt : decide (m.s < b.s) = false) : chooseD 2 m ⟨b.s, b.k, 1⟩ = 1 := by
  refine chooseD_f ?_
  rw [ahead_2]
  unfold karmaB
  rw [if_pos (of_decide_eq_true heq)]
  exact hlt
theorem ch_km {m b : Ct} (hgt : decide (m.k > b.k) = false) (heq : decide (m.k = b.k) = false) : chooseD 2 m ⟨b.s, b.k, 1⟩ = 1 := by
  refine chooseD_f ?_
  rw [ahead_2]
  unfold karmaB
  rw [if_neg (of_decide_eq_false heq)]
  exact hgt
theorem ch_ma {m b : Ct} (hab : decide (m.a > 1) = true) (hlt : decide (m.s < b.s) = true) : chooseD 3 m ⟨b.s, b.k, 1⟩ = 2 := by
  refine chooseD_t ?_
  rw [ahead_3]
  unfold mixedB
  have g := of_decide_eq_true hab
  rw [show decide (m.s < b.s) = true from hlt, decide_eq_true (show 2 ≤ m.a by omega)]
  rfl
theorem ch_mn {m b : Ct} (hab : decide (m.a > 1) = true) (hlt : decide (m.s < b.s) = false) : chooseD 3 m ⟨b.s, b.k, 1⟩ = 1 := by
  refine chooseD_f ?_
  rw [ahead_3]
  unfold mixedB
  rw [show decide (m.s < b.s) = false from hlt, Bool.and_false]
theorem ch_mm {m b : Ct} (hab : decide (m.a > 1) = false) : chooseD 3 m ⟨b.s, b.k, 1⟩ = 1 := by
  refine chooseD_f ?_
  rw [ahead_3]
  unfold mixedB
  have g := of_decide_eq_false hab
  rw [decide_eq_false (show ¬ 2 ≤ m.a by omega)]
  rfl
theorem aoc_00 (w : World) (q lk by_ : Int) (hq : 0 ≤ q ∧ q ≤ 255) (m b : Ct) (h1 : I64 b.s) (h2 : I64 b.k) (e2 : (IntKind.i64.wrap (Int.tmod lk 3)) = 0) (e3 : (IntKind.i64.wrap (Int.tmod by_ 4)) = 0) (d : Bool) : Calls Try.prog 10 #[.int .u8 q, .int .u8 lk, .int .u8 by_, .agg #[.int .i64 m.s, .int .i64 m.k, .int .i64 m.a], .agg #[.int .i64 b.s, .int .i64 b.k, .int .i64 b.a], .bool d] w fun e w' => e = .returned (.bool true) ∧ Below w.heap.size w w' := by
  obtain ⟨e1, q1, q2⟩ := mod_in q 4 (by omega) hq
  have hk : Int.tmod q 4 = q % 4 := Int.tmod_eq_emod_of_nonneg hq.1
  obtain ⟨kq, hkq⟩ : ∃ kq, kq = q % 4 := ⟨_, rfl⟩
  rw [← hkq] at e1 q1 q2 hk
  have hq3 : 0 ≤ kq ∧ kq ≤ 3 := ⟨q1, by omega⟩
  cases d with
  | false => exact ao_f0f q lk by_ kq 0 m b hq3 e1 e2 e3 h1 h2 w
  | true => exact ao_f0t q lk by_ kq 0 m b hq3 e1 e2 e3 h1 h2 w
theorem aoc_01 (w : World) (q lk by_ : Int) (hq : 0 ≤ q ∧ q ≤ 255) (m b : Ct) (h1 : I64 b.s) (h2 : I64 b.k) (e2 : (IntKind.i64.wrap (Int.tmod lk 3)) = 0) (e3 : (IntKind.i64.wrap (Int.tmod by_ 4)) = 1) (d : Bool) : Calls Try.prog 10 #[.int .u8 q, .int .u8 lk, .int .u8 by_, .agg #[.int .i64 m.s, .int .i64 m.k, .int .i64 m.a], .agg #[.int .i64 b.s, .int .i64 b.k, .int .i64 b.a], .bool d] w fun e w' => e = .returned (.bool true) ∧ Below w.heap.size w w' := by
  obtain ⟨e1, q1, q2⟩ := mod_in q 4 (by omega) hq
  have hk : Int.tmod q 4 = q % 4 := Int.tmod_eq_emod_of_nonneg hq.1
  obtain ⟨kq, hkq⟩ : ∃ kq, kq = q % 4 := ⟨_, rfl⟩
  rw [← hkq] at e1 q1 q2 hk
  have hq3 : 0 ≤ kq ∧ kq ≤ 3 := ⟨q1, by omega⟩
  cases d with
  | false => exact ao_o0f q lk by_ kq 0 m b hq3 e1 e2 e3 h1 h2 w
  | true => exact ao_o0t q lk by_ kq 0 m b hq3 e1 e2 e3 h1 h2 w
theorem aoc_02 (w : World) (q lk by_ : Int) (hq : 0 ≤ q ∧ q ≤ 255) (m b : Ct) (h1 : I64 b.s) (h2 : I64 b.k) (e2 : (IntKind.i64.wrap (Int.tmod lk 3)) = 0) (e3 : (IntKind.i64.wrap (Int.tmod by_ 4)) = 2) (d : Bool) : Calls Try.prog 10 #[.int .u8 q, .int .u8 lk, .int .u8 by_, .agg #[.int .i64 m.s, .int .i64 m.k, .int .i64 m.a], .agg #[.int .i64 b.s, .int .i64 b.k, .int .i64 b.a], .bool d] w fun e w' => e = .returned (.bool true) ∧ Below w.heap.size w w' := by
  obtain ⟨e1, q1, q2⟩ := mod_in q 4 (by omega) hq
  have hk : Int.tmod q 4 = q % 4 := Int.tmod_eq_emod_of_nonneg hq.1
  obtain ⟨kq, hkq⟩ : ∃ kq, kq = q % 4 := ⟨_, rfl⟩
  rw [← hkq] at e1 q1 q2 hk
  have hq3 : 0 ≤ kq ∧ kq ≤ 3 := ⟨q1, by omega⟩
  have h4 : kq = 0 ∨ kq = 1 ∨ kq = 2 ∨ kq = 3 := by omega
  rcases h4 with rfl | rfl | rfl | rfl
  · cases d with
    | true => exact ao_d02t q lk by_ 0 0 m b hq3 e1 e2 e3 h1 h2 hk  w
    | false => exact ao_l02t q lk by_ 0 m b hq3 e1 e2 e3 h1 h2 hk  (ch_t) w
  · skip
    cases hlt : decide (m.s < b.s) with
    | true =>
      cases d with
      | true => exact ao_d02ga q lk by_ 1 0 m b hq3 e1 e2 e3 h1 h2 hk hlt w
      | false => exact ao_w02ga q lk by_ 1 m b hq3 e1 e2 e3 h1 h2 hk hlt (ch_ga hlt) w
    | false =>
      cases d with
      | true => exact ao_d02gn q lk by_ 1 0 m b hq3 e1 e2 e3 h1 h2 hk hlt w
      | false => exact ao_l02gn q lk by_ 1 m b hq3 e1 e2 e3 h1 h2 hk hlt (ch_gn hlt) w
  · skip
    cases hgt : decide (m.k > b.k) with
    | true =>
      cases d with
      | true => exact ao_d02ka q lk by_ 2 0 m b hq3 e1 e2 e3 h1 h2 hk hgt w
      | false => exact ao_w02ka q lk by_ 2 m b hq3 e1 e2 e3 h1 h2 hk hgt (ch_ka hgt) w
    | false =>
      cases heq : decide (m.k = b.k) with
      | true =>
        cases hlt : decide (m.s < b.s) with
        | true =>
          cases d with
          | true => exact ao_d02kb q lk by_ 2 0 m b hq3 e1 e2 e3 h1 h2 hk hgt heq hlt w
          | false => exact ao_w02kb q lk by_ 2 m b hq3 e1 e2 e3 h1 h2 hk hgt heq hlt (ch_kb hgt heq hlt) w
        | false =>
          cases d with
          | true => exact ao_d02kn q lk by_ 2 0 m b hq3 e1 e2 e3 h1 h2 hk hgt heq hlt w
          | false => exact ao_l02kn q lk by_ 2 m b hq3 e1 e2 e3 h1 h2 hk hgt heq hlt (ch_kn hgt heq hlt) w
      | false =>
        cases d with
        | true => exact ao_d02km q lk by_ 2 0 m b hq3 e1 e2 e3 h1 h2 hk hgt heq w
        | false => exact ao_l02km q lk by_ 2 m b hq3 e1 e2 e3 h1 h2 hk hgt heq (ch_km hgt heq) w
  · skip
    cases hab : decide (m.a > 1) with
    | true =>
      cases hlt : decide (m.s < b.s) with
      | true =>
        cases d with
        | true => exact ao_d02ma q lk by_ 3 0 m b hq3 e1 e2 e3 h1 h2 hk hab hlt w
        | false => exact ao_w02ma q lk by_ 3 m b hq3 e1 e2 e3 h1 h2 hk hab hlt (ch_ma hab hlt) w
      | false =>
        cases d with
        | true => exact ao_d02mn q lk by_ 3 0 m b hq3 e1 e2 e3 h1 h2 hk hab hlt w
        | false => exact ao_l02mn q lk by_ 3 m b hq3 e1 e2 e3 h1 h2 hk hab hlt (ch_mn hab hlt) w
    | false =>
      cases d with
      | true => exact ao_d02mm q lk by_ 3 0 m b hq3 e1 e2 e3 h1 h2 hk hab w
      | false => exact ao_l02mm q lk by_ 3 m b hq3 e1 e2 e3 h1 h2 hk hab (ch_mm hab) w
theorem aoc_03 (w : World) (q lk by_ : Int) (hq : 0 ≤ q ∧ q ≤ 255) (m b : Ct) (h1 : I64 b.s) (h2 : I64 b.k) (e2 : (IntKind.i64.wrap (Int.tmod lk 3)) = 0) (e3 : (IntKind.i64.wrap (Int.tmod by_ 4)) = 3) (d : Bool) : Calls Try.prog 10 #[.int .u8 q, .int .u8 lk, .int .u8 by_, .agg #[.int .i64 m.s, .int .i64 m.k, .int .i64 m.a], .agg #[.int .i64 b.s, .int .i64 b.k, .int .i64 b.a], .bool d] w fun e w' => e = .returned (.bool true) ∧ Below w.heap.size w w' := by
  obtain ⟨e1, q1, q2⟩ := mod_in q 4 (by omega) hq
  have hk : Int.tmod q 4 = q % 4 := Int.tmod_eq_emod_of_nonneg hq.1
  obtain ⟨kq, hkq⟩ : ∃ kq, kq = q % 4 := ⟨_, rfl⟩
  rw [← hkq] at e1 q1 q2 hk
  have hq3 : 0 ≤ kq ∧ kq ≤ 3 := ⟨q1, by omega⟩
  have h4 : kq = 0 ∨ kq = 1 ∨ kq = 2 ∨ kq = 3 := by omega
  rcases h4 with rfl | rfl | rfl | rfl
  · cases d with
    | true => exact ao_d03t q lk by_ 0 0 m b hq3 e1 e2 e3 h1 h2 hk  w
    | false => exact ao_l03t q lk by_ 0 m b hq3 e1 e2 e3 h1 h2 hk  (ch_t) w
  · skip
    cases hlt : decide (m.s < b.s) with
    | true =>
      cases d with
      | true => exact ao_d03ga q lk by_ 1 0 m b hq3 e1 e2 e3 h1 h2 hk hlt w
      | false => exact ao_w03ga q lk by_ 1 m b hq3 e1 e2 e3 h1 h2 hk hlt (ch_ga hlt) w
    | false =>
      cases d with
      | true => exact ao_d03gn q lk by_ 1 0 m b hq3 e1 e2 e3 h1 h2 hk hlt w
      | false => exact ao_l03gn q lk by_ 1 m b hq3 e1 e2 e3 h1 h2 hk hlt (ch_gn hlt) w
  · skip
    cases hgt : decide (m.k > b.k) with
    | true =>
      cases d with
      | true => exact ao_d03ka q lk by_ 2 0 m b hq3 e1 e2 e3 h1 h2 hk hgt w
      | false => exact ao_w03ka q lk by_ 2 m b hq3 e1 e2 e3 h1 h2 hk hgt (ch_ka hgt) w
    | false =>
      cases heq : decide (m.k = b.k) with
      | true =>
        cases hlt : decide (m.s < b.s) with
        | true =>
          cases d with
          | true => exact ao_d03kb q lk by_ 2 0 m b hq3 e1 e2 e3 h1 h2 hk hgt heq hlt w
          | false => exact ao_w03kb q lk by_ 2 m b hq3 e1 e2 e3 h1 h2 hk hgt heq hlt (ch_kb hgt heq hlt) w
        | false =>
          cases d with
          | true => exact ao_d03kn q lk by_ 2 0 m b hq3 e1 e2 e3 h1 h2 hk hgt heq hlt w
          | false => exact ao_l03kn q lk by_ 2 m b hq3 e1 e2 e3 h1 h2 hk hgt heq hlt (ch_kn hgt heq hlt) w
      | false =>
        cases d with
        | true => exact ao_d03km q lk by_ 2 0 m b hq3 e1 e2 e3 h1 h2 hk hgt heq w
        | false => exact ao_l03km q lk by_ 2 m b hq3 e1 e2 e3 h1 h2 hk hgt heq (ch_km hgt heq) w
  · skip
    cases hab : decide (m.a > 1) with
    | true =>
      cases hlt : decide (m.s < b.s) with
      | true =>
        cases d with
        | true => exact ao_d03ma q lk by_ 3 0 m b hq3 e1 e2 e3 h1 h2 hk hab hlt w
        | false => exact ao_w03ma q lk by_ 3 m b hq3 e1 e2 e3 h1 h2 hk hab hlt (ch_ma hab hlt) w
      | false =>
        cases d with
        | true => exact ao_d03mn q lk by_ 3 0 m b hq3 e1 e2 e3 h1 h2 hk hab hlt w
        | false => exact ao_l03mn q lk by_ 3 m b hq3 e1 e2 e3 h1 h2 hk hab hlt (ch_mn hab hlt) w
    | false =>
      cases d with
      | true => exact ao_d03mm q lk by_ 3 0 m b hq3 e1 e2 e3 h1 h2 hk hab w
      | false => exact ao_l03mm q lk by_ 3 m b hq3 e1 e2 e3 h1 h2 hk hab (ch_mm hab) w
theorem aoc_10 (w : World) (q lk by_ : Int) (hq : 0 ≤ q ∧ q ≤ 255) (m b : Ct) (h1 : I64 b.s) (h2 : I64 b.k) (e2 : (IntKind.i64.wrap (Int.tmod lk 3)) = 1) (e3 : (IntKind.i64.wrap (Int.tmod by_ 4)) = 0) (d : Bool) : Calls Try.prog 10 #[.int .u8 q, .int .u8 lk, .int .u8 by_, .agg #[.int .i64 m.s, .int .i64 m.k, .int .i64 m.a], .agg #[.int .i64 b.s, .int .i64 b.k, .int .i64 b.a], .bool d] w fun e w' => e = .returned (.bool true) ∧ Below w.heap.size w w' := by
  obtain ⟨e1, q1, q2⟩ := mod_in q 4 (by omega) hq
  have hk : Int.tmod q 4 = q % 4 := Int.tmod_eq_emod_of_nonneg hq.1
  obtain ⟨kq, hkq⟩ : ∃ kq, kq = q % 4 := ⟨_, rfl⟩
  rw [← hkq] at e1 q1 q2 hk
  have hq3 : 0 ≤ kq ∧ kq ≤ 3 := ⟨q1, by omega⟩
  cases d with
  | false => exact ao_f1f q lk by_ kq 0 m b hq3 e1 e2 e3 h1 h2 w
  | true => exact ao_f1t q lk by_ kq 0 m b hq3 e1 e2 e3 h1 h2 w
theorem aoc_11 (w : World) (q lk by_ : Int) (hq : 0 ≤ q ∧ q ≤ 255) (m b : Ct) (h1 : I64 b.s) (h2 : I64 b.k) (e2 : (IntKind.i64.wrap (Int.tmod lk 3)) = 1) (e3 : (IntKind.i64.wrap (Int.tmod by_ 4)) = 1) (d : Bool) : Calls Try.prog 10 #[.int .u8 q, .int .u8 lk, .int .u8 by_, .agg #[.int .i64 m.s, .int .i64 m.k, .int .i64 m.a], .agg #[.int .i64 b.s, .int .i64 b.k, .int .i64 b.a], .bool d] w fun e w' => e = .returned (.bool true) ∧ Below w.heap.size w w' := by
  obtain ⟨e1, q1, q2⟩ := mod_in q 4 (by omega) hq
  have hk : Int.tmod q 4 = q % 4 := Int.tmod_eq_emod_of_nonneg hq.1
  obtain ⟨kq, hkq⟩ : ∃ kq, kq = q % 4 := ⟨_, rfl⟩
  rw [← hkq] at e1 q1 q2 hk
  have hq3 : 0 ≤ kq ∧ kq ≤ 3 := ⟨q1, by omega⟩
  cases d with
  | false => exact ao_o1f q lk by_ kq 0 m b hq3 e1 e2 e3 h1 h2 w
  | true => exact ao_o1t q lk by_ kq 0 m b hq3 e1 e2 e3 h1 h2 w
theorem aoc_12 (w : World) (q lk by_ : Int) (hq : 0 ≤ q ∧ q ≤ 255) (m b : Ct) (h1 : I64 b.s) (h2 : I64 b.k) (e2 : (IntKind.i64.wrap (Int.tmod lk 3)) = 1) (e3 : (IntKind.i64.wrap (Int.tmod by_ 4)) = 2) (d : Bool) : Calls Try.prog 10 #[.int .u8 q, .int .u8 lk, .int .u8 by_, .agg #[.int .i64 m.s, .int .i64 m.k, .int .i64 m.a], .agg #[.int .i64 b.s, .int .i64 b.k, .int .i64 b.a], .bool d] w fun e w' => e = .returned (.bool true) ∧ Below w.heap.size w w' := by
  obtain ⟨e1, q1, q2⟩ := mod_in q 4 (by omega) hq
  have hk : Int.tmod q 4 = q % 4 := Int.tmod_eq_emod_of_nonneg hq.1
  obtain ⟨kq, hkq⟩ : ∃ kq, kq = q % 4 := ⟨_, rfl⟩
  rw [← hkq] at e1 q1 q2 hk
  have hq3 : 0 ≤ kq ∧ kq ≤ 3 := ⟨q1, by omega⟩
  have h4 : kq = 0 ∨ kq = 1 ∨ kq = 2 ∨ kq = 3 := by omega
  rcases h4 with rfl | rfl | rfl | rfl
  · cases d with
    | true => exact ao_d12t q lk by_ 0 0 m b hq3 e1 e2 e3 h1 h2 hk  w
    | false => exact ao_l12t q lk by_ 0 m b hq3 e1 e2 e3 h1 h2 hk  (ch_t) w
  · skip
    cases hlt : decide (m.s < b.s) with
    | true =>
      cases d with
      | true => exact ao_d12ga q lk by_ 1 0 m b hq3 e1 e2 e3 h1 h2 hk hlt w
      | false => exact ao_w12ga q lk by_ 1 m b hq3 e1 e2 e3 h1 h2 hk hlt (ch_ga hlt) w
    | false =>
      cases d with
      | true => exact ao_d12gn q lk by_ 1 0 m b hq3 e1 e2 e3 h1 h2 hk hlt w
      | false => exact ao_l12gn q lk by_ 1 m b hq3 e1 e2 e3 h1 h2 hk hlt (ch_gn hlt) w
  · skip
    cases hgt : decide (m.k > b.k) with
    | true =>
      cases d with
      | true => exact ao_d12ka q lk by_ 2 0 m b hq3 e1 e2 e3 h1 h2 hk hgt w
      | false => exact ao_w12ka q lk by_ 2 m b hq3 e1 e2 e3 h1 h2 hk hgt (ch_ka hgt) w
    | false =>
      cases heq : decide (m.k = b.k) with
      | true =>
        cases hlt : decide (m.s < b.s) with
        | true =>
          cases d with
          | true => exact ao_d12kb q lk by_ 2 0 m b hq3 e1 e2 e3 h1 h2 hk hgt heq hlt w
          | false => exact ao_w12kb q lk by_ 2 m b hq3 e1 e2 e3 h1 h2 hk hgt heq hlt (ch_kb hgt heq hlt) w
        | false =>
          cases d with
          | true => exact ao_d12kn q lk by_ 2 0 m b hq3 e1 e2 e3 h1 h2 hk hgt heq hlt w
          | false => exact ao_l12kn q lk by_ 2 m b hq3 e1 e2 e3 h1 h2 hk hgt heq hlt (ch_kn hgt heq hlt) w
      | false =>
        cases d with
        | true => exact ao_d12km q lk by_ 2 0 m b hq3 e1 e2 e3 h1 h2 hk hgt heq w
        | false => exact ao_l12km q lk by_ 2 m b hq3 e1 e2 e3 h1 h2 hk hgt heq (ch_km hgt heq) w
  · skip
    cases hab : decide (m.a > 1) with
    | true =>
      cases hlt : decide (m.s < b.s) with
      | true =>
        cases d with
        | true => exact ao_d12ma q lk by_ 3 0 m b hq3 e1 e2 e3 h1 h2 hk hab hlt w
        | false => exact ao_w12ma q lk by_ 3 m b hq3 e1 e2 e3 h1 h2 hk hab hlt (ch_ma hab hlt) w
      | false =>
        cases d with
        | true => exact ao_d12mn q lk by_ 3 0 m b hq3 e1 e2 e3 h1 h2 hk hab hlt w
        | false => exact ao_l12mn q lk by_ 3 m b hq3 e1 e2 e3 h1 h2 hk hab hlt (ch_mn hab hlt) w
    | false =>
      cases d with
      | true => exact ao_d12mm q lk by_ 3 0 m b hq3 e1 e2 e3 h1 h2 hk hab w
      | false => exact ao_l12mm q lk by_ 3 m b hq3 e1 e2 e3 h1 h2 hk hab (ch_mm hab) w
theorem aoc_13 (w : World) (q lk by_ : Int) (hq : 0 ≤ q ∧ q ≤ 255) (m b : Ct) (h1 : I64 b.s) (h2 : I64 b.k) (e2 : (IntKind.i64.wrap (Int.tmod lk 3)) = 1) (e3 : (IntKind.i64.wrap (Int.tmod by_ 4)) = 3) (d : Bool) : Calls Try.prog 10 #[.int .u8 q, .int .u8 lk, .int .u8 by_, .agg #[.int .i64 m.s, .int .i64 m.k, .int .i64 m.a], .agg #[.int .i64 b.s, .int .i64 b.k, .int .i64 b.a], .bool d] w fun e w' => e = .returned (.bool true) ∧ Below w.heap.size w w' := by
  obtain ⟨e1, q1, q2⟩ := mod_in q 4 (by omega) hq
  have hk : Int.tmod q 4 = q % 4 := Int.tmod_eq_emod_of_nonneg hq.1
  obtain ⟨kq, hkq⟩ : ∃ kq, kq = q % 4 := ⟨_, rfl⟩
  rw [← hkq] at e1 q1 q2 hk
  have hq3 : 0 ≤ kq ∧ kq ≤ 3 := ⟨q1, by omega⟩
  have h4 : kq = 0 ∨ kq = 1 ∨ kq = 2 ∨ kq = 3 := by omega
  rcases h4 with rfl | rfl | rfl | rfl
  · cases d with
    | true => exact ao_d13t q lk by_ 0 0 m b hq3 e1 e2 e3 h1 h2 hk  w
    | false => exact ao_l13t q lk by_ 0 m b hq3 e1 e2 e3 h1 h2 hk  (ch_t) w
  · skip
    cases hlt : decide (m.s < b.s) with
    | true =>
      cases d with
      | true => exact ao_d13ga q lk by_ 1 0 m b hq3 e1 e2 e3 h1 h2 hk hlt w
      | false => exact ao_w13ga q lk by_ 1 m b hq3 e1 e2 e3 h1 h2 hk hlt (ch_ga hlt) w
    | false =>
      cases d with
      | true => exact ao_d13gn q lk by_ 1 0 m b hq3 e1 e2 e3 h1 h2 hk hlt w
      | false => exact ao_l13gn q lk by_ 1 m b hq3 e1 e2 e3 h1 h2 hk hlt (ch_gn hlt) w
  · skip
    cases hgt : decide (m.k > b.k) with
    | true =>
      cases d with
      | true => exact ao_d13ka q lk by_ 2 0 m b hq3 e1 e2 e3 h1 h2 hk hgt w
      | false => exact ao_w13ka q lk by_ 2 m b hq3 e1 e2 e3 h1 h2 hk hgt (ch_ka hgt) w
    | false =>
      cases heq : decide (m.k = b.k) with
      | true =>
        cases hlt : decide (m.s < b.s) with
        | true =>
          cases d with
          | true => exact ao_d13kb q lk by_ 2 0 m b hq3 e1 e2 e3 h1 h2 hk hgt heq hlt w
          | false => exact ao_w13kb q lk by_ 2 m b hq3 e1 e2 e3 h1 h2 hk hgt heq hlt (ch_kb hgt heq hlt) w
        | false =>
          cases d with
          | true => exact ao_d13kn q lk by_ 2 0 m b hq3 e1 e2 e3 h1 h2 hk hgt heq hlt w
          | false => exact ao_l13kn q lk by_ 2 m b hq3 e1 e2 e3 h1 h2 hk hgt heq hlt (ch_kn hgt heq hlt) w
      | false =>
        cases d with
        | true => exact ao_d13km q lk by_ 2 0 m b hq3 e1 e2 e3 h1 h2 hk hgt heq w
        | false => exact ao_l13km q lk by_ 2 m b hq3 e1 e2 e3 h1 h2 hk hgt heq (ch_km hgt heq) w
  · skip
    cases hab : decide (m.a > 1) with
    | true =>
      cases hlt : decide (m.s < b.s) with
      | true =>
        cases d with
        | true => exact ao_d13ma q lk by_ 3 0 m b hq3 e1 e2 e3 h1 h2 hk hab hlt w
        | false => exact ao_w13ma q lk by_ 3 m b hq3 e1 e2 e3 h1 h2 hk hab hlt (ch_ma hab hlt) w
      | false =>
        cases d with
        | true => exact ao_d13mn q lk by_ 3 0 m b hq3 e1 e2 e3 h1 h2 hk hab hlt w
        | false => exact ao_l13mn q lk by_ 3 m b hq3 e1 e2 e3 h1 h2 hk hab hlt (ch_mn hab hlt) w
    | false =>
      cases d with
      | true => exact ao_d13mm q lk by_ 3 0 m b hq3 e1 e2 e3 h1 h2 hk hab w
      | false => exact ao_l13mm q lk by_ 3 m b hq3 e1 e2 e3 h1 h2 hk hab (ch_mm hab) w
theorem aoc_20 (w : World) (q lk by_ : Int) (hq : 0 ≤ q ∧ q ≤ 255) (m b : Ct) (h1 : I64 b.s) (h2 : I64 b.k) (e2 : (IntKind.i64.wrap (Int.tmod lk 3)) = 2) (e3 : (IntKind.i64.wrap (Int.tmod by_ 4)) = 0) (d : Bool) : Calls Try.prog 10 #[.int .u8 q, .int .u8 lk, .int .u8 by_, .agg #[.int .i64 m.s, .int .i64 m.k, .int .i64 m.a], .agg #[.int .i64 b.s, .int .i64 b.k, .int .i64 b.a], .bool d] w fun e w' => e = .returned (.bool true) ∧ Below w.heap.size w w' := by
  obtain ⟨e1, q1, q2⟩ := mod_in q 4 (by omega) hq
  have hk : Int.tmod q 4 = q % 4 := Int.tmod_eq_emod_of_nonneg hq.1
  obtain ⟨kq, hkq⟩ : ∃ kq, kq = q % 4 := ⟨_, rfl⟩
  rw [← hkq] at e1 q1 q2 hk
  have hq3 : 0 ≤ kq ∧ kq ≤ 3 := ⟨q1, by omega⟩
  cases d with
  | false => exact ao_f2f q lk by_ kq 0 m b hq3 e1 e2 e3 h1 h2 w
  | true => exact ao_f2t q lk by_ kq 0 m b hq3 e1 e2 e3 h1 h2 w
theorem aoc_21 (w : World) (q lk by_ : Int) (hq : 0 ≤ q ∧ q ≤ 255) (m b : Ct) (h1 : I64 b.s) (h2 : I64 b.k) (e2 : (IntKind.i64.wrap (Int.tmod lk 3)) = 2) (e3 : (IntKind.i64.wrap (Int.tmod by_ 4)) = 1) (d : Bool) : Calls Try.prog 10 #[.int .u8 q, .int .u8 lk, .int .u8 by_, .agg #[.int .i64 m.s, .int .i64 m.k, .int .i64 m.a], .agg #[.int .i64 b.s, .int .i64 b.k, .int .i64 b.a], .bool d] w fun e w' => e = .returned (.bool true) ∧ Below w.heap.size w w' := by
  obtain ⟨e1, q1, q2⟩ := mod_in q 4 (by omega) hq
  have hk : Int.tmod q 4 = q % 4 := Int.tmod_eq_emod_of_nonneg hq.1
  obtain ⟨kq, hkq⟩ : ∃ kq, kq = q % 4 := ⟨_, rfl⟩
  rw [← hkq] at e1 q1 q2 hk
  have hq3 : 0 ≤ kq ∧ kq ≤ 3 := ⟨q1, by omega⟩
  cases d with
  | false => exact ao_o2f q lk by_ kq 0 m b hq3 e1 e2 e3 h1 h2 w
  | true => exact ao_o2t q lk by_ kq 0 m b hq3 e1 e2 e3 h1 h2 w
theorem aoc_22 (w : World) (q lk by_ : Int) (hq : 0 ≤ q ∧ q ≤ 255) (m b : Ct) (h1 : I64 b.s) (h2 : I64 b.k) (e2 : (IntKind.i64.wrap (Int.tmod lk 3)) = 2) (e3 : (IntKind.i64.wrap (Int.tmod by_ 4)) = 2) (d : Bool) : Calls Try.prog 10 #[.int .u8 q, .int .u8 lk, .int .u8 by_, .agg #[.int .i64 m.s, .int .i64 m.k, .int .i64 m.a], .agg #[.int .i64 b.s, .int .i64 b.k, .int .i64 b.a], .bool d] w fun e w' => e = .returned (.bool true) ∧ Below w.heap.size w w' := by
  obtain ⟨e1, q1, q2⟩ := mod_in q 4 (by omega) hq
  have hk : Int.tmod q 4 = q % 4 := Int.tmod_eq_emod_of_nonneg hq.1
  obtain ⟨kq, hkq⟩ : ∃ kq, kq = q % 4 := ⟨_, rfl⟩
  rw [← hkq] at e1 q1 q2 hk
  have hq3 : 0 ≤ kq ∧ kq ≤ 3 := ⟨q1, by omega⟩
  have h4 : kq = 0 ∨ kq = 1 ∨ kq = 2 ∨ kq = 3 := by omega
  rcases h4 with rfl | rfl | rfl | rfl
  · cases d with
    | true => exact ao_d22t q lk by_ 0 0 m b hq3 e1 e2 e3 h1 h2 hk  w
    | false => exact ao_l22t q lk by_ 0 m b hq3 e1 e2 e3 h1 h2 hk  (ch_t) w
  · skip
    cases hlt : decide (m.s < b.s) with
    | true =>
      cases d with
      | true => exact ao_d22ga q lk by_ 1 0 m b hq3 e1 e2 e3 h1 h2 hk hlt w
      | false => exact ao_w22ga q lk by_ 1 m b hq3 e1 e2 e3 h1 h2 hk hlt (ch_ga hlt) w
    | false =>
      cases d with
      | true => exact ao_d22gn q lk by_ 1 0 m b hq3 e1 e2 e3 h1 h2 hk hlt w
      | false => exact ao_l22gn q lk by_ 1 m b hq3 e1 e2 e3 h1 h2 hk hlt (ch_gn hlt) w
  · skip
    cases hgt : decide (m.k > b.k) with
    | true =>
      cases d with
      | true => exact ao_d22ka q lk by_ 2 0 m b hq3 e1 e2 e3 h1 h2 hk hgt w
      | false => exact ao_w22ka q lk by_ 2 m b hq3 e1 e2 e3 h1 h2 hk hgt (ch_ka hgt) w
    | false =>
      cases heq : decide (m.k = b.k) with
      | true =>
        cases hlt : decide (m.s < b.s) with
        | true =>
          cases d with
          | true => exact ao_d22kb q lk by_ 2 0 m b hq3 e1 e2 e3 h1 h2 hk hgt heq hlt w
          | false => exact ao_w22kb q lk by_ 2 m b hq3 e1 e2 e3 h1 h2 hk hgt heq hlt (ch_kb hgt heq hlt) w
        | false =>
          cases d with
          | true => exact ao_d22kn q lk by_ 2 0 m b hq3 e1 e2 e3 h1 h2 hk hgt heq hlt w
          | false => exact ao_l22kn q lk by_ 2 m b hq3 e1 e2 e3 h1 h2 hk hgt heq hlt (ch_kn hgt heq hlt) w
      | false =>
        cases d with
        | true => exact ao_d22km q lk by_ 2 0 m b hq3 e1 e2 e3 h1 h2 hk hgt heq w
        | false => exact ao_l22km q lk by_ 2 m b hq3 e1 e2 e3 h1 h2 hk hgt heq (ch_km hgt heq) w
  · skip
    cases hab : decide (m.a > 1) with
    | true =>
      cases hlt : decide (m.s < b.s) with
      | true =>
        cases d with
        | true => exact ao_d22ma q lk by_ 3 0 m b hq3 e1 e2 e3 h1 h2 hk hab hlt w
        | false => exact ao_w22ma q lk by_ 3 m b hq3 e1 e2 e3 h1 h2 hk hab hlt (ch_ma hab hlt) w
      | false =>
        cases d with
        | true => exact ao_d22mn q lk by_ 3 0 m b hq3 e1 e2 e3 h1 h2 hk hab hlt w
        | false => exact ao_l22mn q lk by_ 3 m b hq3 e1 e2 e3 h1 h2 hk hab hlt (ch_mn hab hlt) w
    | false =>
      cases d with
      | true => exact ao_d22mm q lk by_ 3 0 m b hq3 e1 e2 e3 h1 h2 hk hab w
      | false => exact ao_l22mm q lk by_ 3 m b hq3 e1 e2 e3 h1 h2 hk hab (ch_mm hab) w
theorem aoc_23 (w : World) (q lk by_ : Int) (hq : 0 ≤ q ∧ q ≤ 255) (m b : Ct) (h1 : I64 b.s) (h2 : I64 b.k) (e2 : (IntKind.i64.wrap (Int.tmod lk 3)) = 2) (e3 : (IntKind.i64.wrap (Int.tmod by_ 4)) = 3) (d : Bool) : Calls Try.prog 10 #[.int .u8 q, .int .u8 lk, .int .u8 by_, .agg #[.int .i64 m.s, .int .i64 m.k, .int .i64 m.a], .agg #[.int .i64 b.s, .int .i64 b.k, .int .i64 b.a], .bool d] w fun e w' => e = .returned (.bool true) ∧ Below w.heap.size w w' := by
  obtain ⟨e1, q1, q2⟩ := mod_in q 4 (by omega) hq
  have hk : Int.tmod q 4 = q % 4 := Int.tmod_eq_emod_of_nonneg hq.1
  obtain ⟨kq, hkq⟩ : ∃ kq, kq = q % 4 := ⟨_, rfl⟩
  rw [← hkq] at e1 q1 q2 hk
  have hq3 : 0 ≤ kq ∧ kq ≤ 3 := ⟨q1, by omega⟩
  have h4 : kq = 0 ∨ kq = 1 ∨ kq = 2 ∨ kq = 3 := by omega
  rcases h4 with rfl | rfl | rfl | rfl
  · cases d with
    | true => exact ao_d23t q lk by_ 0 0 m b hq3 e1 e2 e3 h1 h2 hk  w
    | false => exact ao_l23t q lk by_ 0 m b hq3 e1 e2 e3 h1 h2 hk  (ch_t) w
  · skip
    cases hlt : decide (m.s < b.s) with
    | true =>
      cases d with
      | true => exact ao_d23ga q lk by_ 1 0 m b hq3 e1 e2 e3 h1 h2 hk hlt w
      | false => exact ao_w23ga q lk by_ 1 m b hq3 e1 e2 e3 h1 h2 hk hlt (ch_ga hlt) w
    | false =>
      cases d with
      | true => exact ao_d23gn q lk by_ 1 0 m b hq3 e1 e2 e3 h1 h2 hk hlt w
      | false => exact ao_l23gn q lk by_ 1 m b hq3 e1 e2 e3 h1 h2 hk hlt (ch_gn hlt) w
  · skip
    cases hgt : decide (m.k > b.k) with
    | true =>
      cases d with
      | true => exact ao_d23ka q lk by_ 2 0 m b hq3 e1 e2 e3 h1 h2 hk hgt w
      | false => exact ao_w23ka q lk by_ 2 m b hq3 e1 e2 e3 h1 h2 hk hgt (ch_ka hgt) w
    | false =>
      cases heq : decide (m.k = b.k) with
      | true =>
        cases hlt : decide (m.s < b.s) with
        | true =>
          cases d with
          | true => exact ao_d23kb q lk by_ 2 0 m b hq3 e1 e2 e3 h1 h2 hk hgt heq hlt w
          | false => exact ao_w23kb q lk by_ 2 m b hq3 e1 e2 e3 h1 h2 hk hgt heq hlt (ch_kb hgt heq hlt) w
        | false =>
          cases d with
          | true => exact ao_d23kn q lk by_ 2 0 m b hq3 e1 e2 e3 h1 h2 hk hgt heq hlt w
          | false => exact ao_l23kn q lk by_ 2 m b hq3 e1 e2 e3 h1 h2 hk hgt heq hlt (ch_kn hgt heq hlt) w
      | false =>
        cases d with
        | true => exact ao_d23km q lk by_ 2 0 m b hq3 e1 e2 e3 h1 h2 hk hgt heq w
        | false => exact ao_l23km q lk by_ 2 m b hq3 e1 e2 e3 h1 h2 hk hgt heq (ch_km hgt heq) w
  · skip
    cases hab : decide (m.a > 1) with
    | true =>
      cases hlt : decide (m.s < b.s) with
      | true =>
        cases d with
        | true => exact ao_d23ma q lk by_ 3 0 m b hq3 e1 e2 e3 h1 h2 hk hab hlt w
        | false => exact ao_w23ma q lk by_ 3 m b hq3 e1 e2 e3 h1 h2 hk hab hlt (ch_ma hab hlt) w
      | false =>
        cases d with
        | true => exact ao_d23mn q lk by_ 3 0 m b hq3 e1 e2 e3 h1 h2 hk hab hlt w
        | false => exact ao_l23mn q lk by_ 3 m b hq3 e1 e2 e3 h1 h2 hk hab hlt (ch_mn hab hlt) w
    | false =>
      cases d with
      | true => exact ao_d23mm q lk by_ 3 0 m b hq3 e1 e2 e3 h1 h2 hk hab w
      | false => exact ao_l23mm q lk by_ 3 m b hq3 e1 e2 e3 h1 h2 hk hab (ch_mm hab) w
theorem out_all (w : World) (q lk by_ : Int) (hq : 0 ≤ q ∧ q ≤ 255) (m b : Ct) (h1 : I64 b.s) (h2 : I64 b.k) (hl : 0 ≤ lk ∧ lk ≤ 255) (hb : 0 ≤ by_ ∧ by_ ≤ 255) (d : Bool) : Calls Try.prog 10 #[.int .u8 q, .int .u8 lk, .int .u8 by_, .agg #[.int .i64 m.s, .int .i64 m.k, .int .i64 m.a], .agg #[.int .i64 b.s, .int .i64 b.k, .int .i64 b.a], .bool d] w fun e w' => e = .returned (.bool true) ∧ Below w.heap.size w w' := by
  obtain ⟨e2, l1, l2⟩ := mod_in lk 3 (by omega) hl
  obtain ⟨e3, b1, b2⟩ := mod_in by_ 4 (by omega) hb
  have h3 : lk % 3 = 0 ∨ lk % 3 = 1 ∨ lk % 3 = 2 := by omega
  have h4 : by_ % 4 = 0 ∨ by_ % 4 = 1 ∨ by_ % 4 = 2 ∨ by_ % 4 = 3 := by omega
  rcases h3 with h3 | h3 | h3 <;> rw [h3] at e2 <;> rcases h4 with h4 | h4 | h4 | h4 <;> rw [h4] at e3
  · exact aoc_00 w q lk by_ hq m b h1 h2 e2 e3 d
  · exact aoc_01 w q lk by_ hq m b h1 h2 e2 e3 d
  · exact aoc_02 w q lk by_ hq m b h1 h2 e2 e3 d
  · exact aoc_03 w q lk by_ hq m b h1 h2 e2 e3 d
  · exact aoc_10 w q lk by_ hq m b h1 h2 e2 e3 d
  · exact aoc_11 w q lk by_ hq m b h1 h2 e2 e3 d
  · exact aoc_12 w q lk by_ hq m b h1 h2 e2 e3 d
  · exact aoc_13 w q lk by_ hq m b h1 h2 e2 e3 d
  · exact aoc_20 w q lk by_ hq m b h1 h2 e2 e3 d
  · exact aoc_21 w q lk by_ hq m b h1 h2 e2 e3 d
  · exact aoc_22 w q lk by_ hq m b h1 h2 e2 e3 d
  · exact aoc_23 w q lk by_ hq m b h1 h2 e2 e3 d
end Go.Proofs.Ytdfngmplfgifiaa
