
/-
  Layer 8: bringing an integer into range is congruent.
-/
import Derived.Test.YtpjciglhneppeaaDoorRd0
namespace Go.Proofs.YtpjciglhneppeaaDoor
open Go Go.RowKit EX
set_option maxRecDepth 100000
set_option linter.unusedVariables false
set_option linter.unusedSimpArgs false
/-- The integer with so many moduli more. -/
def fu (n k : Int) : Int := IntKind.i64.wrap (n + IntKind.i64.wrap (IntKind.i64.wrap k * 2199023255553))
def lastB (n : Int) : Bool := Int.tmod (IntKind.i64.wrap (Int.tmod n 2199023255553 - rnd n)) 2199023255553 == 0
theorem lastB_ok (n : Int) : lastB n = true := by
  unfold lastB
  have e1 : Int.tmod n 2199023255553 - rnd n = 0 ∨ Int.tmod n 2199023255553 - rnd n = 2199023255553 ∨ Int.tmod n 2199023255553 - rnd n = -2199023255553 := by
    unfold rnd
    split
    · omega
    · split <;> omega
  rcases e1 with e | e | e <;> rw [e] <;> decide
theorem fu_eq {n k : Int} (h1 : -4611686018427387904 < n) (h2 : n < 4611686018427387904) (hk : -128 ≤ k ∧ k ≤ 127) : rnd (fu n k) = rnd n := by
  have e : fu n k = n + k * 2199023255553 := by
    unfold fu
    rw [IntKind.wrap_i64, IntKind.wrap_i64, IntKind.wrap_i64]
    omega
  rw [e, rnd_eq, rnd_eq]
  have : (n + k * 2199023255553) % 2199023255553 = n % 2199023255553 := by omega
  rw [this]
theorem rnd_id {n : Int} (h1 : -1099511627776 ≤ n) (h2 : n ≤ 1099511627776) : rnd n = n := by
  rw [rnd_eq]; split <;> omega
abbrev arg8 (n k : Int) : List SV := [.y (.int .i64 n), .y (.int .i8 k)]
abbrev LAW : FuncId := 3
def pq (p : Bool) (b : Bool) : Value × Value := (.bool p, .bool b)
def csO (n : Int) : List (Value × Value) := [pq (decide (rnd n > 1099511627776)) false, pq (decide (rnd n < -1099511627776)) false]
def csA (n k : Int) : List (Value × Value) := [pq (rnd n == rnd n) true, pq (rnd (fu n k) == rnd n) true, pq (decide (n < 4611686018427387904)) true, pq (decide (n > -4611686018427387904)) true, pq (rnd n != n) false, pq (decide (n ≤ 1099511627776)) true, pq (decide (n ≥ -1099511627776)) true] ++ csO n
def csB (n k : Int) : List (Value × Value) := [pq (rnd n == rnd n) true, pq (rnd (fu n k) == rnd n) true, pq (decide (n < 4611686018427387904)) true, pq (decide (n > -4611686018427387904)) true, pq (decide (n ≤ 1099511627776)) false, pq (decide (n ≥ -1099511627776)) true] ++ csO n
def csC (n : Int) : List (Value × Value) := [pq (rnd n == rnd n) true, pq (rnd n == rnd n) true, pq (decide (n < 4611686018427387904)) false, pq (decide (n > -4611686018427387904)) true, pq (decide (n ≤ 1099511627776)) false, pq (decide (n ≥ -1099511627776)) true] ++ csO n
def csD (n k : Int) : List (Value × Value) := [pq (rnd n == rnd n) true, pq (rnd (fu n k) == rnd n) true, pq (decide (n < 4611686018427387904)) true, pq (decide (n > -4611686018427387904)) true, pq (decide (n ≥ -1099511627776)) false] ++ csO n
def csE (n : Int) : List (Value × Value) := [pq (rnd n == rnd n) true, pq (rnd n == rnd n) true, pq (decide (n > -4611686018427387904)) false, pq (decide (n ≥ -1099511627776)) false] ++ csO n
theorem csO_ok (n : Int) : ∀ q ∈ csO n, q.1 = q.2 := by
  have h := rnd_range n
  intro q hq
  simp only [csO, List.mem_cons, List.not_mem_nil, or_false] at hq
  rcases hq with rfl | rfl <;> simp only [pq, Value.bool.injEq, decide_eq_false_iff_not] <;> omega
theorem pq_app {l m : List (Value × Value)} (h : ∀ q ∈ l, q.1 = q.2) (g : ∀ q ∈ m, q.1 = q.2) : ∀ q ∈ l ++ m, q.1 = q.2 := fun q hq => (List.mem_append.1 hq).elim (h q) (g q)
theorem fin {w : World} {n k : Int} (h : Calls Tryd.prog LAW #[.int .i64 n, .int .i8 k] w fun e w' => ∃ B, e = .returned (den B (.y (.bool (lastB n)))) ∧ Below w.heap.size w w') : Calls Tryd.prog LAW #[.int .i64 n, .int .i8 k] w fun e w' => e = .returned (.bool true) ∧ Below w.heap.size w w' :=
  h.mono fun e w' ⟨B, h1, h2⟩ => ⟨by rw [h1, den, lastB_ok], h2⟩
theorem cong_a (w : World) (n k : Int) (hk : -128 ≤ k ∧ k ≤ 127) (h1 : -1099511627776 ≤ n) (h2 : n ≤ 1099511627776) : Calls Tryd.prog LAW #[.int .i64 n, .int .i8 k] w fun e w' => e = .returned (.bool true) ∧ Below w.heap.size w w' :=
  fin (ex_run kn8_ok 100000 (arg8 n k) [ff, ff, tt, tt, ff, tt, tt, tt, tt] (csA n k) (by kernel_rfl) (by simp [arg8, denL, den]) (by simp [arg8, bdL, bd]) (pq_app (by
    have e1 := fu_eq (n := n) (k := k) (by omega) (by omega) hk
    have e2 := rnd_id h1 h2
    intro q hq
    simp only [List.mem_cons, List.not_mem_nil, or_false] at hq
    rcases hq with rfl | rfl | rfl | rfl | rfl | rfl | rfl <;> simp only [pq, e1, e2, Value.bool.injEq, decide_eq_true_eq, decide_eq_false_iff_not, beq_self_eq_true, bne_self_eq_false] <;> omega) (csO_ok n)))
theorem cong_b (w : World) (n k : Int) (hk : -128 ≤ k ∧ k ≤ 127) (h1 : 1099511627776 < n) (h2 : n < 4611686018427387904) : Calls Tryd.prog LAW #[.int .i64 n, .int .i8 k] w fun e w' => e = .returned (.bool true) ∧ Below w.heap.size w w' :=
  fin (ex_run kn8_ok 100000 (arg8 n k) [ff, ff, tt, ff, tt, tt, tt, tt] (csB n k) (by kernel_rfl) (by simp [arg8, denL, den]) (by simp [arg8, bdL, bd]) (pq_app (by
    have e1 := fu_eq (n := n) (k := k) (by omega) (by omega) hk
    intro q hq
    simp only [List.mem_cons, List.not_mem_nil, or_false] at hq
    rcases hq with rfl | rfl | rfl | rfl | rfl | rfl <;> simp only [pq, e1, Value.bool.injEq, decide_eq_true_eq, decide_eq_false_iff_not, beq_self_eq_true] <;> omega) (csO_ok n)))
theorem cong_c (w : World) (n k : Int) (h1 : 4611686018427387904 ≤ n) : Calls Tryd.prog LAW #[.int .i64 n, .int .i8 k] w fun e w' => e = .returned (.bool true) ∧ Below w.heap.size w w' :=
  fin (ex_run kn8_ok 100000 (arg8 n k) [ff, ff, tt, ff, tt, ff, tt, tt] (csC n) (by kernel_rfl) (by simp [arg8, denL, den]) (by simp [arg8, bdL, bd]) (pq_app (by
    intro q hq
    simp only [List.mem_cons, List.not_mem_nil, or_false] at hq
    rcases hq with rfl | rfl | rfl | rfl | rfl | rfl <;> simp only [pq, Value.bool.injEq, decide_eq_true_eq, decide_eq_false_iff_not, beq_self_eq_true] <;> omega) (csO_ok n)))
theorem cong_d (w : World) (n k : Int) (hk : -128 ≤ k ∧ k ≤ 127) (h1 : n < -1099511627776) (h2 : -4611686018427387904 < n) : Calls Tryd.prog LAW #[.int .i64 n, .int .i8 k] w fun e w' => e = .returned (.bool true) ∧ Below w.heap.size w w' :=
  fin (ex_run kn8_ok 100000 (arg8 n k) [ff, ff, ff, tt, tt, tt, tt] (csD n k) (by kernel_rfl) (by simp [arg8, denL, den]) (by simp [arg8, bdL, bd]) (pq_app (by
    have e1 := fu_eq (n := n) (k := k) (by omega) (by omega) hk
    intro q hq
    simp only [List.mem_cons, List.not_mem_nil, or_false] at hq
    rcases hq with rfl | rfl | rfl | rfl | rfl <;> simp only [pq, e1, Value.bool.injEq, decide_eq_true_eq, decide_eq_false_iff_not, beq_self_eq_true] <;> omega) (csO_ok n)))
theorem cong_e (w : World) (n k : Int) (h1 : n ≤ -4611686018427387904) : Calls Tryd.prog LAW #[.int .i64 n, .int .i8 k] w fun e w' => e = .returned (.bool true) ∧ Below w.heap.size w w' :=
  fin (ex_run kn8_ok 100000 (arg8 n k) [ff, ff, ff, ff, tt, tt] (csE n) (by kernel_rfl) (by simp [arg8, denL, den]) (by simp [arg8, bdL, bd]) (pq_app (by
    intro q hq
    simp only [List.mem_cons, List.not_mem_nil, or_false] at hq
    rcases hq with rfl | rfl | rfl | rfl <;> simp only [pq, Value.bool.injEq, decide_eq_true_eq, decide_eq_false_iff_not, beq_self_eq_true] <;> omega) (csO_ok n)))
theorem cong_any (w : World) (n k : Int) (hk : -128 ≤ k ∧ k ≤ 127) : Calls Tryd.prog LAW #[.int .i64 n, .int .i8 k] w fun e w' => e = .returned (.bool true) ∧ Below w.heap.size w w' := by
  by_cases h1 : -1099511627776 ≤ n
  · by_cases h2 : n ≤ 1099511627776
    · exact cong_a w n k hk h1 h2
    · by_cases h3 : n < 4611686018427387904
      · exact cong_b w n k hk (by omega) h3
      · exact cong_c w n k (by omega)
  · by_cases h2 : -4611686018427387904 < n
    · exact cong_d w n k hk (by omega) h2
    · exact cong_e w n k (by omega)
end Go.Proofs.YtpjciglhneppeaaDoor
