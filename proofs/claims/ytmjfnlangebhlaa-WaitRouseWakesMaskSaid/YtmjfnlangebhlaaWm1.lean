
/-
  Layer 21: Rouse wakes the threads of a mask: by computation, one run for each number of threads and each set of them.
-/
import Derived.Test.YtmjfnlangebhlaaRows
import Derived.Test.YtmjfnlangebhlaaWk2
namespace Go.Proofs.Ytmjfnlangebhlaa
open Go Go.RowKit EX
set_option maxRecDepth 100000
set_option linter.unusedVariables false
set_option linter.unusedSimpArgs false
def fv : Value := .bool false
def tv : Value := .bool true
theorem filter_upto (p q : Nat → Bool) (n : Nat) (hq : ∀ t, q t = decide (t < n)) : ∀ k, ((List.range k).filter p).filter q = (List.range (min k n)).filter p
  | 0 => by simp
  | k + 1 => by
    rw [List.range_succ, List.filter_append, List.filter_append, filter_upto p q n hq k]
    by_cases h : k < n
    · rw [show min (k + 1) n = k + 1 by omega, show min k n = k by omega, List.range_succ, List.filter_append]
      cases hp : p k <;> simp [List.filter, hp, hq, h]
    · rw [show min (k + 1) n = n by omega, show min k n = n by omega]
      cases hp : p k <;> simp [List.filter, hp, hq, h]
def lyN (n : Int) : Ly := ⟨⟨n, 1, 0, 0, 0⟩, 0, 1, 2, 3, 4, 4 + 4 * n, 4 + 4 * n, 8 + 4 * n⟩
theorem fsA_lyN (n : Nat) (hn : n ≤ 62) (m : Int) : fsA (lyN n) m = ((List.range n).filter fun t : Nat => isIn m (t : Int)).map fun t : Nat => (t : Int) := by
  unfold fsA fsN zsN
  rw [List.take_length]
  unfold bitsL
  rw [List.filter_map, filter_upto _ _ n, show min 62 n = n by omega]
  intro t
  show decide (0 ≤ cellN (t : Int) (n : Int) 4 4 2) = decide (t < n)
  unfold cellN
  split
  · rename_i h
    have h2 : ¬t < n := by omega
    simp [h2]
  · rename_i h
    have h2 : t < n := by omega
    simp only [h2, decide_true, decide_eq_true_eq]
    omega
def kgM (m : Int) (n : Nat) (ts : List Int) : KnG := kgOr (gk (knOr (kn1 26 (.bool true)) (kn2 29 fun m t => .bool (isIn m t)))) (kgRow 28 (rowMask (lyN n) m ts))
theorem kgM_ok {m : Int} {n : Nat} {ts : List Int} (hn : n ≤ 4) (h : fsA (lyN n) m = ts) : KnGOk Try.prog (kgM m n ts) :=
  kgOr_ok (gk_ok (knOr_ok (kn1_ok sane21) (kn2_ok fun m t w h => (rin_any m t h w).mono fun e w' ⟨h1, h2⟩ => ⟨h1, h2 ▸ Below.refl _ _⟩))) (kgRow_ok (rowMask_ok (by unfold Ly.ok lyN; simp; omega) h))
theorem m1_0 (w : World) (m t : Int) (hm : I64 m) (ht : IntKind.i64.wrap (1 + Int.tmod (IntKind.i64.wrap t) 4) = 1) (h0 : isIn m 0 = false) : Calls Try.prog 6 #[.int .i64 m, .int .u8 t] w fun e w' => e = .returned (.bool true) ∧ Below w.heap.size w w' :=
  ex_valG (kgM_ok (m := m) (n := 1) (ts := []) (by omega) (by rw [fsA_lyN _ (by omega)]; simp [List.range_succ, List.filter, h0])) 100000 [.y (.int .i64 m), .y (.int .u8 t)] [.tuple #[.int .i64 6, .int .i64 19, .int .i64 1], fv] [((lyN 1).v, (lyN 1).v), (.int .i64 m, .int .i64 m), (.bool (isIn m 0), fv), (.bool (decide (-9223372036854775808 ≤ m)), tv), (.bool (decide (m ≤ 9223372036854775807)), tv), ((lyN 1).v, (lyN 1).v), (.int .i64 m, .int .i64 m), (.int .i64 (IntKind.i64.wrap (1 + Int.tmod (IntKind.i64.wrap t) 4)), .int .i64 1)] (by kernel_rfl) (by simp [denL, den]) (by simp [bdL, bd]) (by
    have i1 := hm.1
    have i2 := hm.2
    intro q hq
    simp only [List.mem_cons, List.not_mem_nil, or_false] at hq
    rcases hq with rfl | rfl | rfl | rfl | rfl | rfl | rfl | rfl <;> first | rfl | exact congrArg (Value.int .i64) ht | (simp only [tv, Value.bool.injEq, decide_eq_true_eq]; omega) | simp [tv, fv, h0])
theorem m1_1 (w : World) (m t : Int) (hm : I64 m) (ht : IntKind.i64.wrap (1 + Int.tmod (IntKind.i64.wrap t) 4) = 1) (h0 : isIn m 0 = true) : Calls Try.prog 6 #[.int .i64 m, .int .u8 t] w fun e w' => e = .returned (.bool true) ∧ Below w.heap.size w w' :=
  ex_valG (kgM_ok (m := m) (n := 1) (ts := [0]) (by omega) (by rw [fsA_lyN _ (by omega)]; simp [List.range_succ, List.filter, h0])) 100000 [.y (.int .i64 m), .y (.int .u8 t)] [.tuple #[.int .i64 6, .int .i64 19, .int .i64 1], tv] [((lyN 1).v, (lyN 1).v), (.int .i64 m, .int .i64 m), (.bool (isIn m 0), tv), (.bool (decide (-9223372036854775808 ≤ m)), tv), (.bool (decide (m ≤ 9223372036854775807)), tv), ((lyN 1).v, (lyN 1).v), (.int .i64 m, .int .i64 m), (.int .i64 (IntKind.i64.wrap (1 + Int.tmod (IntKind.i64.wrap t) 4)), .int .i64 1)] (by kernel_rfl) (by simp [denL, den]) (by simp [bdL, bd]) (by
    have i1 := hm.1
    have i2 := hm.2
    intro q hq
    simp only [List.mem_cons, List.not_mem_nil, or_false] at hq
    rcases hq with rfl | rfl | rfl | rfl | rfl | rfl | rfl | rfl <;> first | rfl | exact congrArg (Value.int .i64) ht | (simp only [tv, Value.bool.injEq, decide_eq_true_eq]; omega) | simp [tv, fv, h0])
theorem m2_00 (w : World) (m t : Int) (hm : I64 m) (ht : IntKind.i64.wrap (1 + Int.tmod (IntKind.i64.wrap t) 4) = 2) (h0 : isIn m 0 = false) (h1 : isIn m 1 = false) : Calls Try.prog 6 #[.int .i64 m, .int .u8 t] w fun e w' => e = .returned (.bool true) ∧ Below w.heap.size w w' :=
  ex_valG (kgM_ok (m := m) (n := 2) (ts := []) (by omega) (by rw [fsA_lyN _ (by omega)]; simp [List.range_succ, List.filter, h0, h1])) 100000 [.y (.int .i64 m), .y (.int .u8 t)] [.tuple #[.int .i64 6, .int .i64 19, .int .i64 2], fv, fv] [((lyN 2).v, (lyN 2).v), (.int .i64 m, .int .i64 m), (.bool (isIn m 1), fv), (.bool (decide (-9223372036854775808 ≤ m)), tv), (.bool (decide (m ≤ 9223372036854775807)), tv), (.bool (isIn m 0), fv), (.bool (decide (-9223372036854775808 ≤ m)), tv), (.bool (decide (m ≤ 9223372036854775807)), tv), ((lyN 2).v, (lyN 2).v), (.int .i64 m, .int .i64 m), (.int .i64 (IntKind.i64.wrap (1 + Int.tmod (IntKind.i64.wrap t) 4)), .int .i64 2)] (by kernel_rfl) (by simp [denL, den]) (by simp [bdL, bd]) (by
    have i1 := hm.1
    have i2 := hm.2
    intro q hq
    simp only [List.mem_cons, List.not_mem_nil, or_false] at hq
    rcases hq with rfl | rfl | rfl | rfl | rfl | rfl | rfl | rfl | rfl | rfl | rfl <;> first | rfl | exact congrArg (Value.int .i64) ht | (simp only [tv, Value.bool.injEq, decide_eq_true_eq]; omega) | simp [tv, fv, h0, h1])
theorem m2_01 (w : World) (m t : Int) (hm : I64 m) (ht : IntKind.i64.wrap (1 + Int.tmod (IntKind.i64.wrap t) 4) = 2) (h0 : isIn m 0 = false) (h1 : isIn m 1 = true) : Calls Try.prog 6 #[.int .i64 m, .int .u8 t] w fun e w' => e = .returned (.bool true) ∧ Below w.heap.size w w' :=
  ex_valG (kgM_ok (m := m) (n := 2) (ts := [1]) (by omega) (by rw [fsA_lyN _ (by omega)]; simp [List.range_succ, List.filter, h0, h1])) 100000 [.y (.int .i64 m), .y (.int .u8 t)] [.tuple #[.int .i64 6, .int .i64 19, .int .i64 2], fv, tv] [((lyN 2).v, (lyN 2).v), (.int .i64 m, .int .i64 m), (.bool (isIn m 1), tv), (.bool (decide (-9223372036854775808 ≤ m)), tv), (.bool (decide (m ≤ 9223372036854775807)), tv), (.bool (isIn m 0), fv), (.bool (decide (-9223372036854775808 ≤ m)), tv), (.bool (decide (m ≤ 9223372036854775807)), tv), ((lyN 2).v, (lyN 2).v), (.int .i64 m, .int .i64 m), (.int .i64 (IntKind.i64.wrap (1 + Int.tmod (IntKind.i64.wrap t) 4)), .int .i64 2)] (by kernel_rfl) (by simp [denL, den]) (by simp [bdL, bd]) (by
    have i1 := hm.1
    have i2 := hm.2
    intro q hq
    simp only [List.mem_cons, List.not_mem_nil, or_false] at hq
    rcases hq with rfl | rfl | rfl | rfl | rfl | rfl | rfl | rfl | rfl | rfl | rfl <;> first | rfl | exact congrArg (Value.int .i64) ht | (simp only [tv, Value.bool.injEq, decide_eq_true_eq]; omega) | simp [tv, fv, h0, h1])
theorem m2_10 (w : World) (m t : Int) (hm : I64 m) (ht : IntKind.i64.wrap (1 + Int.tmod (IntKind.i64.wrap t) 4) = 2) (h0 : isIn m 0 = true) (h1 : isIn m 1 = false) : Calls Try.prog 6 #[.int .i64 m, .int .u8 t] w fun e w' => e = .returned (.bool true) ∧ Below w.heap.size w w' :=
  ex_valG (kgM_ok (m := m) (n := 2) (ts := [0]) (by omega) (by rw [fsA_lyN _ (by omega)]; simp [List.range_succ, List.filter, h0, h1])) 100000 [.y (.int .i64 m), .y (.int .u8 t)] [.tuple #[.int .i64 6, .int .i64 19, .int .i64 2], tv, fv] [((lyN 2).v, (lyN 2).v), (.int .i64 m, .int .i64 m), (.bool (isIn m 1), fv), (.bool (decide (-9223372036854775808 ≤ m)), tv), (.bool (decide (m ≤ 9223372036854775807)), tv), (.bool (isIn m 0), tv), (.bool (decide (-9223372036854775808 ≤ m)), tv), (.bool (decide (m ≤ 9223372036854775807)), tv), ((lyN 2).v, (lyN 2).v), (.int .i64 m, .int .i64 m), (.int .i64 (IntKind.i64.wrap (1 + Int.tmod (IntKind.i64.wrap t) 4)), .int .i64 2)] (by kernel_rfl) (by simp [denL, den]) (by simp [bdL, bd]) (by
    have i1 := hm.1
    have i2 := hm.2
    intro q hq
    simp only [List.mem_cons, List.not_mem_nil, or_false] at hq
    rcases hq with rfl | rfl | rfl | rfl | rfl | rfl | rfl | rfl | rfl | rfl | rfl <;> first | rfl | exact congrArg (Value.int .i64) ht | (simp only [tv, Value.bool.injEq, decide_eq_true_eq]; omega) | simp [tv, fv, h0, h1])
theorem m2_11 (w : World) (m t : Int) (hm : I64 m) (ht : IntKind.i64.wrap (1 + Int.tmod (IntKind.i64.wrap t) 4) = 2) (h0 : isIn m 0 = true) (h1 : isIn m 1 = true) : Calls Try.prog 6 #[.int .i64 m, .int .u8 t] w fun e w' => e = .returned (.bool true) ∧ Below w.heap.size w w' :=
  ex_valG (kgM_ok (m := m) (n := 2) (ts := [0, 1]) (by omega) (by rw [fsA_lyN _ (by omega)]; simp [List.range_succ, List.filter, h0, h1])) 100000 [.y (.int .i64 m), .y (.int .u8 t)] [.tuple #[.int .i64 6, .int .i64 19, .int .i64 2], tv, tv] [((lyN 2).v, (lyN 2).v), (.int .i64 m, .int .i64 m), (.bool (isIn m 1), tv), (.bool (decide (-9223372036854775808 ≤ m)), tv), (.bool (decide (m ≤ 9223372036854775807)), tv), (.bool (isIn m 0), tv), (.bool (decide (-9223372036854775808 ≤ m)), tv), (.bool (decide (m ≤ 9223372036854775807)), tv), ((lyN 2).v, (lyN 2).v), (.int .i64 m, .int .i64 m), (.int .i64 (IntKind.i64.wrap (1 + Int.tmod (IntKind.i64.wrap t) 4)), .int .i64 2)] (by kernel_rfl) (by simp [denL, den]) (by simp [bdL, bd]) (by
    have i1 := hm.1
    have i2 := hm.2
    intro q hq
    simp only [List.mem_cons, List.not_mem_nil, or_false] at hq
    rcases hq with rfl | rfl | rfl | rfl | rfl | rfl | rfl | rfl | rfl | rfl | rfl <;> first | rfl | exact congrArg (Value.int .i64) ht | (simp only [tv, Value.bool.injEq, decide_eq_true_eq]; omega) | simp [tv, fv, h0, h1])
theorem m3_000 (w : World) (m t : Int) (hm : I64 m) (ht : IntKind.i64.wrap (1 + Int.tmod (IntKind.i64.wrap t) 4) = 3) (h0 : isIn m 0 = false) (h1 : isIn m 1 = false) (h2 : isIn m 2 = false) : Calls Try.prog 6 #[.int .i64 m, .int .u8 t] w fun e w' => e = .returned (.bool true) ∧ Below w.heap.size w w' :=
  ex_valG (kgM_ok (m := m) (n := 3) (ts := []) (by omega) (by rw [fsA_lyN _ (by omega)]; simp [List.range_succ, List.filter, h0, h1, h2])) 100000 [.y (.int .i64 m), .y (.int .u8 t)] [.tuple #[.int .i64 6, .int .i64 19, .int .i64 3], fv, fv, fv] [((lyN 3).v, (lyN 3).v), (.int .i64 m, .int .i64 m), (.bool (isIn m 2), fv), (.bool (decide (-9223372036854775808 ≤ m)), tv), (.bool (decide (m ≤ 9223372036854775807)), tv), (.bool (isIn m 1), fv), (.bool (decide (-9223372036854775808 ≤ m)), tv), (.bool (decide (m ≤ 9223372036854775807)), tv), (.bool (isIn m 0), fv), (.bool (decide (-9223372036854775808 ≤ m)), tv), (.bool (decide (m ≤ 9223372036854775807)), tv), ((lyN 3).v, (lyN 3).v), (.int .i64 m, .int .i64 m), (.int .i64 (IntKind.i64.wrap (1 + Int.tmod (IntKind.i64.wrap t) 4)), .int .i64 3)] (by kernel_rfl) (by simp [denL, den]) (by simp [bdL, bd]) (by
    have i1 := hm.1
    have i2 := hm.2
    intro q hq
    simp only [List.mem_cons, List.not_mem_nil, or_false] at hq
    rcases hq with rfl | rfl | rfl | rfl | rfl | rfl | rfl | rfl | rfl | rfl | rfl | rfl | rfl | rfl <;> first | rfl | exact congrArg (Value.int .i64) ht | (simp only [tv, Value.bool.injEq, decide_eq_true_eq]; omega) | simp [tv, fv, h0, h1, h2])
theorem m3_001 (w : World) (m t : Int) (hm : I64 m) (ht : IntKind.i64.wrap (1 + Int.tmod (IntKind.i64.wrap t) 4) = 3) (h0 : isIn m 0 = false) (h1 : isIn m 1 = false) (h2 : isIn m 2 = true) : Calls Try.prog 6 #[.int .i64 m, .int .u8 t] w fun e w' => e = .returned (.bool true) ∧ Below w.heap.size w w' :=
  ex_valG (kgM_ok (m := m) (n := 3) (ts := [2]) (by omega) (by rw [fsA_lyN _ (by omega)]; simp [List.range_succ, List.filter, h0, h1, h2])) 100000 [.y (.int .i64 m), .y (.int .u8 t)] [.tuple #[.int .i64 6, .int .i64 19, .int .i64 3], fv, fv, tv] [((lyN 3).v, (lyN 3).v), (.int .i64 m, .int .i64 m), (.bool (isIn m 2), tv), (.bool (decide (-9223372036854775808 ≤ m)), tv), (.bool (decide (m ≤ 9223372036854775807)), tv), (.bool (isIn m 1), fv), (.bool (decide (-9223372036854775808 ≤ m)), tv), (.bool (decide (m ≤ 9223372036854775807)), tv), (.bool (isIn m 0), fv), (.bool (decide (-9223372036854775808 ≤ m)), tv), (.bool (decide (m ≤ 9223372036854775807)), tv), ((lyN 3).v, (lyN 3).v), (.int .i64 m, .int .i64 m), (.int .i64 (IntKind.i64.wrap (1 + Int.tmod (IntKind.i64.wrap t) 4)), .int .i64 3)] (by kernel_rfl) (by simp [denL, den]) (by simp [bdL, bd]) (by
    have i1 := hm.1
    have i2 := hm.2
    intro q hq
    simp only [List.mem_cons, List.not_mem_nil, or_false] at hq
    rcases hq with rfl | rfl | rfl | rfl | rfl | rfl | rfl | rfl | rfl | rfl | rfl | rfl | rfl | rfl <;> first | rfl | exact congrArg (Value.int .i64) ht | (simp only [tv, Value.bool.injEq, decide_eq_true_eq]; omega) | simp [tv, fv, h0, h1, h2])
theorem m3_010 (w : World) (m t : Int) (hm : I64 m) (ht : IntKind.i64.wrap (1 + Int.tmod (IntKind.i64.wrap t) 4) = 3) (h0 : isIn m 0 = false) (h1 : isIn m 1 = true) (h2 : isIn m 2 = false) : Calls Try.prog 6 #[.int .i64 m, .int .u8 t] w fun e w' => e = .returned (.bool true) ∧ Below w.heap.size w w' :=
  ex_valG (kgM_ok (m := m) (n := 3) (ts := [1]) (by omega) (by rw [fsA_lyN _ (by omega)]; simp [List.range_succ, List.filter, h0, h1, h2])) 100000 [.y (.int .i64 m), .y (.int .u8 t)] [.tuple #[.int .i64 6, .int .i64 19, .int .i64 3], fv, tv, fv] [((lyN 3).v, (lyN 3).v), (.int .i64 m, .int .i64 m), (.bool (isIn m 2), fv), (.bool (decide (-9223372036854775808 ≤ m)), tv), (.bool (decide (m ≤ 9223372036854775807)), tv), (.bool (isIn m 1), tv), (.bool (decide (-9223372036854775808 ≤ m)), tv), (.bool (decide (m ≤ 9223372036854775807)), tv), (.bool (isIn m 0), fv), (.bool (decide (-9223372036854775808 ≤ m)), tv), (.bool (decide (m ≤ 9223372036854775807)), tv), ((lyN 3).v, (lyN 3).v), (.int .i64 m, .int .i64 m), (.int .i64 (IntKind.i64.wrap (1 + Int.tmod (IntKind.i64.wrap t) 4)), .int .i64 3)] (by kernel_rfl) (by simp [denL, den]) (by simp [bdL, bd]) (by
    have i1 := hm.1
    have i2 := hm.2
    intro q hq
    simp only [List.mem_cons, List.not_mem_nil, or_false] at hq
    rcases hq with rfl | rfl | rfl | rfl | rfl | rfl | rfl | rfl | rfl | rfl | rfl | rfl | rfl | rfl <;> first | rfl | exact congrArg (Value.int .i64) ht | (simp only [tv, Value.bool.injEq, decide_eq_true_eq]; omega) | simp [tv, fv, h0, h1, h2])
theorem m3_011 (w : World) (m t : Int) (hm : I64 m) (ht : IntKind.i64.wrap (1 + Int.tmod (IntKind.i64.wrap t) 4) = 3) (h0 : isIn m 0 = false) (h1 : isIn m 1 = true) (h2 : isIn m 2 = true) : Calls Try.prog 6 #[.int .i64 m, .int .u8 t] w fun e w' => e = .returned (.bool true) ∧ Below w.heap.size w w' :=
  ex_valG (kgM_ok (m := m) (n := 3) (ts := [1, 2]) (by omega) (by rw [fsA_lyN _ (by omega)]; simp [List.range_succ, List.filter, h0, h1, h2])) 100000 [.y (.int .i64 m), .y (.int .u8 t)] [.tuple #[.int .i64 6, .int .i64 19, .int .i64 3], fv, tv, tv] [((lyN 3).v, (lyN 3).v), (.int .i64 m, .int .i64 m), (.bool (isIn m 2), tv), (.bool (decide (-9223372036854775808 ≤ m)), tv), (.bool (decide (m ≤ 9223372036854775807)), tv), (.bool (isIn m 1), tv), (.bool (decide (-9223372036854775808 ≤ m)), tv), (.bool (decide (m ≤ 9223372036854775807)), tv), (.bool (isIn m 0), fv), (.bool (decide (-9223372036854775808 ≤ m)), tv), (.bool (decide (m ≤ 9223372036854775807)), tv), ((lyN 3).v, (lyN 3).v), (.int .i64 m, .int .i64 m), (.int .i64 (IntKind.i64.wrap (1 + Int.tmod (IntKind.i64.wrap t) 4)), .int .i64 3)] (by kernel_rfl) (by simp [denL, den]) (by simp [bdL, bd]) (by
    have i1 := hm.1
    have i2 := hm.2
    intro q hq
    simp only [List.mem_cons, List.not_mem_nil, or_false] at hq
    rcases hq with rfl | rfl | rfl | rfl | rfl | rfl | rfl | rfl | rfl | rfl | rfl | rfl | rfl | rfl <;> first | rfl | exact congrArg (Value.int .i64) ht | (simp only [tv, Value.bool.injEq, decide_eq_true_eq]; omega) | simp [tv, fv, h0, h1, h2])
theorem m3_100 (w : World) (m t : Int) (hm : I64 m) (ht : IntKind.i64.wrap (1 + Int.tmod (IntKind.i64.wrap t) 4) = 3) (h0 : isIn m 0 = true) (h1 : isIn m 1 = false) (h2 : isIn m 2 = false) : Calls Try.prog 6 #[.int .i64 m, .int .u8 t] w fun e w' => e = .returned (.bool true) ∧ Below w.heap.size w w' :=
  ex_valG (kgM_ok (m := m) (n := 3) (ts := [0]) (by omega) (by rw [fsA_lyN _ (by omega)]; simp [List.range_succ, List.filter, h0, h1, h2])) 100000 [.y (.int .i64 m), .y (.int .u8 t)] [.tuple #[.int .i64 6, .int .i64 19, .int .i64 3], tv, fv, fv] [((lyN 3).v, (lyN 3).v), (.int .i64 m, .int .i64 m), (.bool (isIn m 2), fv), (.bool (decide (-9223372036854775808 ≤ m)), tv), (.bool (decide (m ≤ 9223372036854775807)), tv), (.bool (isIn m 1), fv), (.bool (decide (-9223372036854775808 ≤ m)), tv), (.bool (decide (m ≤ 9223372036854775807)), tv), (.bool (isIn m 0), tv), (.bool (decide (-9223372036854775808 ≤ m)), tv), (.bool (decide (m ≤ 9223372036854775807)), tv), ((lyN 3).v, (lyN 3).v), (.int .i64 m, .int .i64 m), (.int .i64 (IntKind.i64.wrap (1 + Int.tmod (IntKind.i64.wrap t) 4)), .int .i64 3)] (by kernel_rfl) (by simp [denL, den]) (by simp [bdL, bd]) (by
    have i1 := hm.1
    have i2 := hm.2
    intro q hq
    simp only [List.mem_cons, List.not_mem_nil, or_false] at hq
    rcases hq with rfl | rfl | rfl | rfl | rfl | rfl | rfl | rfl | rfl | rfl | rfl | rfl | rfl | rfl <;> first | rfl | exact congrArg (Value.int .i64) ht | (simp only [tv, Value.bool.injEq, decide_eq_true_eq]; omega) | simp [tv, fv, h0, h1, h2])
theorem m3_101 (w : World) (m t : Int) (hm : I64 m) (ht : IntKind.i64.wrap (1 + Int.tmod (IntKind.i64.wrap t) 4) = 3) (h0 : isIn m 0 = true) (h1 : isIn m 1 = false) (h2 : isIn m 2 = true) : Calls Try.prog 6 #[.int .i64 m, .int .u8 t] w fun e w' => e = .returned (.bool true) ∧ Below w.heap.size w w' :=
  ex_valG (kgM_ok (m := m) (n := 3) (ts := [0, 2]) (by omega) (by rw [fsA_lyN _ (by omega)]; simp [List.range_succ, List.filter, h0, h1, h2])) 100000 [.y (.int .i64 m), .y (.int .u8 t)] [.tuple #[.int .i64 6, .int .i64 19, .int .i64 3], tv, fv, tv] [((lyN 3).v, (lyN 3).v), (.int .i64 m, .int .i64 m), (.bool (isIn m 2), tv), (.bool (decide (-9223372036854775808 ≤ m)), tv), (.bool (decide (m ≤ 9223372036854775807)), tv), (.bool (isIn m 1), fv), (.bool (decide (-9223372036854775808 ≤ m)), tv), (.bool (decide (m ≤ 9223372036854775807)), tv), (.bool (isIn m 0), tv), (.bool (decide (-9223372036854775808 ≤ m)), tv), (.bool (decide (m ≤ 9223372036854775807)), tv), ((lyN 3).v, (lyN 3).v), (.int .i64 m, .int .i64 m), (.int .i64 (IntKind.i64.wrap (1 + Int.tmod (IntKind.i64.wrap t) 4)), .int .i64 3)] (by kernel_rfl) (by simp [denL, den]) (by simp [bdL, bd]) (by
    have i1 := hm.1
    have i2 := hm.2
    intro q hq
    simp only [List.mem_cons, List.not_mem_nil, or_false] at hq
    rcases hq with rfl | rfl | rfl | rfl | rfl | rfl | rfl | rfl | rfl | rfl | rfl | rfl | rfl | rfl <;> first | rfl | exact congrArg (Value.int .i64) ht | (simp only [tv, Value.bool.injEq, decide_eq_true_eq]; omega) | simp [tv, fv, h0, h1, h2])
theorem m3_110 (w : World) (m t : Int) (hm : I64 m) (ht : IntKind.i64.wrap (1 + Int.tmod (IntKind.i64.wrap t) 4) = 3) (h0 : isIn m 0 = true) (h1 : isIn m 1 = true) (h2 : isIn m 2 = false) : Calls Try.prog 6 #[.int .i64 m, .int .u8 t] w fun e w' => e = .returned (.bool true) ∧ Below w.heap.size w w' :=
  ex_valG (kgM_ok (m := m) (n := 3) (ts := [0, 1]) (by omega) (by rw [fsA_lyN _ (by omega)]; simp [List.range_succ, List.filter, h0, h1, h2])) 100000 [.y (.int .i64 m), .y (.int .u8 t)] [.tuple #[.int .i64 6, .int .i64 19, .int .i64 3], tv, tv, fv] [((lyN 3).v, (lyN 3).v), (.int .i64 m, .int .i64 m), (.bool (isIn m 2), fv), (.bool (decide (-9223372036854775808 ≤ m)), tv), (.bool (decide (m ≤ 9223372036854775807)), tv), (.bool (isIn m 1), tv), (.bool (decide (-9223372036854775808 ≤ m)), tv), (.bool (decide (m ≤ 9223372036854775807)), tv), (.bool (isIn m 0), tv), (.bool (decide (-9223372036854775808 ≤ m)), tv), (.bool (decide (m ≤ 9223372036854775807)), tv), ((lyN 3).v, (lyN 3).v), (.int .i64 m, .int .i64 m), (.int .i64 (IntKind.i64.wrap (1 + Int.tmod (IntKind.i64.wrap t) 4)), .int .i64 3)] (by kernel_rfl) (by simp [denL, den]) (by simp [bdL, bd]) (by
    have i1 := hm.1
    have i2 := hm.2
    intro q hq
    simp only [List.mem_cons, List.not_mem_nil, or_false] at hq
    rcases hq with rfl | rfl | rfl | rfl | rfl | rfl | rfl | rfl | rfl | rfl | rfl | rfl | rfl | rfl <;> first | rfl | exact congrArg (Value.int .i64) ht | (simp only [tv, Value.bool.injEq, decide_eq_true_eq]; omega) | simp [tv, fv, h0, h1, h2])
theorem m3_111 (w : World) (m t : Int) (hm : I64 m) (ht : IntKind.i64.wrap (1 + Int.tmod (IntKind.i64.wrap t) 4) = 3) (h0 : isIn m 0 = true) (h1 : isIn m 1 = true) (h2 : isIn m 2 = true) : Calls Try.prog 6 #[.int .i64 m, .int .u8 t] w fun e w' => e = .returned (.bool true) ∧ Below w.heap.size w w' :=
  ex_valG (kgM_ok (m := m) (n := 3) (ts := [0, 1, 2]) (by omega) (by rw [fsA_lyN _ (by omega)]; simp [List.range_succ, List.filter, h0, h1, h2])) 100000 [.y (.int .i64 m), .y (.int .u8 t)] [.tuple #[.int .i64 6, .int .i64 19, .int .i64 3], tv, tv, tv] [((lyN 3).v, (lyN 3).v), (.int .i64 m, .int .i64 m), (.bool (isIn m 2), tv), (.bool (decide (-9223372036854775808 ≤ m)), tv), (.bool (decide (m ≤ 9223372036854775807)), tv), (.bool (isIn m 1), tv), (.bool (decide (-9223372036854775808 ≤ m)), tv), (.bool (decide (m ≤ 9223372036854775807)), tv), (.bool (isIn m 0), tv), (.bool (decide (-9223372036854775808 ≤ m)), tv), (.bool (decide (m ≤ 9223372036854775807)), tv), ((lyN 3).v, (lyN 3).v), (.int .i64 m, .int .i64 m), (.int .i64 (IntKind.i64.wrap (1 + Int.tmod (IntKind.i64.wrap t) 4)), .int .i64 3)] (by kernel_rfl) (by simp [denL, den]) (by simp [bdL, bd]) (by
    have i1 := hm.1
    have i2 := hm.2
    intro q hq
    simp only [List.mem_cons, List.not_mem_nil, or_false] at hq
    rcases hq with rfl | rfl | rfl | rfl | rfl | rfl | rfl | rfl | rfl | rfl | rfl | rfl | rfl | rfl <;> first | rfl | exact congrArg (Value.int .i64) ht | (simp only [tv, Value.bool.injEq, decide_eq_true_eq]; omega) | simp [tv, fv, h0, h1, h2])
theorem m4_0000 (w : World) (m t : Int) (hm : I64 m) (ht : IntKind.i64.wrap (1 + Int.tmod (IntKind.i64.wrap t) 4) = 4) (h0 : isIn m 0 = false) (h1 : isIn m 1 = false) (h2 : isIn m 2 = false) (h3 : isIn m 3 = false) : Calls Try.prog 6 #[.int .i64 m, .int .u8 t] w fun e w' => e = .returned (.bool true) ∧ Below w.heap.size w w' :=
  ex_valG (kgM_ok (m := m) (n := 4) (ts := []) (by omega) (by rw [fsA_lyN _ (by omega)]; simp [List.range_succ, List.filter, h0, h1, h2, h3])) 100000 [.y (.int .i64 m), .y (.int .u8 t)] [.tuple #[.int .i64 6, .int .i64 19, .int .i64 4], fv, fv, fv, fv] [((lyN 4).v, (lyN 4).v), (.int .i64 m, .int .i64 m), (.bool (isIn m 3), fv), (.bool (decide (-9223372036854775808 ≤ m)), tv), (.bool (decide (m ≤ 9223372036854775807)), tv), (.bool (isIn m 2), fv), (.bool (decide (-9223372036854775808 ≤ m)), tv), (.bool (decide (m ≤ 9223372036854775807)), tv), (.bool (isIn m 1), fv), (.bool (decide (-9223372036854775808 ≤ m)), tv), (.bool (decide (m ≤ 9223372036854775807)), tv), (.bool (isIn m 0), fv), (.bool (decide (-9223372036854775808 ≤ m)), tv), (.bool (decide (m ≤ 9223372036854775807)), tv), ((lyN 4).v, (lyN 4).v), (.int .i64 m, .int .i64 m), (.int .i64 (IntKind.i64.wrap (1 + Int.tmod (IntKind.i64.wrap t) 4)), .int .i64 4)] (by kernel_rfl) (by simp [denL, den]) (by simp [bdL, bd]) (by
    have i1 := hm.1
    have i2 := hm.2
    intro q hq
    simp only [List.mem_cons, List.not_mem_nil, or_false] at hq
    rcases hq with rfl | rfl | rfl | rfl | rfl | rfl | rfl | rfl | rfl | rfl | rfl | rfl | rfl | rfl | rfl | rfl | rfl <;> first | rfl | exact congrArg (Value.int .i64) ht | (simp only [tv, Value.bool.injEq, decide_eq_true_eq]; omega) | simp [tv, fv, h0, h1, h2, h3])
theorem m4_0001 (w : World) (m t : Int) (hm : I64 m) (ht : IntKind.i64.wrap (1 + Int.tmod (IntKind.i64.wrap t) 4) = 4) (h0 : isIn m 0 = false) (h1 : isIn m 1 = false) (h2 : isIn m 2 = false) (h3 : isIn m 3 = true) : Calls Try.prog 6 #[.int .i64 m, .int .u8 t] w fun e w' => e = .returned (.bool true) ∧ Below w.heap.size w w' :=
  ex_valG (kgM_ok (m := m) (n := 4) (ts := [3]) (by omega) (by rw [fsA_lyN _ (by omega)]; simp [List.range_succ, List.filter, h0, h1, h2, h3])) 100000 [.y (.int .i64 m), .y (.int .u8 t)] [.tuple #[.int .i64 6, .int .i64 19, .int .i64 4], fv, fv, fv, tv] [((lyN 4).v, (lyN 4).v), (.int .i64 m, .int .i64 m), (.bool (isIn m 3), tv), (.bool (decide (-9223372036854775808 ≤ m)), tv), (.bool (decide (m ≤ 9223372036854775807)), tv), (.bool (isIn m 2), fv), (.bool (decide (-9223372036854775808 ≤ m)), tv), (.bool (decide (m ≤ 9223372036854775807)), tv), (.bool (isIn m 1), fv), (.bool (decide (-9223372036854775808 ≤ m)), tv), (.bool (decide (m ≤ 9223372036854775807)), tv), (.bool (isIn m 0), fv), (.bool (decide (-9223372036854775808 ≤ m)), tv), (.bool (decide (m ≤ 9223372036854775807)), tv), ((lyN 4).v, (lyN 4).v), (.int .i64 m, .int .i64 m), (.int .i64 (IntKind.i64.wrap (1 + Int.tmod (IntKind.i64.wrap t) 4)), .int .i64 4)] (by kernel_rfl) (by simp [denL, den]) (by simp [bdL, bd]) (by
    have i1 := hm.1
    have i2 := hm.2
    intro q hq
    simp only [List.mem_cons, List.not_mem_nil, or_false] at hq
    rcases hq with rfl | rfl | rfl | rfl | rfl | rfl | rfl | rfl | rfl | rfl | rfl | rfl | rfl | rfl | rfl | rfl | rfl <;> first | rfl | exact congrArg (Value.int .i64) ht | (simp only [tv, Value.bool.injEq, decide_eq_true_eq]; omega) | simp [tv, fv, h0, h1, h2, h3])
theorem m4_0010 (w : World) (m t : Int) (hm : I64 m) (ht : IntKind.i64.wrap (1 + Int.tmod (IntKind.i64.wrap t) 4) = 4) (h0 : isIn m 0 = false) (h1 : isIn m 1 = false) (h2 : isIn m 2 = true) (h3 : isIn m 3 = false) : Calls Try.prog 6 #[.int .i64 m, .int .u8 t] w fun e w' => e = .returned (.bool true) ∧ Below w.heap.size w w' :=
  ex_valG (kgM_ok (m := m) (n := 4) (ts := [2]) (by omega) (by rw [fsA_lyN _ (by omega)]; simp [List.range_succ, List.filter, h0, h1, h2, h3])) 100000 [.y (.int .i64 m), .y (.int .u8 t)] [.tuple #[.int .i64 6, .int .i64 19, .int .i64 4], fv, fv, tv, fv] [((lyN 4).v, (lyN 4).v), (.int .i64 m, .int .i64 m), (.bool (isIn m 3), fv), (.bool (decide (-9223372036854775808 ≤ m)), tv), (.bool (decide (m ≤ 9223372036854775807)), tv), (.bool (isIn m 2), tv), (.bool (decide (-9223372036854775808 ≤ m)), tv), (.bool (decide (m ≤ 9223372036854775807)), tv), (.bool (isIn m 1), fv), (.bool (decide (-9223372036854775808 ≤ m)), tv), (.bool (decide (m ≤ 9223372036854775807)), tv), (.bool (isIn m 0), fv), (.bool (decide (-9223372036854775808 ≤ m)), tv), (.bool (decide (m ≤ 9223372036854775807)), tv), ((lyN 4).v, (lyN 4).v), (.int .i64 m, .int .i64 m), (.int .i64 (IntKind.i64.wrap (1 + Int.tmod (IntKind.i64.wrap t) 4)), .int .i64 4)] (by kernel_rfl) (by simp [denL, den]) (by simp [bdL, bd]) (by
    have i1 := hm.1
    have i2 := hm.2
    intro q hq
    simp only [List.mem_cons, List.not_mem_nil, or_false] at hq
    rcases hq with rfl | rfl | rfl | rfl | rfl | rfl | rfl | rfl | rfl | rfl | rfl | rfl | rfl | rfl | rfl | rfl | rfl <;> first | rfl | exact congrArg (Value.int .i64) ht | (simp only [tv, Value.bool.injEq, decide_eq_true_eq]; omega) | simp [tv, fv, h0, h1, h2, h3])
theorem m4_0011 (w : World) (m t : Int) (hm : I64 m) (ht : IntKind.i64.wrap (1 + Int.tmod (IntKind.i64.wrap t) 4) = 4) (h0 : isIn m 0 = false) (h1 : isIn m 1 = false) (h2 : isIn m 2 = true) (h3 : isIn m 3 = true) : Calls Try.prog 6 #[.int .i64 m, .int .u8 t] w fun e w' => e = .returned (.bool true) ∧ Below w.heap.size w w' :=
  ex_valG (kgM_ok (m := m) (n := 4) (ts := [2, 3]) (by omega) (by rw [fsA_lyN _ (by omega)]; simp [List.range_succ, List.filter, h0, h1, h2, h3])) 100000 [.y (.int .i64 m), .y (.int .u8 t)] [.tuple #[.int .i64 6, .int .i64 19, .int .i64 4], fv, fv, tv, tv] [((lyN 4).v, (lyN 4).v), (.int .i64 m, .int .i64 m), (.bool (isIn m 3), tv), (.bool (decide (-9223372036854775808 ≤ m)), tv), (.bool (decide (m ≤ 9223372036854775807)), tv), (.bool (isIn m 2), tv), (.bool (decide (-9223372036854775808 ≤ m)), tv), (.bool (decide (m ≤ 9223372036854775807)), tv), (.bool (isIn m 1), fv), (.bool (decide (-9223372036854775808 ≤ m)), tv), (.bool (decide (m ≤ 9223372036854775807)), tv), (.bool (isIn m 0), fv), (.bool (decide (-9223372036854775808 ≤ m)), tv), (.bool (decide (m ≤ 9223372036854775807)), tv), ((lyN 4).v, (lyN 4).v), (.int .i64 m, .int .i64 m), (.int .i64 (IntKind.i64.wrap (1 + Int.tmod (IntKind.i64.wrap t) 4)), .int .i64 4)] (by kernel_rfl) (by simp [denL, den]) (by simp [bdL, bd]) (by
    have i1 := hm.1
    have i2 := hm.2
    intro q hq
    simp only [List.mem_cons, List.not_mem_nil, or_false] at hq
    rcases hq with rfl | rfl | rfl | rfl | rfl | rfl | rfl | rfl | rfl | rfl | rfl | rfl | rfl | rfl | rfl | rfl | rfl <;> first | rfl | exact congrArg (Value.int .i64) ht | (simp only [tv, Value.bool.injEq, decide_eq_true_eq]; omega) | simp [tv, fv, h0, h1, h2, h3])
theorem m4_0100 (w : World) (m t : Int) (hm : I64 m) (ht : IntKind.i64.wrap (1 + Int.tmod (IntKind.i64.wrap t) 4) = 4) (h0 : isIn m 0 = false) (h1 : isIn m 1 = true) (h2 : isIn m 2 = false) (h3 : isIn m 3 = false) : Calls Try.prog 6 #[.int .i64 m, .int .u8 t] w fun e w' => e = .returned (.bool true) ∧ Below w.heap.size w w' :=
  ex_valG (kgM_ok (m := m) (n := 4) (ts := [1]) (by omega) (by rw [fsA_lyN _ (by omega)]; simp [List.range_succ, List.filter, h0, h1, h2, h3])) 100000 [.y (.int .i64 m), .y (.int .u8 t)] [.tuple #[.int .i64 6, .int .i64 19, .int .i64 4], fv, tv, fv, fv] [((lyN 4).v, (lyN 4).v), (.int .i64 m, .int .i64 m), (.bool (isIn m 3), fv), (.bool (decide (-9223372036854775808 ≤ m)), tv), (.bool (decide (m ≤ 9223372036854775807)), tv), (.bool (isIn m 2), fv), (.bool (decide (-9223372036854775808 ≤ m)), tv), (.bool (decide (m ≤ 9223372036854775807)), tv), (.bool (isIn m 1), tv), (.bool (decide (-9223372036854775808 ≤ m)), tv), (.bool (decide (m ≤ 9223372036854775807)), tv), (.bool (isIn m 0), fv), (.bool (decide (-9223372036854775808 ≤ m)), tv), (.bool (decide (m ≤ 9223372036854775807)), tv), ((lyN 4).v, (lyN 4).v), (.int .i64 m, .int .i64 m), (.int .i64 (IntKind.i64.wrap (1 + Int.tmod (IntKind.i64.wrap t) 4)), .int .i64 4)] (by kernel_rfl) (by simp [denL, den]) (by simp [bdL, bd]) (by
    have i1 := hm.1
    have i2 := hm.2
    intro q hq
    simp only [List.mem_cons, List.not_mem_nil, or_false] at hq
    rcases hq with rfl | rfl | rfl | rfl | rfl | rfl | rfl | rfl | rfl | rfl | rfl | rfl | rfl | rfl | rfl | rfl | rfl <;> first | rfl | exact congrArg (Value.int .i64) ht | (simp only [tv, Value.bool.injEq, decide_eq_true_eq]; omega) | simp [tv, fv, h0, h1, h2, h3])
theorem m4_0101 (w : World) (m t : Int) (hm : I64 m) (ht : IntKind.i64.wrap (1 + Int.tmod (IntKind.i64.wrap t) 4) = 4) (h0 : isIn m 0 = false) (h1 : isIn m 1 = true) (h2 : isIn m 2 = false) (h3 : isIn m 3 = true) : Calls Try.prog 6 #[.int .i64 m, .int .u8 t] w fun e w' => e = .returned (.bool true) ∧ Below w.heap.size w w' :=
  ex_valG (kgM_ok (m := m) (n := 4) (ts := [1, 3]) (by omega) (by rw [fsA_lyN _ (by omega)]; simp [List.range_succ, List.filter, h0, h1, h2, h3])) 100000 [.y (.int .i64 m), .y (.int .u8 t)] [.tuple #[.int .i64 6, .int .i64 19, .int .i64 4], fv, tv, fv, tv] [((lyN 4).v, (lyN 4).v), (.int .i64 m, .int .i64 m), (.bool (isIn m 3), tv), (.bool (decide (-9223372036854775808 ≤ m)), tv), (.bool (decide (m ≤ 9223372036854775807)), tv), (.bool (isIn m 2), fv), (.bool (decide (-9223372036854775808 ≤ m)), tv), (.bool (decide (m ≤ 9223372036854775807)), tv), (.bool (isIn m 1), tv), (.bool (decide (-9223372036854775808 ≤ m)), tv), (.bool (decide (m ≤ 9223372036854775807)), tv), (.bool (isIn m 0), fv), (.bool (decide (-9223372036854775808 ≤ m)), tv), (.bool (decide (m ≤ 9223372036854775807)), tv), ((lyN 4).v, (lyN 4).v), (.int .i64 m, .int .i64 m), (.int .i64 (IntKind.i64.wrap (1 + Int.tmod (IntKind.i64.wrap t) 4)), .int .i64 4)] (by kernel_rfl) (by simp [denL, den]) (by simp [bdL, bd]) (by
    have i1 := hm.1
    have i2 := hm.2
    intro q hq
    simp only [List.mem_cons, List.not_mem_nil, or_false] at hq
    rcases hq with rfl | rfl | rfl | rfl | rfl | rfl | rfl | rfl | rfl | rfl | rfl | rfl | rfl | rfl | rfl | rfl | rfl <;> first | rfl | exact congrArg (Value.int .i64) ht | (simp only [tv, Value.bool.injEq, decide_eq_true_eq]; omega) | simp [tv, fv, h0, h1, h2, h3])
theorem m4_0110 (w : World) (m t : Int) (hm : I64 m) (ht : IntKind.i64.wrap (1 + Int.tmod (IntKind.i64.wrap t) 4) = 4) (h0 : isIn m 0 = false) (h1 : isIn m 1 = true) (h2 : isIn m 2 = true) (h3 : isIn m 3 = false) : Calls Try.prog 6 #[.int .i64 m, .int .u8 t] w fun e w' => e = .returned (.bool true) ∧ Below w.heap.size w w' :=
  ex_valG (kgM_ok (m := m) (n := 4) (ts := [1, 2]) (by omega) (by rw [fsA_lyN _ (by omega)]; simp [List.range_succ, List.filter, h0, h1, h2, h3])) 100000 [.y (.int .i64 m), .y (.int .u8 t)] [.tuple #[.int .i64 6, .int .i64 19, .int .i64 4], fv, tv, tv, fv] [((lyN 4).v, (lyN 4).v), (.int .i64 m, .int .i64 m), (.bool (isIn m 3), fv), (.bool (decide (-9223372036854775808 ≤ m)), tv), (.bool (decide (m ≤ 9223372036854775807)), tv), (.bool (isIn m 2), tv), (.bool (decide (-9223372036854775808 ≤ m)), tv), (.bool (decide (m ≤ 9223372036854775807)), tv), (.bool (isIn m 1), tv), (.bool (decide (-9223372036854775808 ≤ m)), tv), (.bool (decide (m ≤ 9223372036854775807)), tv), (.bool (isIn m 0), fv), (.bool (decide (-9223372036854775808 ≤ m)), tv), (.bool (decide (m ≤ 9223372036854775807)), tv), ((lyN 4).v, (lyN 4).v), (.int .i64 m, .int .i64 m), (.int .i64 (IntKind.i64.wrap (1 + Int.tmod (IntKind.i64.wrap t) 4)), .int .i64 4)] (by kernel_rfl) (by simp [denL, den]) (by simp [bdL, bd]) (by
    have i1 := hm.1
    have i2 := hm.2
    intro q hq
    simp only [List.mem_cons, List.not_mem_nil, or_false] at hq
    rcases hq with rfl | rfl | rfl | rfl | rfl | rfl | rfl | rfl | rfl | rfl | rfl | rfl | rfl | rfl | rfl | rfl | rfl <;> first | rfl | exact congrArg (Value.int .i64) ht | (simp only [tv, Value.bool.injEq, decide_eq_true_eq]; omega) | simp [tv, fv, h0, h1, h2, h3])
theorem m4_0111 (w : World) (m t : Int) (hm : I64 m) (ht : IntKind.i64.wrap (1 + Int.tmod (IntKind.i64.wrap t) 4) = 4) (h0 : isIn m 0 = false) (h1 : isIn m 1 = true) (h2 : isIn m 2 = true) (h3 : isIn m 3 = true) : Calls Try.prog 6 #[.int .i64 m, .int .u8 t] w fun e w' => e = .returned (.bool true) ∧ Below w.heap.size w w' :=
  ex_valG (kgM_ok (m := m) (n := 4) (ts := [1, 2, 3]) (by omega) (by rw [fsA_lyN _ (by omega)]; simp [List.range_succ, List.filter, h0, h1, h2, h3])) 100000 [.y (.int .i64 m), .y (.int .u8 t)] [.tuple #[.int .i64 6, .int .i64 19, .int .i64 4], fv, tv, tv, tv] [((lyN 4).v, (lyN 4).v), (.int .i64 m, .int .i64 m), (.bool (isIn m 3), tv), (.bool (decide (-9223372036854775808 ≤ m)), tv), (.bool (decide (m ≤ 9223372036854775807)), tv), (.bool (isIn m 2), tv), (.bool (decide (-9223372036854775808 ≤ m)), tv), (.bool (decide (m ≤ 9223372036854775807)), tv), (.bool (isIn m 1), tv), (.bool (decide (-9223372036854775808 ≤ m)), tv), (.bool (decide (m ≤ 9223372036854775807)), tv), (.bool (isIn m 0), fv), (.bool (decide (-9223372036854775808 ≤ m)), tv), (.bool (decide (m ≤ 9223372036854775807)), tv), ((lyN 4).v, (lyN 4).v), (.int .i64 m, .int .i64 m), (.int .i64 (IntKind.i64.wrap (1 + Int.tmod (IntKind.i64.wrap t) 4)), .int .i64 4)] (by kernel_rfl) (by simp [denL, den]) (by simp [bdL, bd]) (by
    have i1 := hm.1
    have i2 := hm.2
    intro q hq
    simp only [List.mem_cons, List.not_mem_nil, or_false] at hq
    rcases hq with rfl | rfl | rfl | rfl | rfl | rfl | rfl | rfl | rfl | rfl | rfl | rfl | rfl | rfl | rfl | rfl | rfl <;> first | rfl | exact congrArg (Value.int .i64) ht | (simp only [tv, Value.bool.injEq, decide_eq_true_eq]; omega) | simp [tv, fv, h0, h1, h2, h3])
theorem m4_1000 (w : World) (m t : Int) (hm : I64 m) (ht : IntKind.i64.wrap (1 + Int.tmod (IntKind.i64.wrap t) 4) = 4) (h0 : isIn m 0 = true) (h1 : isIn m 1 = false) (h2 : isIn m 2 = false) (h3 : isIn m 3 = false) : Calls Try.prog 6 #[.int .i64 m, .int .u8 t] w fun e w' => e = .returned (.bool true) ∧ Below w.heap.size w w' :=
  ex_valG (kgM_ok (m := m) (n := 4) (ts := [0]) (by omega) (by rw [fsA_lyN _ (by omega)]; simp [List.range_succ, List.filter, h0, h1, h2, h3])) 100000 [.y (.int .i64 m), .y (.int .u8 t)] [.tuple #[.int .i64 6, .int .i64 19, .int .i64 4], tv, fv, fv, fv] [((lyN 4).v, (lyN 4).v), (.int .i64 m, .int .i64 m), (.bool (isIn m 3), fv), (.bool (decide (-9223372036854775808 ≤ m)), tv), (.bool (decide (m ≤ 9223372036854775807)), tv), (.bool (isIn m 2), fv), (.bool (decide (-9223372036854775808 ≤ m)), tv), (.bool (decide (m ≤ 9223372036854775807)), tv), (.bool (isIn m 1), fv), (.bool (decide (-9223372036854775808 ≤ m)), tv), (.bool (decide (m ≤ 9223372036854775807)), tv), (.bool (isIn m 0), tv), (.bool (decide (-9223372036854775808 ≤ m)), tv), (.bool (decide (m ≤ 9223372036854775807)), tv), ((lyN 4).v, (lyN 4).v), (.int .i64 m, .int .i64 m), (.int .i64 (IntKind.i64.wrap (1 + Int.tmod (IntKind.i64.wrap t) 4)), .int .i64 4)] (by kernel_rfl) (by simp [denL, den]) (by simp [bdL, bd]) (by
    have i1 := hm.1
    have i2 := hm.2
    intro q hq
    simp only [List.mem_cons, List.not_mem_nil, or_false] at hq
    rcases hq with rfl | rfl | rfl | rfl | rfl | rfl | rfl | rfl | rfl | rfl | rfl | rfl | rfl | rfl | rfl | rfl | rfl <;> first | rfl | exact congrArg (Value.int .i64) ht | (simp only [tv, Value.bool.injEq, decide_eq_true_eq]; omega) | simp [tv, fv, h0, h1, h2, h3])
theorem m4_1001 (w : World) (m t : Int) (hm : I64 m) (ht : IntKind.i64.wrap (1 + Int.tmod (IntKind.i64.wrap t) 4) = 4) (h0 : isIn m 0 = true) (h1 : isIn m 1 = false) (h2 : isIn m 2 = false) (h3 : isIn m 3 = true) : Calls Try.prog 6 #[.int .i64 m, .int .u8 t] w fun e w' => e = .returned (.bool true) ∧ Below w.heap.size w w' :=
  ex_valG (kgM_ok (m := m) (n := 4) (ts := [0, 3]) (by omega) (by rw [fsA_lyN _ (by omega)]; simp [List.range_succ, List.filter, h0, h1, h2, h3])) 100000 [.y (.int .i64 m), .y (.int .u8 t)] [.tuple #[.int .i64 6, .int .i64 19, .int .i64 4], tv, fv, fv, tv] [((lyN 4).v, (lyN 4).v), (.int .i64 m, .int .i64 m), (.bool (isIn m 3), tv), (.bool (decide (-9223372036854775808 ≤ m)), tv), (.bool (decide (m ≤ 9223372036854775807)), tv), (.bool (isIn m 2), fv), (.bool (decide (-9223372036854775808 ≤ m)), tv), (.bool (decide (m ≤ 9223372036854775807)), tv), (.bool (isIn m 1), fv), (.bool (decide (-9223372036854775808 ≤ m)), tv), (.bool (decide (m ≤ 9223372036854775807)), tv), (.bool (isIn m 0), tv), (.bool (decide (-9223372036854775808 ≤ m)), tv), (.bool (decide (m ≤ 9223372036854775807)), tv), ((lyN 4).v, (lyN 4).v), (.int .i64 m, .int .i64 m), (.int .i64 (IntKind.i64.wrap (1 + Int.tmod (IntKind.i64.wrap t) 4)), .int .i64 4)] (by kernel_rfl) (by simp [denL, den]) (by simp [bdL, bd]) (by
    have i1 := hm.1
    have i2 := hm.2
    intro q hq
    simp only [List.mem_cons, List.not_mem_nil, or_false] at hq
    rcases hq with rfl | rfl | rfl | rfl | rfl | rfl | rfl | rfl | rfl | rfl | rfl | rfl | rfl | rfl | rfl | rfl | rfl <;> first | rfl | exact congrArg (Value.int .i64) ht | (simp only [tv, Value.bool.injEq, decide_eq_true_eq]; omega) | simp [tv, fv, h0, h1, h2, h3])
theorem m4_1010 (w : World) (m t : Int) (hm : I64 m) (ht : IntKind.i64.wrap (1 + Int.tmod (IntKind.i64.wrap t) 4) = 4) (h0 : isIn m 0 = true) (h1 : isIn m 1 = false) (h2 : isIn m 2 = true) (h3 : isIn m 3 = false) : Calls Try.prog 6 #[.int .i64 m, .int .u8 t] w fun e w' => e = .returned (.bool true) ∧ Below w.heap.size w w' :=
  ex_valG (kgM_ok (m := m) (n := 4) (ts := [0, 2]) (by omega) (by rw [fsA_lyN _ (by omega)]; simp [List.range_succ, List.filter, h0, h1, h2, h3])) 100000 [.y (.int .i64 m), .y (.int .u8 t)] [.tuple #[.int .i64 6, .int .i64 19, .int .i64 4], tv, fv, tv, fv] [((lyN 4).v, (lyN 4).v), (.int .i64 m, .int .i64 m), (.bool (isIn m 3), fv), (.bool (decide (-9223372036854775808 ≤ m)), tv), (.bool (decide (m ≤ 9223372036854775807)), tv), (.bool (isIn m 2), tv), (.bool (decide (-9223372036854775808 ≤ m)), tv), (.bool (decide (m ≤ 9223372036854775807)), tv), (.bool (isIn m 1), fv), (.bool (decide (-9223372036854775808 ≤ m)), tv), (.bool (decide (m ≤ 9223372036854775807)), tv), (.bool (isIn m 0), tv), (.bool (decide (-9223372036854775808 ≤ m)), tv), (.bool (decide (m ≤ 9223372036854775807)), tv), ((lyN 4).v, (lyN 4).v), (.int .i64 m, .int .i64 m), (.int .i64 (IntKind.i64.wrap (1 + Int.tmod (IntKind.i64.wrap t) 4)), .int .i64 4)] (by kernel_rfl) (by simp [denL, den]) (by simp [bdL, bd]) (by
    have i1 := hm.1
    have i2 := hm.2
    intro q hq
    simp only [List.mem_cons, List.not_mem_nil, or_false] at hq
    rcases hq with rfl | rfl | rfl | rfl | rfl | rfl | rfl | rfl | rfl | rfl | rfl | rfl | rfl | rfl | rfl | rfl | rfl <;> first | rfl | exact congrArg (Value.int .i64) ht | (simp only [tv, Value.bool.injEq, decide_eq_true_eq]; omega) | simp [tv, fv, h0, h1, h2, h3])
theorem m4_1011 (w : World) (m t : Int) (hm : I64 m) (ht : IntKind.i64.wrap (1 + Int.tmod (IntKind.i64.wrap t) 4) = 4) (h0 : isIn m 0 = true) (h1 : isIn m 1 = false) (h2 : isIn m 2 = true) (h3 : isIn m 3 = true) : Calls Try.prog 6 #[.int .i64 m, .int .u8 t] w fun e w' => e = .returned (.bool true) ∧ Below w.heap.size w w' :=
  ex_valG (kgM_ok (m := m) (n := 4) (ts := [0, 2, 3]) (by omega) (by rw [fsA_lyN _ (by omega)]; simp [List.range_succ, List.filter, h0, h1, h2, h3])) 100000 [.y (.int .i64 m), .y (.int .u8 t)] [.tuple #[.int .i64 6, .int .i64 19, .int .i64 4], tv, fv, tv, tv] [((lyN 4).v, (lyN 4).v), (.int .i64 m, .int .i64 m), (.bool (isIn m 3), tv), (.bool (decide (-9223372036854775808 ≤ m)), tv), (.bool (decide (m ≤ 9223372036854775807)), tv), (.bool (isIn m 2), tv), (.bool (decide (-9223372036854775808 ≤ m)), tv), (.bool (decide (m ≤ 9223372036854775807)), tv), (.bool (isIn m 1), fv), (.bool (decide (-9223372036854775808 ≤ m)), tv), (.bool (decide (m ≤ 9223372036854775807)), tv), (.bool (isIn m 0), tv), (.bool (decide (-9223372036854775808 ≤ m)), tv), (.bool (decide (m ≤ 9223372036854775807)), tv), ((lyN 4).v, (lyN 4).v), (.int .i64 m, .int .i64 m), (.int .i64 (IntKind.i64.wrap (1 + Int.tmod (IntKind.i64.wrap t) 4)), .int .i64 4)] (by kernel_rfl) (by simp [denL, den]) (by simp [bdL, bd]) (by
    have i1 := hm.1
    have i2 := hm.2
    intro q hq
    simp only [List.mem_cons, List.not_mem_nil, or_false] at hq
    rcases hq with rfl | rfl | rfl | rfl | rfl | rfl | rfl | rfl | rfl | rfl | rfl | rfl | rfl | rfl | rfl | rfl | rfl <;> first | rfl | exact congrArg (Value.int .i64) ht | (simp only [tv, Value.bool.injEq, decide_eq_true_eq]; omega) | simp [tv, fv, h0, h1, h2, h3])
theorem m4_1100 (w : World) (m t : Int) (hm : I64 m) (ht : IntKind.i64.wrap (1 + Int.tmod (IntKind.i64.wrap t) 4) = 4) (h0 : isIn m 0 = true) (h1 : isIn m 1 = true) (h2 : isIn m 2 = false) (h3 : isIn m 3 = false) : Calls Try.prog 6 #[.int .i64 m, .int .u8 t] w fun e w' => e = .returned (.bool true) ∧ Below w.heap.size w w' :=
  ex_valG (kgM_ok (m := m) (n := 4) (ts := [0, 1]) (by omega) (by rw [fsA_lyN _ (by omega)]; simp [List.range_succ, List.filter, h0, h1, h2, h3])) 100000 [.y (.int .i64 m), .y (.int .u8 t)] [.tuple #[.int .i64 6, .int .i64 19, .int .i64 4], tv, tv, fv, fv] [((lyN 4).v, (lyN 4).v), (.int .i64 m, .int .i64 m), (.bool (isIn m 3), fv), (.bool (decide (-9223372036854775808 ≤ m)), tv), (.bool (decide (m ≤ 9223372036854775807)), tv), (.bool (isIn m 2), fv), (.bool (decide (-9223372036854775808 ≤ m)), tv), (.bool (decide (m ≤ 9223372036854775807)), tv), (.bool (isIn m 1), tv), (.bool (decide (-9223372036854775808 ≤ m)), tv), (.bool (decide (m ≤ 9223372036854775807)), tv), (.bool (isIn m 0), tv), (.bool (decide (-9223372036854775808 ≤ m)), tv), (.bool (decide (m ≤ 9223372036854775807)), tv), ((lyN 4).v, (lyN 4).v), (.int .i64 m, .int .i64 m), (.int .i64 (IntKind.i64.wrap (1 + Int.tmod (IntKind.i64.wrap t) 4)), .int .i64 4)] (by kernel_rfl) (by simp [denL, den]) (by simp [bdL, bd]) (by
    have i1 := hm.1
    have i2 := hm.2
    intro q hq
    simp only [List.mem_cons, List.not_mem_nil, or_false] at hq
    rcases hq with rfl | rfl | rfl | rfl | rfl | rfl | rfl | rfl | rfl | rfl | rfl | rfl | rfl | rfl | rfl | rfl | rfl <;> first | rfl | exact congrArg (Value.int .i64) ht | (simp only [tv, Value.bool.injEq, decide_eq_true_eq]; omega) | simp [tv, fv, h0, h1, h2, h3])
theorem m4_1101 (w : World) (m t : Int) (hm : I64 m) (ht : IntKind.i64.wrap (1 + Int.tmod (IntKind.i64.wrap t) 4) = 4) (h0 : isIn m 0 = true) (h1 : isIn m 1 = true) (h2 : isIn m 2 = false) (h3 : isIn m 3 = true) : Calls Try.prog 6 #[.int .i64 m, .int .u8 t] w fun e w' => e = .returned (.bool true) ∧ Below w.heap.size w w' :=
  ex_valG (kgM_ok (m := m) (n := 4) (ts := [0, 1, 3]) (by omega) (by rw [fsA_lyN _ (by omega)]; simp [List.range_succ, List.filter, h0, h1, h2, h3])) 100000 [.y (.int .i64 m), .y (.int .u8 t)] [.tuple #[.int .i64 6, .int .i64 19, .int .i64 4], tv, tv, fv, tv] [((lyN 4).v, (lyN 4).v), (.int .i64 m, .int .i64 m), (.bool (isIn m 3), tv), (.bool (decide (-9223372036854775808 ≤ m)), tv), (.bool (decide (m ≤ 9223372036854775807)), tv), (.bool (isIn m 2), fv), (.bool (decide (-9223372036854775808 ≤ m)), tv), (.bool (decide (m ≤ 9223372036854775807)), tv), (.bool (isIn m 1), tv), (.bool (decide (-9223372036854775808 ≤ m)), tv), (.bool (decide (m ≤ 9223372036854775807)), tv), (.bool (isIn m 0), tv), (.bool (decide (-9223372036854775808 ≤ m)), tv), (.bool (decide (m ≤ 9223372036854775807)), tv), ((lyN 4).v, (lyN 4).v), (.int .i64 m, .int .i64 m), (.int .i64 (IntKind.i64.wrap (1 + Int.tmod (IntKind.i64.wrap t) 4)), .int .i64 4)] (by kernel_rfl) (by simp [denL, den]) (by simp [bdL, bd]) (by
    have i1 := hm.1
    have i2 := hm.2
    intro q hq
    simp only [List.mem_cons, List.not_mem_nil, or_false] at hq
    rcases hq with rfl | rfl | rfl | rfl | rfl | rfl | rfl | rfl | rfl | rfl | rfl | rfl | rfl | rfl | rfl | rfl | rfl <;> first | rfl | exact congrArg (Value.int .i64) ht | (simp only [tv, Value.bool.injEq, decide_eq_true_eq]; omega) | simp [tv, fv, h0, h1, h2, h3])
theorem m4_1110 (w : World) (m t : Int) (hm : I64 m) (ht : IntKind.i64.wrap (1 + Int.tmod (IntKind.i64.wrap t) 4) = 4) (h0 : isIn m 0 = true) (h1 : isIn m 1 = true) (h2 : isIn m 2 = true) (h3 : isIn m 3 = false) : Calls Try.prog 6 #[.int .i64 m, .int .u8 t] w fun e w' => e = .returned (.bool true) ∧ Below w.heap.size w w' :=
  ex_valG (kgM_ok (m := m) (n := 4) (ts := [0, 1, 2]) (by omega) (by rw [fsA_lyN _ (by omega)]; simp [List.range_succ, List.filter, h0, h1, h2, h3])) 100000 [.y (.int .i64 m), .y (.int .u8 t)] [.tuple #[.int .i64 6, .int .i64 19, .int .i64 4], tv, tv, tv, fv] [((lyN 4).v, (lyN 4).v), (.int .i64 m, .int .i64 m), (.bool (isIn m 3), fv), (.bool (decide (-9223372036854775808 ≤ m)), tv), (.bool (decide (m ≤ 9223372036854775807)), tv), (.bool (isIn m 2), tv), (.bool (decide (-9223372036854775808 ≤ m)), tv), (.bool (decide (m ≤ 9223372036854775807)), tv), (.bool (isIn m 1), tv), (.bool (decide (-9223372036854775808 ≤ m)), tv), (.bool (decide (m ≤ 9223372036854775807)), tv), (.bool (isIn m 0), tv), (.bool (decide (-9223372036854775808 ≤ m)), tv), (.bool (decide (m ≤ 9223372036854775807)), tv), ((lyN 4).v, (lyN 4).v), (.int .i64 m, .int .i64 m), (.int .i64 (IntKind.i64.wrap (1 + Int.tmod (IntKind.i64.wrap t) 4)), .int .i64 4)] (by kernel_rfl) (by simp [denL, den]) (by simp [bdL, bd]) (by
    have i1 := hm.1
    have i2 := hm.2
    intro q hq
    simp only [List.mem_cons, List.not_mem_nil, or_false] at hq
    rcases hq with rfl | rfl | rfl | rfl | rfl | rfl | rfl | rfl | rfl | rfl | rfl | rfl | rfl | rfl | rfl | rfl | rfl <;> first | rfl | exact congrArg (Value.int .i64) ht | (simp only [tv, Value.bool.injEq, decide_eq_true_eq]; omega) | simp [tv, fv, h0, h1, h2, h3])
theorem m4_1111 (w : World) (m t : Int) (hm : I64 m) (ht : IntKind.i64.wrap (1 + Int.tmod (IntKind.i64.wrap t) 4) = 4) (h0 : isIn m 0 = true) (h1 : isIn m 1 = true) (h2 : isIn m 2 = true) (h3 : isIn m 3 = true) : Calls Try.prog 6 #[.int .i64 m, .int .u8 t] w fun e w' => e = .returned (.bool true) ∧ Below w.heap.size w w' :=
  ex_valG (kgM_ok (m := m) (n := 4) (ts := [0, 1, 2, 3]) (by omega) (by rw [fsA_lyN _ (by omega)]; simp [List.range_succ, List.filter, h0, h1, h2, h3])) 100000 [.y (.int .i64 m), .y (.int .u8 t)] [.tuple #[.int .i64 6, .int .i64 19, .int .i64 4], tv, tv, tv, tv] [((lyN 4).v, (lyN 4).v), (.int .i64 m, .int .i64 m), (.bool (isIn m 3), tv), (.bool (decide (-9223372036854775808 ≤ m)), tv), (.bool (decide (m ≤ 9223372036854775807)), tv), (.bool (isIn m 2), tv), (.bool (decide (-9223372036854775808 ≤ m)), tv), (.bool (decide (m ≤ 9223372036854775807)), tv), (.bool (isIn m 1), tv), (.bool (decide (-9223372036854775808 ≤ m)), tv), (.bool (decide (m ≤ 9223372036854775807)), tv), (.bool (isIn m 0), tv), (.bool (decide (-9223372036854775808 ≤ m)), tv), (.bool (decide (m ≤ 9223372036854775807)), tv), ((lyN 4).v, (lyN 4).v), (.int .i64 m, .int .i64 m), (.int .i64 (IntKind.i64.wrap (1 + Int.tmod (IntKind.i64.wrap t) 4)), .int .i64 4)] (by kernel_rfl) (by simp [denL, den]) (by simp [bdL, bd]) (by
    have i1 := hm.1
    have i2 := hm.2
    intro q hq
    simp only [List.mem_cons, List.not_mem_nil, or_false] at hq
    rcases hq with rfl | rfl | rfl | rfl | rfl | rfl | rfl | rfl | rfl | rfl | rfl | rfl | rfl | rfl | rfl | rfl | rfl <;> first | rfl | exact congrArg (Value.int .i64) ht | (simp only [tv, Value.bool.injEq, decide_eq_true_eq]; omega) | simp [tv, fv, h0, h1, h2, h3])
end Go.Proofs.Ytmjfnlangebhlaa
