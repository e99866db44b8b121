
/-
  Layer 4: the reference: the value of digits.
-/
import Derived.Test.YthkgmahkmflfkaaDoorRows
import Derived.Test.YthkgmahkmflfkaaDoorBase
import Derived.Test.YthkgmahkmflfkaaDoorLx7
import Derived.WalkKit
namespace Go.Proofs.YthkgmahkmflfkaaDoor
open Go Go.RowKit SZ
set_option linter.unusedVariables false
set_option linter.unusedSimpArgs false
set_option maxRecDepth 100000
attribute [local irreducible] post GD Nxt NxtAll
noncomputable def rnC : Cfg := ⟨goZ 60 [0] [.code (bodyOf Tryd.f22)], ⟨0, [], []⟩⟩
noncomputable def rnS (l : List Nat) (j : Nat) : SS := ⟨35, [(0, .v (.string (strOf l))), (3, .v (.int .i64 (numV (l.take j) : Int))), (4, .v (.int .i64 (j : Int)))], []⟩
theorem nOk_13 {l : List Nat} (h13 : l.length ≤ 13) (h0 : ¬(1 < l.length ∧ l.getD 0 0 = 48)) : nOk l = decide (numV l ≤ 1099511627776) := by
  unfold nOk
  have h3 : (decide (1 < l.length) && decide (l.getD 0 0 = 48)) = false := by
    rw [Bool.eq_false_iff]
    intro h
    simp only [Bool.and_eq_true, decide_eq_true_eq] at h
    exact h0 h
  rw [h3, decide_eq_true h13]
  rfl
set_option maxHeartbeats 8000000 in
theorem rn_e (w0 : World) (l : List Nat) (hl : ∀ b ∈ l, b < 256) (hd : ∀ b ∈ l, digB b = true) (h13 : l.length ≤ 13) (h0 : ¬(1 < l.length ∧ l.getD 0 0 = 48)) (m : Nat) (aa : Act) (w : World) (S : Sy w0 [] [] (rnS l (l.length)) [] aa w) : post Tryd.prog (.rnd (m + 1) (bodyL rnC) :: rnC.k.tail) (bodyPost Tryd.prog Tryd.f22 (fun e w' => e = .returned (.int .i64 (if nOk l = true then (numV l : Int) else -1)) ∧ Below w0.heap.size w0 w')) .normal aa w := by
  have hk := nOk_13 h13 h0
  have ht : numV (l.take l.length) = numV l := by rw [List.take_length]
  refine sy_run (c := ⟨(.rnd (m + 1) (bodyL rnC) :: rnC.k.tail), rnS l l.length⟩) ⟨0, [5]⟩ 50 S fun bs aa w S => ?_
  refine sy_reg S fun S => ?_
  refine sy_ops 3 S fun bs aa w S => ?_
  refine sy_cast 20 S (congrArg (Value.int .i64) (by rw [strOf_size] : ((strOf l).size : Int) = (l.length : Int))) (by kernel_rfl) fun S => ?_
  refine sy_ops 1 S fun bs aa w S => ?_
  refine sy_cast 21 S (congrArg Value.bool (decide_eq_false (by omega) : decide ((l.length : Int) < (l.length : Int)) = false)) (by kernel_rfl) fun S => ?_
  refine sy_run ⟨0, [8]⟩ 60 S fun bs aa w S => ?_
  refine sy_reg S fun S => ?_
  refine sy_ops 2 S fun bs aa w S => ?_
  by_cases hm : numV l ≤ 1099511627776
  · rw [decide_eq_true hm] at hk
    refine sy_cast 33 S (congrArg Value.bool (decide_eq_false (by rw [ht]; omega) : decide ((numV (l.take l.length) : Int) > 1099511627776) = false)) (by kernel_rfl) fun S => ?_
    refine sy_run ⟨0, []⟩ 60 S fun bs aa w S => ?_
    rw [if_pos hk]
    exact sy_ret S (by kernel_rfl) (by kernel_rfl) fun hg => ⟨by rw [← ht], bel_gr hg⟩
  · rw [decide_eq_false hm] at hk
    refine sy_cast 33 S (congrArg Value.bool (decide_eq_true (by rw [ht]; omega) : decide ((numV (l.take l.length) : Int) > 1099511627776) = true)) (by kernel_rfl) fun S => ?_
    refine sy_run ⟨0, []⟩ 60 S fun bs aa w S => ?_
    rw [if_neg (by rw [hk]; decide)]
    exact sy_ret S (by kernel_rfl) (by kernel_rfl) fun hg => ⟨rfl, bel_gr hg⟩
set_option maxHeartbeats 8000000 in
theorem rn_s (w0 : World) (l : List Nat) (hl : ∀ b ∈ l, b < 256) (hd : ∀ b ∈ l, digB b = true) (h13 : l.length ≤ 13) (h0 : ¬(1 < l.length ∧ l.getD 0 0 = 48)) (m j : Nat) (hj : j < l.length) (ih : ∀ (aa : Act) (w : World) (S : Sy w0 [] [] (rnS l (j + 1)) [] aa w), post Tryd.prog (.rnd (m) (bodyL rnC) :: rnC.k.tail) (bodyPost Tryd.prog Tryd.f22 (fun e w' => e = .returned (.int .i64 (if nOk l = true then (numV l : Int) else -1)) ∧ Below w0.heap.size w0 w')) .normal aa w) (aa : Act) (w : World) (S : Sy w0 [] [] (rnS l (j)) [] aa w) : post Tryd.prog (.rnd (m + 1) (bodyL rnC) :: rnC.k.tail) (bodyPost Tryd.prog Tryd.f22 (fun e w' => e = .returned (.int .i64 (if nOk l = true then (numV l : Int) else -1)) ∧ Below w0.heap.size w0 w')) .normal aa w := by
  have hb := hd _ (getD_mem l j 0 hj)
  simp only [digB, Bool.and_eq_true, decide_eq_true_eq] at hb
  have hn := numV_13 hd h13 (j := j) (by omega)
  have hs := numV_take hj
  refine sy_run (c := ⟨(.rnd (m + 1) (bodyL rnC) :: rnC.k.tail), rnS l j⟩) ⟨0, [5]⟩ 50 S fun bs aa w S => ?_
  refine sy_reg S fun S => ?_
  refine sy_ops 3 S fun bs aa w S => ?_
  refine sy_cast 20 S (congrArg (Value.int .i64) (by rw [strOf_size] : ((strOf l).size : Int) = (l.length : Int))) (by kernel_rfl) fun S => ?_
  refine sy_ops 1 S fun bs aa w S => ?_
  refine sy_cast 21 S (congrArg Value.bool (decide_eq_true (by omega) : decide ((j : Int) < (l.length : Int)) = true)) (by kernel_rfl) fun S => ?_
  refine sy_run ⟨0, [7]⟩ 60 S fun bs aa w S => ?_
  refine sy_reg S fun S => ?_
  refine sy_ops 2 S fun bs aa w S => ?_
  refine sy_cast 25 S (congrArg (Value.int .i64) (by rw [IntKind.wrap_i64]; omega : IntKind.i64.wrap (10 * (numV (l.take j) : Int)) = ((10 * numV (l.take j) : Nat) : Int))) (by kernel_rfl) fun S => ?_
  refine sy_ops 2 S fun bs aa w S => ?_
  refine sy_ex (op := .index 9 (.tmp 26) (.tmp 27)) (ty := 5) (v := .int .u8 (((l.getD j 0) : Nat) : Int)) S (by kernel_rfl) (ex_ixl (k := j) Tryd.underlying9 (by kernel_rfl) (by kernel_rfl) hl hj) fun aa S => ?_
  refine sy_ops 1 S fun bs aa w S => ?_
  refine sy_cast 29 S (congrArg (Value.int .i64) (by rw [IntKind.wrap_i64]; omega : IntKind.i64.wrap ((l.getD j 0) : Int) = ((l.getD j 0) : Int))) (by kernel_rfl) fun S => ?_
  refine sy_ops 1 S fun bs aa w S => ?_
  refine sy_cast 30 S (congrArg (Value.int .i64) (by rw [IntKind.wrap_i64]; omega : IntKind.i64.wrap (((10 * numV (l.take j) : Nat) : Int) + ((l.getD j 0) : Int)) = ((10 * numV (l.take j) + (l.getD j 0) : Nat) : Int))) (by kernel_rfl) fun S => ?_
  refine sy_ops 1 S fun bs aa w S => ?_
  refine sy_cast 31 S (congrArg (Value.int .i64) (by rw [IntKind.wrap_i64]; omega : IntKind.i64.wrap (((10 * numV (l.take j) + (l.getD j 0) : Nat) : Int) - 48) = ((numV (l.take (j + 1)) : Nat) : Int))) (by kernel_rfl) fun S => ?_
  refine sy_run ⟨0, [6]⟩ 60 S fun bs aa w S => ?_
  refine sy_reg S fun S => ?_
  refine sy_ops 2 S fun bs aa w S => ?_
  refine sy_cast 23 S (congrArg (Value.int .i64) (by rw [IntKind.wrap_i64]; omega : IntKind.i64.wrap ((j : Int) + 1) = ((j + 1 : Nat) : Int))) (by kernel_rfl) fun S => ?_
  refine sy_run ⟨0, [999]⟩ 50 S fun bs aa w S => ?_
  have S2 := S.to [] (rnS l (j + 1)) (by kernel_rfl) (by kernel_rfl) (by kernel_rfl) (by kernel_rfl) (by kernel_rfl)
  refine sy_at2 (k' := (.rnd (m) (bodyL rnC) :: rnC.k.tail)) (by kernel_rfl) ?_
  exact ih aa w S2
theorem rn_a (w0 : World) (l : List Nat) (hl : ∀ b ∈ l, b < 256) (hd : ∀ b ∈ l, digB b = true) (h13 : l.length ≤ 13) (h0 : ¬(1 < l.length ∧ l.getD 0 0 = 48)) : ∀ (m j : Nat), j + m = l.length → ∀ (aa : Act) (w : World) (S : Sy w0 [] [] (rnS l (j)) [] aa w), post Tryd.prog (.rnd (m + 1) (bodyL rnC) :: rnC.k.tail) (bodyPost Tryd.prog Tryd.f22 (fun e w' => e = .returned (.int .i64 (if nOk l = true then (numV l : Int) else -1)) ∧ Below w0.heap.size w0 w')) .normal aa w := by
  intro m
  induction m with
  | zero =>
    intro j hj aa w S
    obtain rfl : j = l.length := by omega
    exact rn_e w0 l hl hd h13 h0 0 aa w S
  | succ m ih => intro j hj aa w S; exact rn_s w0 l hl hd h13 h0 (m + 1) j (by omega) (fun aa w S => ih (j + 1) (by omega) aa w S) aa w S
set_option maxHeartbeats 8000000 in
theorem rnum_t (w0 : World) (l : List Nat) (hl : ∀ b ∈ l, b < 256) (hd : ∀ b ∈ l, digB b = true) (hne : 1 ≤ l.length) : Calls Tryd.prog 22 #[.string (strOf l)] w0 (fun e w' => e = .returned (.int .i64 (if nOk l = true then (numV l : Int) else -1)) ∧ Below w0.heap.size w0 w') := by
  refine sy_enterF [] [] (by intro f hf; cases hf) Tryd.func22 rfl rfl fun aa S => ?_
  refine sy_run ⟨0, [1]⟩ 60 S fun bs aa w S => ?_
  refine sy_reg S fun S => ?_
  refine sy_ops 2 S fun bs aa w S => ?_
  refine sy_cast 6 S (congrArg (Value.int .i64) (by rw [strOf_size] : ((strOf l).size : Int) = (l.length : Int))) (by kernel_rfl) fun S => ?_
  refine sy_ops 1 S fun bs aa w S => ?_
  by_cases h13 : l.length ≤ 13
  case neg =>
    refine sy_cast 7 S (congrArg Value.bool (decide_eq_true (by omega) : decide ((l.length : Int) > 13) = true)) (by kernel_rfl) fun S => ?_
    refine sy_run ⟨0, []⟩ 60 S fun bs aa w S => ?_
    have hk : nOk l = false := by unfold nOk; rw [decide_eq_false h13]; rfl
    rw [if_neg (by rw [hk]; decide)]
    exact sy_ret S (by kernel_rfl) (by kernel_rfl) fun hg => ⟨rfl, bel_gr hg⟩
  refine sy_cast 7 S (congrArg Value.bool (decide_eq_false (by omega) : decide ((l.length : Int) > 13) = false)) (by kernel_rfl) fun S => ?_
  refine sy_ops 2 S fun bs aa w S => ?_
  refine sy_ex (op := .index 9 (.tmp 9) (.const (.int .i64 0))) (ty := 5) (v := .int .u8 ((l.getD 0 0 : Nat) : Int)) S (by kernel_rfl) (ex_ixl (k := 0) Tryd.underlying9 (by kernel_rfl) (by kernel_rfl) hl (by omega)) fun aa S => ?_
  refine sy_ops 1 S fun bs aa w S => ?_
  by_cases h48 : l.getD 0 0 = 48
  · refine sy_cast 11 S (congrArg Value.bool (decide_eq_true (by omega) : decide (((l.getD 0 0 : Nat) : Int) = 48) = true)) (by kernel_rfl) fun S => ?_
    refine sy_ops 3 S fun bs aa w S => ?_
    refine sy_cast 14 S (congrArg (Value.int .i64) (by rw [strOf_size] : ((strOf l).size : Int) = (l.length : Int))) (by kernel_rfl) fun S => ?_
    refine sy_ops 1 S fun bs aa w S => ?_
    by_cases h1 : 1 < l.length
    · refine sy_cast 15 S (congrArg Value.bool (decide_eq_true (by omega) : decide ((l.length : Int) > 1) = true)) (by kernel_rfl) fun S => ?_
      refine sy_run ⟨0, []⟩ 60 S fun bs aa w S => ?_
      have hk : nOk l = false := by unfold nOk; rw [decide_eq_true h1, decide_eq_true h48]; simp
      rw [if_neg (by rw [hk]; decide)]
      exact sy_ret S (by kernel_rfl) (by kernel_rfl) fun hg => ⟨rfl, bel_gr hg⟩
    · refine sy_cast 15 S (congrArg Value.bool (decide_eq_false (by omega) : decide ((l.length : Int) > 1) = false)) (by kernel_rfl) fun S => ?_
      have h0 : ¬(1 < l.length ∧ l.getD 0 0 = 48) := fun h => h1 h.1
      refine sy_run ⟨0, []⟩ 60 S fun bs aa w S => ?_
      have S2 := S.to [] (rnS l 0) (by kernel_rfl) (by kernel_rfl) (by kernel_rfl) (by kernel_rfl) (by kernel_rfl)
      refine sy_loop (l.length + 1) (by kernel_rfl) ?_
      refine sy_at2 (k' := (.rnd (l.length + 1) (bodyL rnC) :: rnC.k.tail)) (by kernel_rfl) ?_
      exact rn_a w0 l hl hd h13 h0 l.length 0 (by omega) aa w S2
  · refine sy_cast 11 S (congrArg Value.bool (decide_eq_false (by omega) : decide (((l.getD 0 0 : Nat) : Int) = 48) = false)) (by kernel_rfl) fun S => ?_
    have h0 : ¬(1 < l.length ∧ l.getD 0 0 = 48) := fun h => h48 h.2
    refine sy_run ⟨0, []⟩ 60 S fun bs aa w S => ?_
    have S2 := S.to [] (rnS l 0) (by kernel_rfl) (by kernel_rfl) (by kernel_rfl) (by kernel_rfl) (by kernel_rfl)
    refine sy_loop (l.length + 1) (by kernel_rfl) ?_
    refine sy_at2 (k' := (.rnd (l.length + 1) (bodyL rnC) :: rnC.k.tail)) (by kernel_rfl) ?_
    exact rn_a w0 l hl hd h13 h0 l.length 0 (by omega) aa w S2
end Go.Proofs.YthkgmahkmflfkaaDoor
