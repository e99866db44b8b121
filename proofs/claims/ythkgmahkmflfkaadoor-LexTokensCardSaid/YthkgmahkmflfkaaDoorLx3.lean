
/-
  Layer 4: the value of digits.
-/
import Derived.Test.YthkgmahkmflfkaaDoorRows
import Derived.Test.YthkgmahkmflfkaaDoorBase
import Derived.Test.YthkgmahkmflfkaaDoorLx2
import Derived.WalkKit
namespace Go.Proofs.YthkgmahkmflfkaaDoor
open Go Go.RowKit SZ
set_option linter.unusedVariables false
set_option linter.unusedSimpArgs false
set_option maxRecDepth 100000
attribute [local irreducible] post GD Nxt NxtAll
def numV (w : List Nat) : Nat := w.foldl (fun n c => 10 * n + (c - 48)) 0
theorem numV_snoc (w : List Nat) (c : Nat) : numV (w ++ [c]) = 10 * numV w + (c - 48) := by simp [numV, List.foldl_append]
theorem numV_take {w : List Nat} {j : Nat} (h : j < w.length) : numV (w.take (j + 1)) = 10 * numV (w.take j) + (w.getD j 0 - 48) := by
  have e : w.getD j 0 = w[j] := by simp [List.getD, List.getElem?_eq_getElem h]
  rw [List.take_succ_eq_append_getElem h, numV_snoc, e]
theorem numV_lt {w : List Nat} (hd : ∀ b ∈ w, digB b = true) : ∀ j, j ≤ w.length → numV (w.take j) < 10 ^ j
  | 0, _ => by simp [numV]
  | j + 1, h => by
    have ih := numV_lt hd j (by omega)
    have hb := hd _ (getD_mem w j 0 (by omega))
    simp only [digB, Bool.and_eq_true, decide_eq_true_eq] at hb
    rw [numV_take (by omega), Nat.pow_succ]
    omega
theorem numV_13 {w : List Nat} (hd : ∀ b ∈ w, digB b = true) (h13 : w.length ≤ 13) {j : Nat} (hj : j ≤ w.length) : numV (w.take j) < 10000000000000 := by
  have h := numV_lt hd j hj
  have h2 : 10 ^ j ≤ 10 ^ 13 := Nat.pow_le_pow_right (by omega) (by omega)
  omega
/-- Whether the digits are a number of the language. -/
def nOk (w : List Nat) : Bool := decide (w.length ≤ 13) && !(decide (1 < w.length) && decide (w.getD 0 0 = 48)) && decide (numV w ≤ 1099511627776)
noncomputable def nuC : Cfg := ⟨goZ 60 [0] [.code (bodyOf Tryd.f28)], ⟨0, [], []⟩⟩
noncomputable def nuS (l : List Nat) (g j : Nat) : SS := ⟨34, [(0, .v (.string (strOf l))), (4, .v (.int .i64 (numV (l.take j) : Int))), (21, .v (.pointer (some ⟨g, 0, none⟩)))], []⟩
set_option maxHeartbeats 8000000 in
theorem nu_e (w0 : World) (l : List Nat) (hl : ∀ b ∈ l, b < 256) (hd : ∀ b ∈ l, digB b = true) (h13 : l.length ≤ 13) (h0 : ¬(1 < l.length ∧ l.getD 0 0 = 48)) (g : Nat) (hg : w0.heap.size ≤ g) (m : Nat) (aa : Act) (w : World) (S : Sy w0 [] [] (nuS l g (l.length)) [rfIt g (strOf l) (l.length)] aa w) : post Tryd.prog (.rnd (m + 1) (bodyL nuC) :: nuC.k.tail) (bodyPost Tryd.prog Tryd.f28 fun e w' => (∃ v : Int, e = .returned (.tuple #[.int .i64 v, .bool (nOk l)]) ∧ (nOk l = true → v = (numV l : Int))) ∧ Below w0.heap.size w0 w') .normal aa w := by
  have hk : nOk l = decide (numV l ≤ 1099511627776) := by
    unfold nOk
    have h3 : (decide (1 < l.length) && decide (l.getD 0 0 = 48)) = false := by
      rw [Bool.eq_false_iff]
      intro h
      simp only [Bool.and_eq_true, decide_eq_true_eq] at h
      exact h0 h
    rw [h3, decide_eq_true h13]
    rfl
  have ht : numV (l.take l.length) = numV l := by rw [List.take_length]
  refine sy_run (c := ⟨(.rnd (m + 1) (bodyL nuC) :: nuC.k.tail), nuS l g l.length⟩) ⟨0, [5]⟩ 50 S fun bs aa w S => ?_
  refine sy_reg S fun S => ?_
  refine sy_nxe (ty := 0) (x := .tmp 21) S (by kernel_rfl) (by kernel_rfl) (by rw [strOf_size]; omega) fun aa S => ?_
  refine sy_run ⟨0, [8]⟩ 60 S fun bs aa w S => ?_
  refine sy_reg S fun S => ?_
  refine sy_ops 3 S fun bs aa w S => ?_
  refine sy_cast 33 S (congrArg Value.bool (by rw [hk, ht]; exact decide_eq_decide.2 (by omega) : decide ((numV (l.take l.length) : Int) ≤ 1099511627776) = nOk l)) (by kernel_rfl) fun S => ?_
  refine sy_run ⟨0, []⟩ 60 S fun bs aa w S => ?_
  exact sy_ret S (by kernel_rfl) (by kernel_rfl) fun hg => ⟨⟨((numV (l.take l.length) : Nat) : Int), rfl, fun _ => by rw [ht]⟩, bel_gr hg⟩
set_option maxHeartbeats 8000000 in
theorem nu_s (w0 : World) (l : List Nat) (hl : ∀ b ∈ l, b < 256) (hd : ∀ b ∈ l, digB b = true) (h13 : l.length ≤ 13) (h0 : ¬(1 < l.length ∧ l.getD 0 0 = 48)) (g : Nat) (hg : w0.heap.size ≤ g) (m j : Nat) (hj : j < l.length) (ih : ∀ (aa : Act) (w : World) (S : Sy w0 [] [] (nuS l g (j + 1)) [rfIt g (strOf l) (j + 1)] aa w), post Tryd.prog (.rnd (m) (bodyL nuC) :: nuC.k.tail) (bodyPost Tryd.prog Tryd.f28 fun e w' => (∃ v : Int, e = .returned (.tuple #[.int .i64 v, .bool (nOk l)]) ∧ (nOk l = true → v = (numV l : Int))) ∧ Below w0.heap.size w0 w') .normal aa w) (aa : Act) (w : World) (S : Sy w0 [] [] (nuS l g (j)) [rfIt g (strOf l) (j)] aa w) : post Tryd.prog (.rnd (m + 1) (bodyL nuC) :: nuC.k.tail) (bodyPost Tryd.prog Tryd.f28 fun e w' => (∃ v : Int, e = .returned (.tuple #[.int .i64 v, .bool (nOk l)]) ∧ (nOk l = true → v = (numV l : Int))) ∧ Below w0.heap.size w0 w') .normal aa w := by
  have hb := hd _ (getD_mem l j 0 hj)
  simp only [digB, Bool.and_eq_true, decide_eq_true_eq] at hb
  have hn := numV_13 hd h13 (j := j) (by omega)
  have hs := numV_take hj
  refine sy_run (c := ⟨(.rnd (m + 1) (bodyL nuC) :: nuC.k.tail), nuS l g j⟩) ⟨0, [5]⟩ 50 S fun bs aa w S => ?_
  refine sy_reg S fun S => ?_
  refine sy_nxt (ty := 0) (x := .tmp 21) S hg (fun f hf => by cases hf) (by kernel_rfl) (by kernel_rfl) (by rw [strOf_size]; exact hj) (l.getD j 0) 1 (dec_lo hl hj (by omega)) fun aa w S => ?_
  refine sy_run ⟨0, [7]⟩ 60 S fun bs aa w S => ?_
  refine sy_reg S fun S => ?_
  refine sy_ops 2 S fun bs aa w S => ?_
  refine sy_cast 26 S (congrArg (Value.int .i64) (by rw [IntKind.wrap_i64]; omega : IntKind.i64.wrap (10 * (numV (l.take j) : Int)) = ((10 * numV (l.take j) : Nat) : Int))) (by kernel_rfl) fun S => ?_
  refine sy_ops 2 S fun bs aa w S => ?_
  refine sy_cast 28 S (congrArg (Value.int .i32) (by rw [IntKind.wrap_i32]; omega : IntKind.i32.wrap (((l.getD j 0) : Int) - 48) = (((l.getD j 0) - 48 : Nat) : Int))) (by kernel_rfl) fun S => ?_
  refine sy_ops 1 S fun bs aa w S => ?_
  refine sy_cast 29 S (congrArg (Value.int .i64) (by rw [IntKind.wrap_i64]; omega : IntKind.i64.wrap (((l.getD j 0) - 48 : Nat) : Int) = (((l.getD j 0) - 48 : Nat) : Int))) (by kernel_rfl) fun S => ?_
  refine sy_ops 1 S fun bs aa w S => ?_
  refine sy_cast 30 S (congrArg (Value.int .i64) (by rw [IntKind.wrap_i64]; omega : IntKind.i64.wrap (((10 * numV (l.take j) : Nat) : Int) + (((l.getD j 0) - 48 : Nat) : Int)) = ((numV (l.take (j + 1)) : Nat) : Int))) (by kernel_rfl) fun S => ?_
  refine sy_run ⟨0, [999]⟩ 50 S fun bs aa w S => ?_
  have S2 := S.to [] (nuS l g (j + 1)) (by kernel_rfl) (by kernel_rfl) (by kernel_rfl) (by kernel_rfl) (by kernel_rfl)
  refine sy_at2 (k' := (.rnd (m) (bodyL nuC) :: nuC.k.tail)) (by kernel_rfl) ?_
  exact ih aa w S2
theorem nu_a (w0 : World) (l : List Nat) (hl : ∀ b ∈ l, b < 256) (hd : ∀ b ∈ l, digB b = true) (h13 : l.length ≤ 13) (h0 : ¬(1 < l.length ∧ l.getD 0 0 = 48)) (g : Nat) (hg : w0.heap.size ≤ g) : ∀ (m j : Nat), j + m = l.length → ∀ (aa : Act) (w : World) (S : Sy w0 [] [] (nuS l g (j)) [rfIt g (strOf l) (j)] aa w), post Tryd.prog (.rnd (m + 1) (bodyL nuC) :: nuC.k.tail) (bodyPost Tryd.prog Tryd.f28 fun e w' => (∃ v : Int, e = .returned (.tuple #[.int .i64 v, .bool (nOk l)]) ∧ (nOk l = true → v = (numV l : Int))) ∧ Below w0.heap.size w0 w') .normal aa w := by
  intro m
  induction m with
  | zero =>
    intro j hj aa w S
    obtain rfl : j = l.length := by omega
    exact nu_e w0 l hl hd h13 h0 g hg 0 aa w S
  | succ m ih => intro j hj aa w S; exact nu_s w0 l hl hd h13 h0 g hg (m + 1) j (by omega) (fun aa w S => ih (j + 1) (by omega) aa w S) aa w S
set_option maxHeartbeats 8000000 in
theorem num_t (w0 : World) (l : List Nat) (hl : ∀ b ∈ l, b < 256) (hd : ∀ b ∈ l, digB b = true) : Calls Tryd.prog 28 #[.string (strOf l)] w0 (fun e w' => (∃ v : Int, e = .returned (.tuple #[.int .i64 v, .bool (nOk l)]) ∧ (nOk l = true → v = (numV l : Int))) ∧ Below w0.heap.size w0 w') := by
  refine sy_enterF [] [] (by intro f hf; cases hf) Tryd.func28 rfl rfl fun aa S => ?_
  have hsz := strOf_size l
  refine sy_run ⟨0, [1]⟩ 60 S fun bs aa w S => ?_
  refine sy_reg S fun S => ?_
  refine sy_ops 2 S fun bs aa w S => ?_
  refine sy_cast 8 S (congrArg (Value.int .i64) (by rw [hsz] : ((strOf l).size : Int) = (l.length : Int))) (by kernel_rfl) fun S => ?_
  refine sy_ops 1 S fun bs aa w S => ?_
  by_cases h13 : l.length ≤ 13
  case neg =>
    refine sy_cast 9 S (congrArg Value.bool (decide_eq_true (by omega) : decide ((l.length : Int) > 13) = true)) (by kernel_rfl) fun S => ?_
    refine sy_run ⟨0, []⟩ 60 S fun bs aa w S => ?_
    have hk : nOk l = false := by unfold nOk; rw [decide_eq_false h13]; rfl
    rw [hk]
    exact sy_ret S (by kernel_rfl) (by kernel_rfl) fun hg => ⟨⟨0, rfl, fun h => by cases h⟩, bel_gr hg⟩
  refine sy_cast 9 S (congrArg Value.bool (decide_eq_false (by omega) : decide ((l.length : Int) > 13) = false)) (by kernel_rfl) fun S => ?_
  refine sy_ops 3 S fun bs aa w S => ?_
  refine sy_cast 12 S (congrArg (Value.int .i64) (by rw [hsz] : ((strOf l).size : Int) = (l.length : Int))) (by kernel_rfl) fun S => ?_
  refine sy_ops 1 S fun bs aa w S => ?_
  by_cases h1 : 1 < l.length
  · refine sy_cast 13 S (congrArg Value.bool (decide_eq_true (by omega) : decide ((l.length : Int) > 1) = true)) (by kernel_rfl) fun S => ?_
    refine sy_ops 2 S fun bs aa w S => ?_
    refine sy_ex (op := .index 9 (.tmp 15) (.const (.int .i64 0))) (ty := 5) (v := .int .u8 ((l.getD 0 0 : Nat) : Int)) S (by kernel_rfl) (ex_ixl (k := 0) Tryd.underlying9 (by kernel_rfl) (by kernel_rfl) hl (by omega)) fun aa S => ?_
    refine sy_ops 1 S fun bs aa w S => ?_
    by_cases h48 : l.getD 0 0 = 48
    · refine sy_cast 17 S (congrArg Value.bool (decide_eq_true (by omega) : decide (((l.getD 0 0 : Nat) : Int) = 48) = true)) (by kernel_rfl) fun S => ?_
      refine sy_run ⟨0, []⟩ 60 S fun bs aa w S => ?_
      have hk : nOk l = false := by unfold nOk; rw [decide_eq_true h1, decide_eq_true h48]; simp
      rw [hk]
      exact sy_ret S (by kernel_rfl) (by kernel_rfl) fun hg => ⟨⟨0, rfl, fun h => by cases h⟩, bel_gr hg⟩
    · refine sy_cast 17 S (congrArg Value.bool (decide_eq_false (by omega) : decide (((l.getD 0 0 : Nat) : Int) = 48) = false)) (by kernel_rfl) fun S => ?_
      have h0 : ¬(1 < l.length ∧ l.getD 0 0 = 48) := fun h => h48 h.2
      refine sy_run ⟨0, [4]⟩ 60 S fun bs aa w S => ?_
      refine sy_reg S fun S => ?_
      refine sy_ops 1 S fun bs aa w S => ?_
      refine sy_rng (ty := 0) (t := 9) (x := .tmp 20) (p := strOf l) S Tryd.underlying9 (by kernel_rfl) (by kernel_rfl) fun g aa w hg hf S => ?_
      refine sy_run ⟨0, []⟩ 60 S fun bs aa w S => ?_
      have S2 := S.to [] (nuS l g 0) (by kernel_rfl) (by kernel_rfl) (by kernel_rfl) (by kernel_rfl) (by kernel_rfl)
      refine sy_loop (l.length + 1) (by kernel_rfl) ?_
      refine sy_at2 (k' := (.rnd (l.length + 1) (bodyL nuC) :: nuC.k.tail)) (by kernel_rfl) ?_
      exact nu_a w0 l hl hd h13 h0 g hg l.length 0 (by omega) aa w S2
  · refine sy_cast 13 S (congrArg Value.bool (decide_eq_false (by omega) : decide ((l.length : Int) > 1) = false)) (by kernel_rfl) fun S => ?_
    have h0 : ¬(1 < l.length ∧ l.getD 0 0 = 48) := fun h => h1 h.1
    refine sy_run ⟨0, [4]⟩ 60 S fun bs aa w S => ?_
    refine sy_reg S fun S => ?_
    refine sy_ops 1 S fun bs aa w S => ?_
    refine sy_rng (ty := 0) (t := 9) (x := .tmp 20) (p := strOf l) S Tryd.underlying9 (by kernel_rfl) (by kernel_rfl) fun g aa w hg hf S => ?_
    refine sy_run ⟨0, []⟩ 60 S fun bs aa w S => ?_
    have S2 := S.to [] (nuS l g 0) (by kernel_rfl) (by kernel_rfl) (by kernel_rfl) (by kernel_rfl) (by kernel_rfl)
    refine sy_loop (l.length + 1) (by kernel_rfl) ?_
    refine sy_at2 (k' := (.rnd (l.length + 1) (bodyL nuC) :: nuC.k.tail)) (by kernel_rfl) ?_
    exact nu_a w0 l hl hd h13 h0 g hg l.length 0 (by omega) aa w S2
end Go.Proofs.YthkgmahkmflfkaaDoor
