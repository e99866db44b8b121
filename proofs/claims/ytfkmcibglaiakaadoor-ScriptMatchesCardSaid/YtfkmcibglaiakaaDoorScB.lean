
/-
  Layer 27: numbers and words.
-/
import Derived.Test.YtfkmcibglaiakaaDoorRows
import Derived.Test.YtfkmcibglaiakaaDoorBase
import Derived.Test.YtfkmcibglaiakaaDoorScA
import Derived.Test.YtfkmcibglaiakaaDoorLx4
import Derived.WalkKit
namespace Go.Proofs.YtfkmcibglaiakaaDoor
open Go Go.RowKit SZ
set_option linter.unusedVariables false
set_option linter.unusedSimpArgs false
set_option maxRecDepth 100000
attribute [local irreducible] post GD Nxt NxtAll
structure Pw where
  k : Int
  a : Int
  b : Int
  c : List Int
/-- The value of a text's number, if it is one. -/
def numN (l : List Nat) : Option Nat := if l.length = 0 ∨ 7 < l.length ∨ (1 < l.length ∧ l.getD 0 0 = 48) ∨ ¬l.all digB = true then none else some (numV l)
def numM (l : List Nat) (m : Nat) : Option Nat := match numN l with | some n => if n ≤ m then some n else none | none => none
def stepS (l : List Nat) : Option (Pw × Nat) := (numM l 3).map fun (n : Nat) => (⟨1, (n : Int), 0, []⟩, 1)
def repS (l : List Nat) : Option (Pw × Nat) := match cutL 120 l with
  | none => none
  | some p => match numM p.2 9999999 with
    | none => none
    | some c => if c < 1 then none else (numM p.1 3).map fun (n : Nat) => (⟨1, (n : Int), 0, []⟩, c)
def stallS (l : List Nat) : Option (Pw × Nat) := match cutL 126 l with
  | none => none
  | some p => match numM p.1 3 with
    | none => none
    | some n => (numM p.2 1048576).map fun (m : Nat) => (⟨2, (n : Int), (m : Int), []⟩, 1)
def cutsG : List (List Nat) → Option (List Int)
  | [] => some []
  | p :: r => match numM p 32 with
    | none => none
    | some n => (cutsG r).map fun (q : List Int) => (n : Int) :: q
def cutsS (l : List Nat) : Option (List Int) := if l = [] then some [] else cutsG (splL 44 l)
def crashS : List Nat → Option (Pw × Nat)
  | 33 :: l => match cutsS l with
    | none => none
    | some cs => if cs.length ≤ 64 then some (⟨3, 0, 0, cs⟩, 1) else none
  | _ => none
def wordS (l : List Nat) : Option (Pw × Nat) := ((stepS l).or (repS l)).or ((stallS l).or (crashS l))
def parseF : List (List Nat) → Nat → List Pw → Int × List Pw
  | [], t, ps => if 10000 < t then (2, []) else (0, ps)
  | w :: r, t, ps => match wordS w with
    | none => (3, [])
    | some x => parseF r (t + x.2) (if t + x.2 ≤ 10000 then ps ++ List.replicate x.2 x.1 else ps)
def parseS (l : List Nat) : Int × List Pw := parseF (fieldG [] l) 0 []
theorem digs_lt {l : List Nat} (h : ∀ i, i < l.length → digB (l.getD i 0) = true) : ∀ j, j ≤ l.length → numV (l.take j) < 10 ^ j
  | 0, _ => by simp [numV]
  | j + 1, hj => by
    have ih := digs_lt h j (by omega)
    have hb := h j (by omega)
    simp only [digB, Bool.and_eq_true, decide_eq_true_eq] at hb
    rw [numV_take (by omega), Nat.pow_succ]
    omega
theorem dig_lt {l : List Nat} : ∀ j, j ≤ l.length → (∀ i, i < j → digB (l.getD i 0) = true) → numV (l.take j) < 10 ^ j
  | 0, _, _ => by simp [numV]
  | j + 1, hj, h => by
    have ih := dig_lt j (by omega) (fun i hi => h i (by omega))
    have hb := h j (by omega)
    simp only [digB, Bool.and_eq_true, decide_eq_true_eq] at hb
    rw [numV_take (by omega), Nat.pow_succ]
    omega
theorem dig_7 {l : List Nat} {j : Nat} (hj : j ≤ l.length) (h7 : l.length ≤ 7) (h : ∀ i, i < j → digB (l.getD i 0) = true) : numV (l.take j) < 10000000 := by
  have h1 := dig_lt j hj h
  have h2 : 10 ^ j ≤ 10 ^ 7 := Nat.pow_le_pow_right (by omega) (by omega)
  omega
theorem all_dig {l : List Nat} (h : ∀ i, i < l.length → digB (l.getD i 0) = true) : l.all digB = true := by
  rw [List.all_eq_true]
  intro b hb
  obtain ⟨i, hi, e⟩ := List.getElem_of_mem hb
  have := h i hi
  simp only [List.getD, List.getElem?_eq_getElem hi, Option.getD_some] at this
  rw [← e]; exact this
theorem not_dig {l : List Nat} {j : Nat} (hj : j < l.length) (h : digB (l.getD j 0) = false) : ¬l.all digB = true := by
  intro q
  rw [List.all_eq_true] at q
  rw [q _ (getD_mem l j 0 hj)] at h
  cases h
theorem numM_no {l : List Nat} (m : Nat) (h : l.length = 0 ∨ 7 < l.length ∨ (1 < l.length ∧ l.getD 0 0 = 48) ∨ ¬l.all digB = true) : numM l m = none := by
  have e : numN l = none := if_pos h
  unfold numM
  rw [e]
theorem numM_yes {l : List Nat} (m : Nat) (h1 : ¬l.length = 0) (h2 : ¬7 < l.length) (h3 : ¬(1 < l.length ∧ l.getD 0 0 = 48)) (h4 : l.all digB = true) : numM l m = if numV l ≤ m then some (numV l) else none := by
  have e : numN l = some (numV l) := if_neg (by rintro (h | h | h | h); exact h1 h; exact h2 h; exact h3 h; exact h h4)
  unfold numM
  rw [e]
theorem numM_le {l : List Nat} {m n : Nat} (h : numM l m = some n) : n ≤ m := by
  unfold numM at h
  split at h
  · split at h
    · cases h; assumption
    · cases h
  · cases h
set_option maxHeartbeats 8000000 in
theorem isp_t (c : Nat) (w : World) : Calls Tryd.prog 26 #[.int .i32 (c : Int)] w fun e w' => e = .returned (.bool (spcB c)) ∧ Below w.heap.size w w' := by
  refine sy_enterF [] [] (by intro f hf; cases hf) Tryd.func26 rfl rfl fun aa S => ?_
  refine sy_run ⟨0, [1]⟩ 60 S fun bs aa w S => ?_
  refine sy_reg S fun S => ?_
  refine sy_ops 2 S fun bs aa w S => ?_
  by_cases h1 : c = 32
  · refine sy_cast 4 S (congrArg Value.bool (decide_eq_true (by omega) : decide ((c : Int) = 32) = true)) (by kernel_rfl) fun S => ?_
    refine sy_run ⟨0, []⟩ 60 S fun bs aa w S => ?_
    have hv : spcB c = true := by unfold spcB; simp; omega
    rw [hv]
    exact sy_ret S (by kernel_rfl) (by kernel_rfl) fun hg => ⟨rfl, bel_gr hg⟩
  · refine sy_cast 4 S (congrArg Value.bool (decide_eq_false (by omega) : decide ((c : Int) = 32) = false)) (by kernel_rfl) fun S => ?_
    refine sy_ops 3 S fun bs aa w S => ?_
    by_cases h2 : c = 9
    · refine sy_cast 7 S (congrArg Value.bool (decide_eq_true (by omega) : decide ((c : Int) = 9) = true)) (by kernel_rfl) fun S => ?_
      refine sy_run ⟨0, []⟩ 60 S fun bs aa w S => ?_
      have hv : spcB c = true := by unfold spcB; simp; omega
      rw [hv]
      exact sy_ret S (by kernel_rfl) (by kernel_rfl) fun hg => ⟨rfl, bel_gr hg⟩
    · refine sy_cast 7 S (congrArg Value.bool (decide_eq_false (by omega) : decide ((c : Int) = 9) = false)) (by kernel_rfl) fun S => ?_
      refine sy_ops 4 S fun bs aa w S => ?_
      by_cases h3 : c = 10
      · refine sy_cast 11 S (congrArg Value.bool (decide_eq_true (by omega) : decide ((c : Int) = 10) = true)) (by kernel_rfl) fun S => ?_
        refine sy_run ⟨0, []⟩ 60 S fun bs aa w S => ?_
        have hv : spcB c = true := by unfold spcB; simp; omega
        rw [hv]
        exact sy_ret S (by kernel_rfl) (by kernel_rfl) fun hg => ⟨rfl, bel_gr hg⟩
      · refine sy_cast 11 S (congrArg Value.bool (decide_eq_false (by omega) : decide ((c : Int) = 10) = false)) (by kernel_rfl) fun S => ?_
        refine sy_run ⟨0, []⟩ 60 S fun bs aa w S => ?_
        have hv : spcB c = false := by unfold spcB; simp; omega
        rw [hv]
        exact sy_ret S (by kernel_rfl) (by kernel_rfl) fun hg => ⟨rfl, bel_gr hg⟩
noncomputable def nbC : Cfg := ⟨goZ 60 [0] [.code (bodyOf Tryd.f47)], ⟨0, [], []⟩⟩
noncomputable def nbS (l : List Nat) (m g j : Nat) : SS := ⟨47, [(0, .v (.string (strOf l))), (1, .v (.int .i64 (m : Int))), (6, .v (.int .i64 (numV (l.take j) : Int))), (27, .v (.pointer (some ⟨g, 0, none⟩)))], []⟩
set_option maxHeartbeats 8000000 in
theorem nb_e (w0 : World) (l : List Nat) (m : Nat) (hl : ∀ b ∈ l, b < 256) (h1 : ¬l.length = 0) (h7 : ¬7 < l.length) (h0 : ¬(1 < l.length ∧ l.getD 0 0 = 48)) (g : Nat) (hg : w0.heap.size ≤ g) (r : Nat) (hv : ∀ i, i < l.length → digB (l.getD i 0) = true) (aa : Act) (w : World) (S : Sy w0 [] [] (nbS l m g (l.length)) [rfIt g (strOf l) (l.length)] aa w) : post Tryd.prog (.rnd (r + 1) (bodyL nbC) :: nbC.k.tail) (bodyPost Tryd.prog Tryd.f47 fun e w' => (∃ v : Int, e = .returned (.tuple #[.int .i64 v, .bool (numM l m).isSome]) ∧ ∀ n, numM l m = some n → v = (n : Int)) ∧ Below w0.heap.size w0 w') .normal aa w := by
  have hk := numM_yes m h1 h7 h0 (all_dig hv)
  have ht : numV (l.take l.length) = numV l := by rw [List.take_length]
  refine sy_run (c := ⟨(.rnd (r + 1) (bodyL nbC) :: nbC.k.tail), nbS l m g l.length⟩) ⟨0, [5]⟩ 50 S fun bs aa w S => ?_
  refine sy_reg S fun S => ?_
  refine sy_nxe (ty := 0) (x := .tmp 27) S (by kernel_rfl) (by kernel_rfl) (by rw [strOf_size]; omega) fun aa S => ?_
  refine sy_run ⟨0, [10]⟩ 60 S fun bs aa w S => ?_
  refine sy_reg S fun S => ?_
  refine sy_ops 4 S fun bs aa w S => ?_
  refine sy_cast 46 S (congrArg Value.bool (by rw [hk, ht]; by_cases h : numV l ≤ m; rw [if_pos h]; exact decide_eq_true (by omega); rw [if_neg h]; exact decide_eq_false (by omega) : decide ((numV (l.take l.length) : Int) ≤ (m : Int)) = (numM l m).isSome)) (by kernel_rfl) fun S => ?_
  refine sy_run ⟨0, []⟩ 60 S fun bs aa w S => ?_
  exact sy_ret S (by kernel_rfl) (by kernel_rfl) fun hg => ⟨⟨((numV (l.take l.length) : Nat) : Int), rfl, fun n h => by
    rw [hk] at h
    split at h
    · cases h; rw [ht]
    · cases h⟩, bel_gr hg⟩
set_option maxHeartbeats 8000000 in
theorem nb_n (w0 : World) (l : List Nat) (m : Nat) (hl : ∀ b ∈ l, b < 256) (h1 : ¬l.length = 0) (h7 : ¬7 < l.length) (h0 : ¬(1 < l.length ∧ l.getD 0 0 = 48)) (g : Nat) (hg : w0.heap.size ≤ g) (r j : Nat) (hj : j < l.length) (hd : digB (l.getD j 0) = false) (aa : Act) (w : World) (S : Sy w0 [] [] (nbS l m g (j)) [rfIt g (strOf l) (j)] aa w) : post Tryd.prog (.rnd (r + 1) (bodyL nbC) :: nbC.k.tail) (bodyPost Tryd.prog Tryd.f47 fun e w' => (∃ v : Int, e = .returned (.tuple #[.int .i64 v, .bool (numM l m).isSome]) ∧ ∀ n, numM l m = some n → v = (n : Int)) ∧ Below w0.heap.size w0 w') .normal aa w := by
  have hno : l.length = 0 ∨ 7 < l.length ∨ (1 < l.length ∧ l.getD 0 0 = 48) ∨ ¬l.all digB = true := .inr (.inr (.inr (not_dig hj hd)))
  obtain ⟨c, wd, hde, hc⟩ : ∃ c wd, Utf8.decode (strOf l) j = (c, wd) ∧ (c < 48 ∨ 57 < c) := by
    by_cases h : l.getD j 0 < 128
    · refine ⟨_, _, dec_lo hl hj h, ?_⟩
      generalize l.getD j 0 = x at hd
      simp [digB] at hd
      omega
    · obtain ⟨c, wd, h3, h2⟩ := dec_hi hl hj h
      exact ⟨c, wd, h3, by omega⟩
  refine sy_run (c := ⟨(.rnd (r + 1) (bodyL nbC) :: nbC.k.tail), nbS l m g j⟩) ⟨0, [5]⟩ 50 S fun bs aa w S => ?_
  refine sy_reg S fun S => ?_
  refine sy_nxt (ty := 0) (x := .tmp 27) S hg (fun f hf => by cases hf) (by kernel_rfl) (by kernel_rfl) (by rw [strOf_size]; exact hj) c wd hde fun aa w S => ?_
  refine sy_run ⟨0, [7]⟩ 60 S fun bs aa w S => ?_
  refine sy_reg S fun S => ?_
  refine sy_ops 2 S fun bs aa w S => ?_
  by_cases h48 : c < 48
  · refine sy_cast 32 S (congrArg Value.bool (decide_eq_true (by omega) : decide ((c : Int) < 48) = true)) (by kernel_rfl) fun S => ?_
    refine sy_run ⟨0, []⟩ 60 S fun bs aa w S => ?_
    exact sy_ret S (by kernel_rfl) (by kernel_rfl) fun hg => ⟨⟨0, by rw [numM_no m (hno)], fun n h => by rw [numM_no m (hno)] at h; cases h⟩, bel_gr hg⟩
  · refine sy_cast 32 S (congrArg Value.bool (decide_eq_false (by omega) : decide ((c : Int) < 48) = false)) (by kernel_rfl) fun S => ?_
    refine sy_ops 3 S fun bs aa w S => ?_
    refine sy_cast 35 S (congrArg Value.bool (decide_eq_true (by omega) : decide ((c : Int) > 57) = true)) (by kernel_rfl) fun S => ?_
    refine sy_run ⟨0, []⟩ 60 S fun bs aa w S => ?_
    exact sy_ret S (by kernel_rfl) (by kernel_rfl) fun hg => ⟨⟨0, by rw [numM_no m (hno)], fun n h => by rw [numM_no m (hno)] at h; cases h⟩, bel_gr hg⟩
set_option maxHeartbeats 8000000 in
theorem nb_s (w0 : World) (l : List Nat) (m : Nat) (hl : ∀ b ∈ l, b < 256) (h1 : ¬l.length = 0) (h7 : ¬7 < l.length) (h0 : ¬(1 < l.length ∧ l.getD 0 0 = 48)) (g : Nat) (hg : w0.heap.size ≤ g) (r j : Nat) (hj : j < l.length) (hv : ∀ i, i < j → digB (l.getD i 0) = true) (hd : digB (l.getD j 0) = true) (ih : ∀ (aa : Act) (w : World) (S : Sy w0 [] [] (nbS l m g (j + 1)) [rfIt g (strOf l) (j + 1)] aa w), post Tryd.prog (.rnd (r) (bodyL nbC) :: nbC.k.tail) (bodyPost Tryd.prog Tryd.f47 fun e w' => (∃ v : Int, e = .returned (.tuple #[.int .i64 v, .bool (numM l m).isSome]) ∧ ∀ n, numM l m = some n → v = (n : Int)) ∧ Below w0.heap.size w0 w') .normal aa w) (aa : Act) (w : World) (S : Sy w0 [] [] (nbS l m g (j)) [rfIt g (strOf l) (j)] aa w) : post Tryd.prog (.rnd (r + 1) (bodyL nbC) :: nbC.k.tail) (bodyPost Tryd.prog Tryd.f47 fun e w' => (∃ v : Int, e = .returned (.tuple #[.int .i64 v, .bool (numM l m).isSome]) ∧ ∀ n, numM l m = some n → v = (n : Int)) ∧ Below w0.heap.size w0 w') .normal aa w := by
  have hb := hd
  simp only [digB, Bool.and_eq_true, decide_eq_true_eq] at hb
  have hn := dig_7 (j := j) (by omega) (by omega) hv
  have hs := numV_take hj
  refine sy_run (c := ⟨(.rnd (r + 1) (bodyL nbC) :: nbC.k.tail), nbS l m g j⟩) ⟨0, [5]⟩ 50 S fun bs aa w S => ?_
  refine sy_reg S fun S => ?_
  refine sy_nxt (ty := 0) (x := .tmp 27) S hg (fun f hf => by cases hf) (by kernel_rfl) (by kernel_rfl) (by rw [strOf_size]; exact hj) (l.getD j 0) 1 (dec_lo hl hj (by omega)) fun aa w S => ?_
  refine sy_run ⟨0, [7]⟩ 60 S fun bs aa w S => ?_
  refine sy_reg S fun S => ?_
  refine sy_ops 2 S fun bs aa w S => ?_
  refine sy_cast 32 S (congrArg Value.bool (decide_eq_false (by omega) : decide (((l.getD j 0) : Int) < 48) = false)) (by kernel_rfl) fun S => ?_
  refine sy_ops 3 S fun bs aa w S => ?_
  refine sy_cast 35 S (congrArg Value.bool (decide_eq_false (by omega) : decide (((l.getD j 0) : Int) > 57) = false)) (by kernel_rfl) fun S => ?_
  refine sy_run ⟨0, [9]⟩ 60 S fun bs aa w S => ?_
  refine sy_reg S fun S => ?_
  refine sy_ops 2 S fun bs aa w S => ?_
  refine sy_cast 38 S (congrArg (Value.int .i64) (by rw [IntKind.wrap_i64]; omega : IntKind.i64.wrap (10 * (numV (l.take j) : Int)) = ((10 * numV (l.take j) : Nat) : Int))) (by kernel_rfl) fun S => ?_
  refine sy_ops 2 S fun bs aa w S => ?_
  refine sy_cast 40 S (congrArg (Value.int .i32) (by rw [IntKind.wrap_i32]; omega : IntKind.i32.wrap (((l.getD j 0) : Int) - 48) = (((l.getD j 0) - 48 : Nat) : Int))) (by kernel_rfl) fun S => ?_
  refine sy_ops 1 S fun bs aa w S => ?_
  refine sy_cast 41 S (congrArg (Value.int .i64) (by rw [IntKind.wrap_i64]; omega : IntKind.i64.wrap (((l.getD j 0) - 48 : Nat) : Int) = (((l.getD j 0) - 48 : Nat) : Int))) (by kernel_rfl) fun S => ?_
  refine sy_ops 1 S fun bs aa w S => ?_
  refine sy_cast 42 S (congrArg (Value.int .i64) (by rw [IntKind.wrap_i64]; omega : IntKind.i64.wrap (((10 * numV (l.take j) : Nat) : Int) + (((l.getD j 0) - 48 : Nat) : Int)) = ((numV (l.take (j + 1)) : Nat) : Int))) (by kernel_rfl) fun S => ?_
  refine sy_run ⟨0, [999]⟩ 50 S fun bs aa w S => ?_
  have S2 := S.to [] (nbS l m g (j + 1)) (by kernel_rfl) (by kernel_rfl) (by kernel_rfl) (by kernel_rfl) (by kernel_rfl)
  refine sy_at2 (k' := (.rnd (r) (bodyL nbC) :: nbC.k.tail)) (by kernel_rfl) ?_
  exact ih aa w S2
theorem nb_a (w0 : World) (l : List Nat) (m : Nat) (hl : ∀ b ∈ l, b < 256) (h1 : ¬l.length = 0) (h7 : ¬7 < l.length) (h0 : ¬(1 < l.length ∧ l.getD 0 0 = 48)) (g : Nat) (hg : w0.heap.size ≤ g) : ∀ (r j : Nat), j + r = l.length → ∀ (hv : ∀ i, i < j → digB (l.getD i 0) = true) (aa : Act) (w : World) (S : Sy w0 [] [] (nbS l m g (j)) [rfIt g (strOf l) (j)] aa w), post Tryd.prog (.rnd (r + 1) (bodyL nbC) :: nbC.k.tail) (bodyPost Tryd.prog Tryd.f47 fun e w' => (∃ v : Int, e = .returned (.tuple #[.int .i64 v, .bool (numM l m).isSome]) ∧ ∀ n, numM l m = some n → v = (n : Int)) ∧ Below w0.heap.size w0 w') .normal aa w := by
  intro r
  induction r with
  | zero =>
    intro j hj hv aa w S
    obtain rfl : j = l.length := by omega
    exact nb_e w0 l m hl h1 h7 h0 g hg 0 hv aa w S
  | succ r ih =>
    intro j hj hv aa w S
    cases hd : digB (l.getD j 0) with
    | false => exact nb_n w0 l m hl h1 h7 h0 g hg (r + 1) j (by omega) hd aa w S
    | true => exact nb_s w0 l m hl h1 h7 h0 g hg (r + 1) j (by omega) hv hd (fun aa w S => ih (j + 1) (by omega) (fun i hi => by rcases Nat.lt_or_ge i j with h | h; exact hv i h; rw [show i = j by omega]; exact hd) aa w S) aa w S
set_option maxHeartbeats 8000000 in
theorem numb_t (w0 : World) (l : List Nat) (m : Nat) (hl : ∀ b ∈ l, b < 256) : Calls Tryd.prog 47 #[.string (strOf l), .int .i64 (m : Int)] w0 (fun e w' => (∃ v : Int, e = .returned (.tuple #[.int .i64 v, .bool (numM l m).isSome]) ∧ ∀ n, numM l m = some n → v = (n : Int)) ∧ Below w0.heap.size w0 w') := by
  refine sy_enterF [] [] (by intro f hf; cases hf) Tryd.func47 rfl rfl fun aa S => ?_
  refine sy_run ⟨0, [1]⟩ 60 S fun bs aa w S => ?_
  refine sy_reg S fun S => ?_
  refine sy_ops 1 S fun bs aa w S => ?_
  by_cases h1 : l.length = 0
  case pos =>
    have hno : l.length = 0 ∨ 7 < l.length ∨ (1 < l.length ∧ l.getD 0 0 = 48) ∨ ¬l.all digB = true := .inl h1
    refine sy_ex (op := .binOp .eql 9 (.tmp 9) (.const (.string ⟨#[]⟩)) 9) (ty := 4) (v := .bool true) S (by kernel_rfl) (ex_eqL (l := l) (m := []) (by kernel_rfl) (by kernel_rfl) hl (by simp) (decide_eq_true (List.eq_nil_of_length_eq_zero h1))) fun aa S => ?_
    refine sy_run ⟨0, []⟩ 60 S fun bs aa w S => ?_
    exact sy_ret S (by kernel_rfl) (by kernel_rfl) fun hg => ⟨⟨0, by rw [numM_no m (hno)], fun n h => by rw [numM_no m (hno)] at h; cases h⟩, bel_gr hg⟩
  refine sy_ex (op := .binOp .eql 9 (.tmp 9) (.const (.string ⟨#[]⟩)) 9) (ty := 4) (v := .bool false) S (by kernel_rfl) (ex_eqL (l := l) (m := []) (by kernel_rfl) (by kernel_rfl) hl (by simp) (decide_eq_false (fun h => h1 (by rw [h]; rfl)))) fun aa S => ?_
  refine sy_ops 3 S fun bs aa w S => ?_
  refine sy_cast 13 S (congrArg (Value.int .i64) (by rw [strOf_size] : ((strOf l).size : Int) = (l.length : Int))) (by kernel_rfl) fun S => ?_
  refine sy_ops 1 S fun bs aa w S => ?_
  by_cases h7 : 7 < l.length
  case pos =>
    have hno : l.length = 0 ∨ 7 < l.length ∨ (1 < l.length ∧ l.getD 0 0 = 48) ∨ ¬l.all digB = true := .inr (.inl h7)
    refine sy_cast 14 S (congrArg Value.bool (decide_eq_true (by omega) : decide ((l.length : Int) > 7) = true)) (by kernel_rfl) fun S => ?_
    refine sy_run ⟨0, []⟩ 60 S fun bs aa w S => ?_
    exact sy_ret S (by kernel_rfl) (by kernel_rfl) fun hg => ⟨⟨0, by rw [numM_no m (hno)], fun n h => by rw [numM_no m (hno)] at h; cases h⟩, bel_gr hg⟩
  refine sy_cast 14 S (congrArg Value.bool (decide_eq_false (by omega) : decide ((l.length : Int) > 7) = false)) (by kernel_rfl) fun S => ?_
  refine sy_ops 4 S fun bs aa w S => ?_
  refine sy_cast 18 S (congrArg (Value.int .i64) (by rw [strOf_size] : ((strOf l).size : Int) = (l.length : Int))) (by kernel_rfl) fun S => ?_
  refine sy_ops 1 S fun bs aa w S => ?_
  by_cases h2 : 1 < l.length
  · refine sy_cast 19 S (congrArg Value.bool (decide_eq_true (by omega) : decide ((l.length : Int) > 1) = true)) (by kernel_rfl) fun S => ?_
    refine sy_ops 2 S fun bs aa w S => ?_
    refine sy_ex (op := .index 9 (.tmp 21) (.const (.int .i64 0))) (ty := 5) (v := .int .u8 ((l.getD 0 0 : Nat) : Int)) S (by kernel_rfl) (ex_ixl (k := 0) Tryd.underlying9 (by kernel_rfl) (by kernel_rfl) hl (by omega)) fun aa S => ?_
    refine sy_ops 1 S fun bs aa w S => ?_
    by_cases h48 : l.getD 0 0 = 48
    · have hno : l.length = 0 ∨ 7 < l.length ∨ (1 < l.length ∧ l.getD 0 0 = 48) ∨ ¬l.all digB = true := .inr (.inr (.inl ⟨h2, h48⟩))
      refine sy_cast 23 S (congrArg Value.bool (decide_eq_true (by omega) : decide (((l.getD 0 0 : Nat) : Int) = 48) = true)) (by kernel_rfl) fun S => ?_
      refine sy_run ⟨0, []⟩ 60 S fun bs aa w S => ?_
      exact sy_ret S (by kernel_rfl) (by kernel_rfl) fun hg => ⟨⟨0, by rw [numM_no m (hno)], fun n h => by rw [numM_no m (hno)] at h; cases h⟩, bel_gr hg⟩
    · refine sy_cast 23 S (congrArg Value.bool (decide_eq_false (by omega) : decide (((l.getD 0 0 : Nat) : Int) = 48) = false)) (by kernel_rfl) fun S => ?_
      have h0 : ¬(1 < l.length ∧ l.getD 0 0 = 48) := fun h => h48 h.2
      refine sy_run ⟨0, [4]⟩ 60 S fun bs aa w S => ?_
      refine sy_reg S fun S => ?_
      refine sy_ops 1 S fun bs aa w S => ?_
      refine sy_rng (ty := 0) (t := 9) (x := .tmp 26) (p := strOf l) S Tryd.underlying9 (by kernel_rfl) (by kernel_rfl) fun g aa w hg hf S => ?_
      refine sy_run ⟨0, []⟩ 60 S fun bs aa w S => ?_
      have S2 := S.to [] (nbS l m g 0) (by kernel_rfl) (by kernel_rfl) (by kernel_rfl) (by kernel_rfl) (by kernel_rfl)
      refine sy_loop (l.length + 1) (by kernel_rfl) ?_
      refine sy_at2 (k' := (.rnd (l.length + 1) (bodyL nbC) :: nbC.k.tail)) (by kernel_rfl) ?_
      exact nb_a w0 l m hl h1 h7 h0 g hg l.length 0 (by omega) (fun i hi => absurd hi (Nat.not_lt_zero _)) aa w S2
  · refine sy_cast 19 S (congrArg Value.bool (decide_eq_false (by omega) : decide ((l.length : Int) > 1) = false)) (by kernel_rfl) fun S => ?_
    have h0 : ¬(1 < l.length ∧ l.getD 0 0 = 48) := fun h => h2 h.1
    refine sy_run ⟨0, [4]⟩ 60 S fun bs aa w S => ?_
    refine sy_reg S fun S => ?_
    refine sy_ops 1 S fun bs aa w S => ?_
    refine sy_rng (ty := 0) (t := 9) (x := .tmp 26) (p := strOf l) S Tryd.underlying9 (by kernel_rfl) (by kernel_rfl) fun g aa w hg hf S => ?_
    refine sy_run ⟨0, []⟩ 60 S fun bs aa w S => ?_
    have S2 := S.to [] (nbS l m g 0) (by kernel_rfl) (by kernel_rfl) (by kernel_rfl) (by kernel_rfl) (by kernel_rfl)
    refine sy_loop (l.length + 1) (by kernel_rfl) ?_
    refine sy_at2 (k' := (.rnd (l.length + 1) (bodyL nbC) :: nbC.k.tail)) (by kernel_rfl) ?_
    exact nb_a w0 l m hl h1 h7 h0 g hg l.length 0 (by omega) (fun i hi => absurd hi (Nat.not_lt_zero _)) aa w S2
end Go.Proofs.YtfkmcibglaiakaaDoor
