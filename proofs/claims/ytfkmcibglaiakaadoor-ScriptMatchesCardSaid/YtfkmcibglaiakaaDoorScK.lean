
/-
  Layer 27: valid picks; whose turn it is.
-/
import Derived.Test.YtfkmcibglaiakaaDoorRows
import Derived.Test.YtfkmcibglaiakaaDoorBase
import Derived.Test.YtfkmcibglaiakaaDoorScF
import Derived.Test.YtfkmcibglaiakaaDoorScI
import Derived.WalkKit
namespace Go.Proofs.YtfkmcibglaiakaaDoor
open Go Go.RowKit SZ
set_option linter.unusedVariables false
set_option linter.unusedSimpArgs false
set_option maxRecDepth 100000
attribute [local irreducible] post GD Nxt NxtAll
def cutsB (c : List Int) : Bool := c.all (fun x => decide (0 ≤ x) && decide (x ≤ 32)) && decide (c.length ≤ 64)
def rightB (t : Int) (p : Pw) : Bool :=
  if p.k = 1 then (decide (0 ≤ p.a) && decide (p.a < t)) && decide (p.b = 0) && decide (p.c.length = 0)
  else if p.k = 2 then (decide (0 ≤ p.a) && decide (p.a < t)) && decide (0 ≤ p.b) && decide (p.b ≤ 1048576) && decide (p.c.length = 0)
  else if p.k = 3 then decide (p.a = 0) && decide (p.b = 0) && cutsB p.c
  else false
theorem all_end {c : List Int} (h : ∀ i, i < c.length → 0 ≤ c.getD i 0 ∧ c.getD i 0 ≤ 32) : c.all (fun x => decide (0 ≤ x) && decide (x ≤ 32)) = true := by
  rw [List.all_eq_true]
  intro x hx
  obtain ⟨i, hi, e⟩ := List.getElem_of_mem hx
  have := h i hi
  simp only [List.getD, List.getElem?_eq_getElem hi, Option.getD_some] at this
  rw [← e]
  simp [this]
theorem all_bad {c : List Int} {j : Nat} (hj : j < c.length) (h : ¬(0 ≤ c.getD j 0 ∧ c.getD j 0 ≤ 32)) : cutsB c = false := by
  unfold cutsB
  have : c.all (fun x => decide (0 ≤ x) && decide (x ≤ 32)) = false := by
    rw [Bool.eq_false_iff]
    intro q
    rw [List.all_eq_true] at q
    have := q _ (getD_mem c j 0 hj)
    simp at this
    exact h (by simpa using this)
  rw [this]
  rfl
noncomputable def rcC : Cfg := ⟨goZ 60 [] [.code (bodyOf Tryd.f24)], ⟨0, [], []⟩⟩
noncomputable def rcS (p : Pk) (j : Nat) : SS := ⟨21, [(0, .v (.slice p.s p.c.length p.cp)), (5, .v (.slice p.s p.c.length p.cp)), (6, .v (.int .i64 (p.c.length : Int))), (7, .v (.int .i64 (j : Int)))], []⟩
set_option maxHeartbeats 8000000 in
theorem rc_e (w0 : World) (p : Pk) (hok : p.ok) (hc : p.c.length ≤ 100000) (m : Nat) (hv : ∀ i, i < p.c.length → 0 ≤ p.c.getD i 0 ∧ p.c.getD i 0 ≤ 32) (aa : Act) (w : World) (S : Sy w0 [] [] (rcS p (p.c.length)) [rfIs p.bl p.o p.c] aa w) : post Tryd.prog (.rnd (m + 1) (bodyL rcC) :: rcC.k.tail) (bodyPost Tryd.prog Tryd.f24 (fun e w' => e = .returned (.bool (cutsB p.c)) ∧ Below w0.heap.size w0 w')) .normal aa w := by
  refine sy_run (c := ⟨(.rnd (m + 1) (bodyL rcC) :: rcC.k.tail), rcS p p.c.length⟩) ⟨0, [2]⟩ 50 S fun bs aa w S => ?_
  refine sy_reg S fun S => ?_
  refine sy_ops 1 S fun bs aa w S => ?_
  refine sy_cast 8 S (congrArg Value.bool (decide_eq_false (by omega) : decide ((p.c.length : Int) < (p.c.length : Int)) = false)) (by kernel_rfl) fun S => ?_
  refine sy_run ⟨0, [7]⟩ 60 S fun bs aa w S => ?_
  refine sy_reg S fun S => ?_
  refine sy_ops 2 S fun bs aa w S => ?_
  refine sy_ops 1 S fun bs aa w S => ?_
  refine sy_cast 20 S (congrArg Value.bool (by unfold cutsB; rw [all_end hv, Bool.true_and]; exact decide_eq_decide.2 (by omega) : decide ((p.c.length : Int) ≤ 64) = cutsB p.c)) (by kernel_rfl) fun S => ?_
  refine sy_run ⟨0, []⟩ 60 S fun bs aa w S => ?_
  exact sy_ret S (by kernel_rfl) (by kernel_rfl) fun hg => ⟨rfl, bel_gr hg⟩
set_option maxHeartbeats 8000000 in
theorem rc_s (w0 : World) (p : Pk) (hok : p.ok) (hc : p.c.length ≤ 100000) (m j : Nat) (hj : j < p.c.length) (hv : ∀ i, i < j → 0 ≤ p.c.getD i 0 ∧ p.c.getD i 0 ≤ 32) (ih : (0 ≤ (p.c.getD j 0) ∧ (p.c.getD j 0) ≤ 32) → ∀ (aa : Act) (w : World) (S : Sy w0 [] [] (rcS p (j + 1)) [rfIs p.bl p.o p.c] aa w), post Tryd.prog (.rnd (m) (bodyL rcC) :: rcC.k.tail) (bodyPost Tryd.prog Tryd.f24 (fun e w' => e = .returned (.bool (cutsB p.c)) ∧ Below w0.heap.size w0 w')) .normal aa w) (aa : Act) (w : World) (S : Sy w0 [] [] (rcS p (j)) [rfIs p.bl p.o p.c] aa w) : post Tryd.prog (.rnd (m + 1) (bodyL rcC) :: rcC.k.tail) (bodyPost Tryd.prog Tryd.f24 (fun e w' => e = .returned (.bool (cutsB p.c)) ∧ Below w0.heap.size w0 w')) .normal aa w := by
  refine sy_run (c := ⟨(.rnd (m + 1) (bodyL rcC) :: rcC.k.tail), rcS p j⟩) ⟨0, [2]⟩ 50 S fun bs aa w S => ?_
  refine sy_reg S fun S => ?_
  refine sy_ops 1 S fun bs aa w S => ?_
  refine sy_cast 8 S (congrArg Value.bool (decide_eq_true (by omega) : decide ((j : Int) < (p.c.length : Int)) = true)) (by kernel_rfl) fun S => ?_
  refine sy_run ⟨0, [3]⟩ 60 S fun bs aa w S => ?_
  refine sy_reg S fun S => ?_
  refine sy_ix (b := p.bl) (off := p.o) (len := p.c.length) (n := j) (size := 1) (i := (j : Int)) S (by rw [← hok.resolve_left (by omega)]; kernel_rfl) rfl hj fun aa S => ?_
  refine sy_ldo S (ld_at (ty := 3) (b := p.bl) (off := p.o + j * 1) (by kernel_rfl) (by rw [Nat.mul_one]; exact S.fact (f := rfIs p.bl p.o p.c) (by simp) j hj)) (by kernel_rfl) fun aa S => ?_
  refine sy_run ⟨0, [4]⟩ 60 S fun bs aa w S => ?_
  refine sy_reg S fun S => ?_
  refine sy_ops 2 S fun bs aa w S => ?_
  by_cases h0 : (p.c.getD j 0) < 0
  · have hb : cutsB p.c = false := all_bad hj (by omega)
    refine sy_cast 12 S (congrArg Value.bool (decide_eq_true h0 : decide ((p.c.getD j 0) < 0) = true)) (by kernel_rfl) fun S => ?_
    refine sy_run ⟨0, []⟩ 60 S fun bs aa w S => ?_
    rw [hb]
    exact sy_ret S (by kernel_rfl) (by kernel_rfl) fun hg => ⟨rfl, bel_gr hg⟩
  refine sy_cast 12 S (congrArg Value.bool (decide_eq_false h0 : decide ((p.c.getD j 0) < 0) = false)) (by kernel_rfl) fun S => ?_
  refine sy_ops 3 S fun bs aa w S => ?_
  by_cases h1 : (p.c.getD j 0) > 32
  · have hb : cutsB p.c = false := all_bad hj (by omega)
    refine sy_cast 15 S (congrArg Value.bool (decide_eq_true h1 : decide ((p.c.getD j 0) > 32) = true)) (by kernel_rfl) fun S => ?_
    refine sy_run ⟨0, []⟩ 60 S fun bs aa w S => ?_
    rw [hb]
    exact sy_ret S (by kernel_rfl) (by kernel_rfl) fun hg => ⟨rfl, bel_gr hg⟩
  refine sy_cast 15 S (congrArg Value.bool (decide_eq_false h1 : decide ((p.c.getD j 0) > 32) = false)) (by kernel_rfl) fun S => ?_
  refine sy_run ⟨0, [6]⟩ 60 S fun bs aa w S => ?_
  refine sy_reg S fun S => ?_
  refine sy_ops 1 S fun bs aa w S => ?_
  refine sy_cast 17 S (congrArg (Value.int .i64) (by rw [IntKind.wrap_i64]; omega : IntKind.i64.wrap ((j : Int) + 1) = ((j + 1 : Nat) : Int))) (by kernel_rfl) fun S => ?_
  refine sy_run ⟨0, [999]⟩ 50 S fun bs aa w S => ?_
  have S2 := S.to [] (rcS p (j + 1)) (by kernel_rfl) (by kernel_rfl) (by kernel_rfl) (by kernel_rfl) (by kernel_rfl)
  refine sy_at2 (k' := (.rnd (m) (bodyL rcC) :: rcC.k.tail)) (by kernel_rfl) ?_
  exact ih (by omega) aa w S2
theorem rc_a (w0 : World) (p : Pk) (hok : p.ok) (hc : p.c.length ≤ 100000) : ∀ (m j : Nat), j + m = p.c.length → ∀ (hv : ∀ i, i < j → 0 ≤ p.c.getD i 0 ∧ p.c.getD i 0 ≤ 32) (aa : Act) (w : World) (S : Sy w0 [] [] (rcS p (j)) [rfIs p.bl p.o p.c] aa w), post Tryd.prog (.rnd (m + 1) (bodyL rcC) :: rcC.k.tail) (bodyPost Tryd.prog Tryd.f24 (fun e w' => e = .returned (.bool (cutsB p.c)) ∧ Below w0.heap.size w0 w')) .normal aa w := by
  intro m
  induction m with
  | zero =>
    intro j hj hv aa w S
    obtain rfl : j = p.c.length := by omega
    exact rc_e w0 p hok hc 0 hv aa w S
  | succ m ih => intro j hj hv aa w S; exact rc_s w0 p hok hc (m + 1) j (by omega) hv (fun h aa w S => ih (j + 1) (by omega) (fun i hi => by rcases Nat.lt_or_ge i j with h2 | h2; exact hv i h2; rw [show i = j by omega]; exact h) aa w S) aa w S
set_option maxHeartbeats 8000000 in
theorem rcuts_t (w0 : World) (p : Pk) (hok : p.ok) (hc : p.c.length ≤ 100000) (hAt : IsAt w0 p.bl p.o p.c) : Calls Tryd.prog 24 #[.slice p.s p.c.length p.cp] w0 (fun e w' => e = .returned (.bool (cutsB p.c)) ∧ Below w0.heap.size w0 w') := by
  refine sy_enterF [] [rfIs p.bl p.o p.c] (by intro f hf; simp only [List.mem_singleton] at hf; subst hf; exact hAt) Tryd.func24 rfl rfl fun aa S => ?_
  refine sy_run ⟨0, []⟩ 60 S fun bs aa w S => ?_
  have S2 := S.to [] (rcS p 0) (by kernel_rfl) (by kernel_rfl) (by kernel_rfl) (by kernel_rfl) (by kernel_rfl)
  refine sy_loop (p.c.length + 1) (by kernel_rfl) ?_
  refine sy_at2 (k' := (.rnd (p.c.length + 1) (bodyL rcC) :: rcC.k.tail)) (by kernel_rfl) ?_
  exact rc_a w0 p hok hc p.c.length 0 (by omega) (fun i hi => absurd hi (Nat.not_lt_zero _)) aa w S2
set_option maxHeartbeats 8000000 in
theorem right_t (w0 : World) (tt : Int) (p : Pk) (hok : p.ok) (hc : p.c.length ≤ 100000) (hAt : IsAt w0 p.bl p.o p.c) : Calls Tryd.prog 12 #[.int .i64 tt, p.v] w0 (fun e w' => e = .returned (.bool (rightB tt p.w)) ∧ Below w0.heap.size w0 w') := by
  refine sy_enterF [] [rfIs p.bl p.o p.c] (by intro f hf; simp only [List.mem_singleton] at hf; subst hf; exact hAt) Tryd.func12 rfl rfl fun aa S => ?_
  refine sy_run ⟨0, [1]⟩ 60 S fun bs aa w S => ?_
  refine sy_reg S fun S => ?_
  refine sy_ops 3 S fun bs aa w S => ?_
  by_cases h1 : 0 ≤ p.a
  · refine sy_cast 8 S (congrArg Value.bool (decide_eq_true (by omega) : decide (p.a ≥ 0) = true)) (by kernel_rfl) fun S => ?_
    refine sy_ops 5 S fun bs aa w S => ?_
    by_cases h2 : p.a < tt
    · refine sy_cast 13 S (congrArg Value.bool (decide_eq_true (by omega) : decide (p.a < tt) = true)) (by kernel_rfl) fun S => ?_
      refine sy_run ⟨0, [3]⟩ 60 S fun bs aa w S => ?_
      refine sy_reg S fun S => ?_
      refine sy_ops 1 S fun bs aa w S => ?_
      by_cases hk1 : p.k = 1
      · refine sy_cast 18 S (congrArg Value.bool (decide_eq_true (by omega) : decide (p.k = 1) = true)) (by kernel_rfl) fun S => ?_
        refine sy_run ⟨0, [4]⟩ 60 S fun bs aa w S => ?_
        refine sy_reg S fun S => ?_
        refine sy_ops 5 S fun bs aa w S => ?_
        by_cases hb0 : p.b = 0
        · refine sy_cast 23 S (congrArg Value.bool (decide_eq_true (by omega) : decide (p.b = 0) = true)) (by kernel_rfl) fun S => ?_
          refine sy_ops 6 S fun bs aa w S => ?_
          by_cases hl0 : p.c.length = 0
          · refine sy_cast 29 S (congrArg Value.bool (decide_eq_true (by omega) : decide ((p.c.length : Int) = 0) = true)) (by kernel_rfl) fun S => ?_
            refine sy_run ⟨0, []⟩ 60 S fun bs aa w S => ?_
            have hv : rightB tt p.w = true := by simp [rightB, Pk.w, h1, h2, hk1, hb0, hl0]
            rw [hv]
            exact sy_ret S (by kernel_rfl) (by kernel_rfl) fun hg => ⟨rfl, bel_gr hg⟩
          · refine sy_cast 29 S (congrArg Value.bool (decide_eq_false (by omega) : decide ((p.c.length : Int) = 0) = false)) (by kernel_rfl) fun S => ?_
            refine sy_run ⟨0, []⟩ 60 S fun bs aa w S => ?_
            have hv : rightB tt p.w = false := by simp [rightB, Pk.w, h1, h2, hk1, hb0, hl0]
            rw [hv]
            exact sy_ret S (by kernel_rfl) (by kernel_rfl) fun hg => ⟨rfl, bel_gr hg⟩
        · refine sy_cast 23 S (congrArg Value.bool (decide_eq_false (by omega) : decide (p.b = 0) = false)) (by kernel_rfl) fun S => ?_
          refine sy_run ⟨0, []⟩ 60 S fun bs aa w S => ?_
          have hv : rightB tt p.w = false := by simp [rightB, Pk.w, h1, h2, hk1, hb0]
          rw [hv]
          exact sy_ret S (by kernel_rfl) (by kernel_rfl) fun hg => ⟨rfl, bel_gr hg⟩
      · refine sy_cast 18 S (congrArg Value.bool (decide_eq_false (by omega) : decide (p.k = 1) = false)) (by kernel_rfl) fun S => ?_
        refine sy_run ⟨0, [5]⟩ 60 S fun bs aa w S => ?_
        refine sy_reg S fun S => ?_
        refine sy_ops 1 S fun bs aa w S => ?_
        by_cases hk2 : p.k = 2
        · refine sy_cast 32 S (congrArg Value.bool (decide_eq_true (by omega) : decide (p.k = 2) = true)) (by kernel_rfl) fun S => ?_
          refine sy_run ⟨0, [6]⟩ 60 S fun bs aa w S => ?_
          refine sy_reg S fun S => ?_
          refine sy_ops 5 S fun bs aa w S => ?_
          by_cases hb1 : 0 ≤ p.b
          · refine sy_cast 37 S (congrArg Value.bool (decide_eq_true (by omega) : decide (p.b ≥ 0) = true)) (by kernel_rfl) fun S => ?_
            refine sy_ops 5 S fun bs aa w S => ?_
            by_cases hb2 : p.b ≤ 1048576
            · refine sy_cast 42 S (congrArg Value.bool (decide_eq_true (by omega) : decide (p.b ≤ 1048576) = true)) (by kernel_rfl) fun S => ?_
              refine sy_ops 6 S fun bs aa w S => ?_
              by_cases hl0 : p.c.length = 0
              · refine sy_cast 48 S (congrArg Value.bool (decide_eq_true (by omega) : decide ((p.c.length : Int) = 0) = true)) (by kernel_rfl) fun S => ?_
                refine sy_run ⟨0, []⟩ 60 S fun bs aa w S => ?_
                have hv : rightB tt p.w = true := by simp [rightB, Pk.w, h1, h2, hk1, hk2, hb1, hb2, hl0]
                rw [hv]
                exact sy_ret S (by kernel_rfl) (by kernel_rfl) fun hg => ⟨rfl, bel_gr hg⟩
              · refine sy_cast 48 S (congrArg Value.bool (decide_eq_false (by omega) : decide ((p.c.length : Int) = 0) = false)) (by kernel_rfl) fun S => ?_
                refine sy_run ⟨0, []⟩ 60 S fun bs aa w S => ?_
                have hv : rightB tt p.w = false := by simp [rightB, Pk.w, h1, h2, hk1, hk2, hb1, hb2, hl0]
                rw [hv]
                exact sy_ret S (by kernel_rfl) (by kernel_rfl) fun hg => ⟨rfl, bel_gr hg⟩
            · refine sy_cast 42 S (congrArg Value.bool (decide_eq_false (by omega) : decide (p.b ≤ 1048576) = false)) (by kernel_rfl) fun S => ?_
              refine sy_run ⟨0, []⟩ 60 S fun bs aa w S => ?_
              have hv : rightB tt p.w = false := by simp [rightB, Pk.w, h1, h2, hk1, hk2, hb1, hb2]
              rw [hv]
              exact sy_ret S (by kernel_rfl) (by kernel_rfl) fun hg => ⟨rfl, bel_gr hg⟩
          · refine sy_cast 37 S (congrArg Value.bool (decide_eq_false (by omega) : decide (p.b ≥ 0) = false)) (by kernel_rfl) fun S => ?_
            refine sy_run ⟨0, []⟩ 60 S fun bs aa w S => ?_
            have hv : rightB tt p.w = false := by simp [rightB, Pk.w, h1, h2, hk1, hk2, hb1]
            rw [hv]
            exact sy_ret S (by kernel_rfl) (by kernel_rfl) fun hg => ⟨rfl, bel_gr hg⟩
        · refine sy_cast 32 S (congrArg Value.bool (decide_eq_false (by omega) : decide (p.k = 2) = false)) (by kernel_rfl) fun S => ?_
          refine sy_run ⟨0, [7]⟩ 60 S fun bs aa w S => ?_
          refine sy_reg S fun S => ?_
          refine sy_ops 1 S fun bs aa w S => ?_
          by_cases hk3 : p.k = 3
          · refine sy_cast 51 S (congrArg Value.bool (decide_eq_true (by omega) : decide (p.k = 3) = true)) (by kernel_rfl) fun S => ?_
            refine sy_run ⟨0, [8]⟩ 60 S fun bs aa w S => ?_
            refine sy_reg S fun S => ?_
            refine sy_ops 3 S fun bs aa w S => ?_
            by_cases ha0 : p.a = 0
            · refine sy_cast 54 S (congrArg Value.bool (decide_eq_true (by omega) : decide (p.a = 0) = true)) (by kernel_rfl) fun S => ?_
              refine sy_ops 4 S fun bs aa w S => ?_
              by_cases hb0 : p.b = 0
              · refine sy_cast 58 S (congrArg Value.bool (decide_eq_true (by omega) : decide (p.b = 0) = true)) (by kernel_rfl) fun S => ?_
                refine sy_ops 4 S fun bs aa w S => ?_
                refine sy_call1 S (rcuts_t _ p hok hc (S.fact (f := rfIs p.bl p.o p.c) (by simp))) (by kernel_rfl) fun aa w hb S => ?_
                refine sy_run ⟨0, []⟩ 60 S fun bs aa w S => ?_
                have hv : rightB tt p.w = cutsB p.c := by simp [rightB, Pk.w, h1, h2, hk1, hk2, hk3, ha0, hb0]
                rw [hv]
                exact sy_ret S (by kernel_rfl) (by kernel_rfl) fun hg => ⟨rfl, bel_gr hg⟩
              · refine sy_cast 58 S (congrArg Value.bool (decide_eq_false (by omega) : decide (p.b = 0) = false)) (by kernel_rfl) fun S => ?_
                refine sy_run ⟨0, []⟩ 60 S fun bs aa w S => ?_
                have hv : rightB tt p.w = false := by simp [rightB, Pk.w, h1, h2, hk1, hk2, hk3, ha0, hb0]
                rw [hv]
                exact sy_ret S (by kernel_rfl) (by kernel_rfl) fun hg => ⟨rfl, bel_gr hg⟩
            · refine sy_cast 54 S (congrArg Value.bool (decide_eq_false (by omega) : decide (p.a = 0) = false)) (by kernel_rfl) fun S => ?_
              refine sy_run ⟨0, []⟩ 60 S fun bs aa w S => ?_
              have hv : rightB tt p.w = false := by simp [rightB, Pk.w, h1, h2, hk1, hk2, hk3, ha0]
              rw [hv]
              exact sy_ret S (by kernel_rfl) (by kernel_rfl) fun hg => ⟨rfl, bel_gr hg⟩
          · refine sy_cast 51 S (congrArg Value.bool (decide_eq_false (by omega) : decide (p.k = 3) = false)) (by kernel_rfl) fun S => ?_
            refine sy_run ⟨0, []⟩ 60 S fun bs aa w S => ?_
            have hv : rightB tt p.w = false := by simp [rightB, Pk.w, h1, h2, hk1, hk2, hk3]
            rw [hv]
            exact sy_ret S (by kernel_rfl) (by kernel_rfl) fun hg => ⟨rfl, bel_gr hg⟩
    · refine sy_cast 13 S (congrArg Value.bool (decide_eq_false (by omega) : decide (p.a < tt) = false)) (by kernel_rfl) fun S => ?_
      refine sy_run ⟨0, [3]⟩ 60 S fun bs aa w S => ?_
      refine sy_reg S fun S => ?_
      refine sy_ops 1 S fun bs aa w S => ?_
      by_cases hk1 : p.k = 1
      · refine sy_cast 18 S (congrArg Value.bool (decide_eq_true (by omega) : decide (p.k = 1) = true)) (by kernel_rfl) fun S => ?_
        refine sy_run ⟨0, []⟩ 60 S fun bs aa w S => ?_
        have hv : rightB tt p.w = false := by simp [rightB, Pk.w, h1, h2, hk1]
        rw [hv]
        exact sy_ret S (by kernel_rfl) (by kernel_rfl) fun hg => ⟨rfl, bel_gr hg⟩
      · refine sy_cast 18 S (congrArg Value.bool (decide_eq_false (by omega) : decide (p.k = 1) = false)) (by kernel_rfl) fun S => ?_
        refine sy_run ⟨0, [5]⟩ 60 S fun bs aa w S => ?_
        refine sy_reg S fun S => ?_
        refine sy_ops 1 S fun bs aa w S => ?_
        by_cases hk2 : p.k = 2
        · refine sy_cast 32 S (congrArg Value.bool (decide_eq_true (by omega) : decide (p.k = 2) = true)) (by kernel_rfl) fun S => ?_
          refine sy_run ⟨0, []⟩ 60 S fun bs aa w S => ?_
          have hv : rightB tt p.w = false := by simp [rightB, Pk.w, h1, h2, hk1, hk2]
          rw [hv]
          exact sy_ret S (by kernel_rfl) (by kernel_rfl) fun hg => ⟨rfl, bel_gr hg⟩
        · refine sy_cast 32 S (congrArg Value.bool (decide_eq_false (by omega) : decide (p.k = 2) = false)) (by kernel_rfl) fun S => ?_
          refine sy_run ⟨0, [7]⟩ 60 S fun bs aa w S => ?_
          refine sy_reg S fun S => ?_
          refine sy_ops 1 S fun bs aa w S => ?_
          by_cases hk3 : p.k = 3
          · refine sy_cast 51 S (congrArg Value.bool (decide_eq_true (by omega) : decide (p.k = 3) = true)) (by kernel_rfl) fun S => ?_
            refine sy_run ⟨0, [8]⟩ 60 S fun bs aa w S => ?_
            refine sy_reg S fun S => ?_
            refine sy_ops 3 S fun bs aa w S => ?_
            by_cases ha0 : p.a = 0
            · refine sy_cast 54 S (congrArg Value.bool (decide_eq_true (by omega) : decide (p.a = 0) = true)) (by kernel_rfl) fun S => ?_
              refine sy_ops 4 S fun bs aa w S => ?_
              by_cases hb0 : p.b = 0
              · refine sy_cast 58 S (congrArg Value.bool (decide_eq_true (by omega) : decide (p.b = 0) = true)) (by kernel_rfl) fun S => ?_
                refine sy_ops 4 S fun bs aa w S => ?_
                refine sy_call1 S (rcuts_t _ p hok hc (S.fact (f := rfIs p.bl p.o p.c) (by simp))) (by kernel_rfl) fun aa w hb S => ?_
                refine sy_run ⟨0, []⟩ 60 S fun bs aa w S => ?_
                have hv : rightB tt p.w = cutsB p.c := by simp [rightB, Pk.w, h1, h2, hk1, hk2, hk3, ha0, hb0]
                rw [hv]
                exact sy_ret S (by kernel_rfl) (by kernel_rfl) fun hg => ⟨rfl, bel_gr hg⟩
              · refine sy_cast 58 S (congrArg Value.bool (decide_eq_false (by omega) : decide (p.b = 0) = false)) (by kernel_rfl) fun S => ?_
                refine sy_run ⟨0, []⟩ 60 S fun bs aa w S => ?_
                have hv : rightB tt p.w = false := by simp [rightB, Pk.w, h1, h2, hk1, hk2, hk3, ha0, hb0]
                rw [hv]
                exact sy_ret S (by kernel_rfl) (by kernel_rfl) fun hg => ⟨rfl, bel_gr hg⟩
            · refine sy_cast 54 S (congrArg Value.bool (decide_eq_false (by omega) : decide (p.a = 0) = false)) (by kernel_rfl) fun S => ?_
              refine sy_run ⟨0, []⟩ 60 S fun bs aa w S => ?_
              have hv : rightB tt p.w = false := by simp [rightB, Pk.w, h1, h2, hk1, hk2, hk3, ha0]
              rw [hv]
              exact sy_ret S (by kernel_rfl) (by kernel_rfl) fun hg => ⟨rfl, bel_gr hg⟩
          · refine sy_cast 51 S (congrArg Value.bool (decide_eq_false (by omega) : decide (p.k = 3) = false)) (by kernel_rfl) fun S => ?_
            refine sy_run ⟨0, []⟩ 60 S fun bs aa w S => ?_
            have hv : rightB tt p.w = false := by simp [rightB, Pk.w, h1, h2, hk1, hk2, hk3]
            rw [hv]
            exact sy_ret S (by kernel_rfl) (by kernel_rfl) fun hg => ⟨rfl, bel_gr hg⟩
  · refine sy_cast 8 S (congrArg Value.bool (decide_eq_false (by omega) : decide (p.a ≥ 0) = false)) (by kernel_rfl) fun S => ?_
    refine sy_run ⟨0, [3]⟩ 60 S fun bs aa w S => ?_
    refine sy_reg S fun S => ?_
    refine sy_ops 1 S fun bs aa w S => ?_
    by_cases hk1 : p.k = 1
    · refine sy_cast 18 S (congrArg Value.bool (decide_eq_true (by omega) : decide (p.k = 1) = true)) (by kernel_rfl) fun S => ?_
      refine sy_run ⟨0, []⟩ 60 S fun bs aa w S => ?_
      have hv : rightB tt p.w = false := by simp [rightB, Pk.w, h1, hk1]
      rw [hv]
      exact sy_ret S (by kernel_rfl) (by kernel_rfl) fun hg => ⟨rfl, bel_gr hg⟩
    · refine sy_cast 18 S (congrArg Value.bool (decide_eq_false (by omega) : decide (p.k = 1) = false)) (by kernel_rfl) fun S => ?_
      refine sy_run ⟨0, [5]⟩ 60 S fun bs aa w S => ?_
      refine sy_reg S fun S => ?_
      refine sy_ops 1 S fun bs aa w S => ?_
      by_cases hk2 : p.k = 2
      · refine sy_cast 32 S (congrArg Value.bool (decide_eq_true (by omega) : decide (p.k = 2) = true)) (by kernel_rfl) fun S => ?_
        refine sy_run ⟨0, []⟩ 60 S fun bs aa w S => ?_
        have hv : rightB tt p.w = false := by simp [rightB, Pk.w, h1, hk1, hk2]
        rw [hv]
        exact sy_ret S (by kernel_rfl) (by kernel_rfl) fun hg => ⟨rfl, bel_gr hg⟩
      · refine sy_cast 32 S (congrArg Value.bool (decide_eq_false (by omega) : decide (p.k = 2) = false)) (by kernel_rfl) fun S => ?_
        refine sy_run ⟨0, [7]⟩ 60 S fun bs aa w S => ?_
        refine sy_reg S fun S => ?_
        refine sy_ops 1 S fun bs aa w S => ?_
        by_cases hk3 : p.k = 3
        · refine sy_cast 51 S (congrArg Value.bool (decide_eq_true (by omega) : decide (p.k = 3) = true)) (by kernel_rfl) fun S => ?_
          refine sy_run ⟨0, [8]⟩ 60 S fun bs aa w S => ?_
          refine sy_reg S fun S => ?_
          refine sy_ops 3 S fun bs aa w S => ?_
          by_cases ha0 : p.a = 0
          · refine sy_cast 54 S (congrArg Value.bool (decide_eq_true (by omega) : decide (p.a = 0) = true)) (by kernel_rfl) fun S => ?_
            refine sy_ops 4 S fun bs aa w S => ?_
            by_cases hb0 : p.b = 0
            · refine sy_cast 58 S (congrArg Value.bool (decide_eq_true (by omega) : decide (p.b = 0) = true)) (by kernel_rfl) fun S => ?_
              refine sy_ops 4 S fun bs aa w S => ?_
              refine sy_call1 S (rcuts_t _ p hok hc (S.fact (f := rfIs p.bl p.o p.c) (by simp))) (by kernel_rfl) fun aa w hb S => ?_
              refine sy_run ⟨0, []⟩ 60 S fun bs aa w S => ?_
              have hv : rightB tt p.w = cutsB p.c := by simp [rightB, Pk.w, h1, hk1, hk2, hk3, ha0, hb0]
              rw [hv]
              exact sy_ret S (by kernel_rfl) (by kernel_rfl) fun hg => ⟨rfl, bel_gr hg⟩
            · refine sy_cast 58 S (congrArg Value.bool (decide_eq_false (by omega) : decide (p.b = 0) = false)) (by kernel_rfl) fun S => ?_
              refine sy_run ⟨0, []⟩ 60 S fun bs aa w S => ?_
              have hv : rightB tt p.w = false := by simp [rightB, Pk.w, h1, hk1, hk2, hk3, ha0, hb0]
              rw [hv]
              exact sy_ret S (by kernel_rfl) (by kernel_rfl) fun hg => ⟨rfl, bel_gr hg⟩
          · refine sy_cast 54 S (congrArg Value.bool (decide_eq_false (by omega) : decide (p.a = 0) = false)) (by kernel_rfl) fun S => ?_
            refine sy_run ⟨0, []⟩ 60 S fun bs aa w S => ?_
            have hv : rightB tt p.w = false := by simp [rightB, Pk.w, h1, hk1, hk2, hk3, ha0]
            rw [hv]
            exact sy_ret S (by kernel_rfl) (by kernel_rfl) fun hg => ⟨rfl, bel_gr hg⟩
        · refine sy_cast 51 S (congrArg Value.bool (decide_eq_false (by omega) : decide (p.k = 3) = false)) (by kernel_rfl) fun S => ?_
          refine sy_run ⟨0, []⟩ 60 S fun bs aa w S => ?_
          have hv : rightB tt p.w = false := by simp [rightB, Pk.w, h1, hk1, hk2, hk3]
          rw [hv]
          exact sy_ret S (by kernel_rfl) (by kernel_rfl) fun hg => ⟨rfl, bel_gr hg⟩
/-- Flags in memory. -/
def OnAt (w : World) (b o : Nat) (c : List Bool) : Prop := ∀ j, j < c.length → w.cell? ⟨b, o + j, none⟩ = some (.bool (c.getD j false))
def rfOn (b o : Nat) (c : List Bool) : RF := ⟨fun b' => b' = b ∧ c.length ≠ 0, fun w => OnAt w b o c, fun w h b' hb => by
  obtain ⟨rfl, hl⟩ := hb
  exact World.block_lt_of_cell? w _ (h 0 (by omega)), fun w w' h hb j hj => (World.cell?_of_block (a := ⟨b, o + j, none⟩) (hb b ⟨rfl, by omega⟩)).trans (h j hj)⟩
def nxG (on : List Bool) (s : Nat) : Nat → Nat → Int
  | 0, _ => -1
  | f + 1, k => if on.getD ((s + k) % on.length) false = true then (((s + k) % on.length : Nat) : Int) else nxG on s f (k + 1)
def nxB (on : List Bool) (last : Int) : Nat := if last < 0 ∨ (on.length : Int) ≤ last then 0 else last.toNat + 1
def nextS (on : List Bool) (last : Int) : Int := nxG on (nxB on last) on.length 0
noncomputable def nxC : Cfg := ⟨goZ 60 [0] [.code (bodyOf Tryd.f17)], ⟨0, [], []⟩⟩
noncomputable def nxS (on : List Bool) (a : Option Addr) (cp s j : Nat) : SS := ⟨33, [(0, .v (.slice a on.length cp)), (1, .v (.int .i64 ((s : Int) - 1))), (16, .v (.int .i64 (on.length : Int))), (17, .v (.int .i64 (j : Int)))], []⟩
set_option maxHeartbeats 8000000 in
theorem nx_e (w0 : World) (on : List Bool) (a : Option Addr) (cp b o s : Nat) (ha : on.length = 0 ∨ a = some ⟨b, o, none⟩) (hl : on.length ≤ 1000000) (hs : s ≤ on.length) (m : Nat) (hR : nxG on s on.length 0 = nxG on s (0) (on.length)) (aa : Act) (w : World) (S : Sy w0 [] [] (nxS on a cp s (on.length)) [rfOn b o on] aa w) : post Tryd.prog (.rnd (m + 1) (bodyL nxC) :: nxC.k.tail) (bodyPost Tryd.prog Tryd.f17 (fun e w' => e = .returned (.int .i64 (nxG on s on.length 0)) ∧ Below w0.heap.size w0 w')) .normal aa w := by
  refine sy_run (c := ⟨(.rnd (m + 1) (bodyL nxC) :: nxC.k.tail), nxS on a cp s on.length⟩) ⟨0, [4]⟩ 50 S fun bs aa w S => ?_
  refine sy_reg S fun S => ?_
  refine sy_ops 1 S fun bs aa w S => ?_
  refine sy_cast 18 S (congrArg Value.bool (decide_eq_false (by omega) : decide ((on.length : Int) < (on.length : Int)) = false)) (by kernel_rfl) fun S => ?_
  refine sy_run ⟨0, []⟩ 60 S fun bs aa w S => ?_
  rw [hR]
  exact sy_ret S (by kernel_rfl) (by kernel_rfl) fun hg => ⟨rfl, bel_gr hg⟩
set_option maxHeartbeats 8000000 in
theorem nx_s (w0 : World) (on : List Bool) (a : Option Addr) (cp b o s : Nat) (ha : on.length = 0 ∨ a = some ⟨b, o, none⟩) (hl : on.length ≤ 1000000) (hs : s ≤ on.length) (m j : Nat) (hj : j < on.length) (hR : nxG on s on.length 0 = nxG on s (m) (j)) (ih : ∀ (hR : nxG on s on.length 0 = nxG on s (m - 1) (j + 1)) (aa : Act) (w : World) (S : Sy w0 [] [] (nxS on a cp s (j + 1)) [rfOn b o on] aa w), post Tryd.prog (.rnd (m) (bodyL nxC) :: nxC.k.tail) (bodyPost Tryd.prog Tryd.f17 (fun e w' => e = .returned (.int .i64 (nxG on s on.length 0)) ∧ Below w0.heap.size w0 w')) .normal aa w) (hm : m = on.length - j) (aa : Act) (w : World) (S : Sy w0 [] [] (nxS on a cp s (j)) [rfOn b o on] aa w) : post Tryd.prog (.rnd (m + 1) (bodyL nxC) :: nxC.k.tail) (bodyPost Tryd.prog Tryd.f17 (fun e w' => e = .returned (.int .i64 (nxG on s on.length 0)) ∧ Below w0.heap.size w0 w')) .normal aa w := by
  have hth : ((s + j) % on.length) < on.length := Nat.mod_lt _ (by omega)
  have hR2 : nxG on s on.length 0 = if on.getD ((s + j) % on.length) false = true then (((s + j) % on.length) : Int) else nxG on s (m - 1) (j + 1) := by
    rw [hR]
    obtain ⟨m', rfl⟩ : ∃ m', m = m' + 1 := ⟨m - 1, by omega⟩
    rfl
  refine sy_run (c := ⟨(.rnd (m + 1) (bodyL nxC) :: nxC.k.tail), nxS on a cp s j⟩) ⟨0, [4]⟩ 50 S fun bs aa w S => ?_
  refine sy_reg S fun S => ?_
  refine sy_ops 1 S fun bs aa w S => ?_
  refine sy_cast 18 S (congrArg Value.bool (decide_eq_true (by omega) : decide ((j : Int) < (on.length : Int)) = true)) (by kernel_rfl) fun S => ?_
  refine sy_run ⟨0, [6]⟩ 60 S fun bs aa w S => ?_
  refine sy_reg S fun S => ?_
  refine sy_ops 2 S fun bs aa w S => ?_
  refine sy_cast 21 S (congrArg (Value.int .i64) (by rw [IntKind.wrap_i64]; omega : IntKind.i64.wrap (((s : Int) - 1) + 1) = (s : Int))) (by kernel_rfl) fun S => ?_
  refine sy_ops 2 S fun bs aa w S => ?_
  refine sy_cast 23 S (congrArg (Value.int .i64) (by rw [IntKind.wrap_i64]; omega : IntKind.i64.wrap ((s : Int) + (j : Int)) = ((s + j : Nat) : Int))) (by kernel_rfl) fun S => ?_
  refine sy_ops 2 S fun bs aa w S => ?_
  refine sy_ex (op := .binOp .rem 3 (.tmp 23) (.tmp 25) 3) (ty := 3) (v := .int .i64 (((s + j) % on.length) : Int)) S (by kernel_rfl) (ex_rem (ki := .i64) (p := ((s + j : Nat) : Int)) (q := (on.length : Int)) (by kernel_rfl) (by kernel_rfl) (by omega) (Int.ofNat_tmod _ _).symm) fun aa S => ?_
  refine sy_run ⟨0, [7]⟩ 60 S fun bs aa w S => ?_
  refine sy_reg S fun S => ?_
  refine sy_ops 2 S fun bs aa w S => ?_
  refine sy_ix (b := b) (off := o) (len := on.length) (n := ((s + j) % on.length)) (size := 1) (i := ((((s + j) % on.length) : Nat) : Int)) S (by rw [← ha.resolve_left (by omega)]; kernel_rfl) rfl hth fun aa S => ?_
  cases hon : on.getD ((s + j) % on.length) false with
  | true =>
    have hR3 : nxG on s on.length 0 = (((s + j) % on.length) : Int) := by rw [hR2, hon]; rfl
    refine sy_ldo S (ld_at (ty := 4) (b := b) (off := o + ((s + j) % on.length) * 1) (by kernel_rfl) (by rw [Nat.mul_one]; have q := S.fact (f := rfOn b o on) (by simp) ((s + j) % on.length) hth; rw [hon] at q; exact q)) (by kernel_rfl) fun aa S => ?_
    refine sy_run ⟨0, []⟩ 60 S fun bs aa w S => ?_
    rw [hR3]
    exact sy_ret S (by kernel_rfl) (by kernel_rfl) fun hg => ⟨rfl, bel_gr hg⟩
  | false =>
    have hR3 : nxG on s on.length 0 = nxG on s (m - 1) (j + 1) := by rw [hR2, hon]; rfl
    refine sy_ldo S (ld_at (ty := 4) (b := b) (off := o + ((s + j) % on.length) * 1) (by kernel_rfl) (by rw [Nat.mul_one]; have q := S.fact (f := rfOn b o on) (by simp) ((s + j) % on.length) hth; rw [hon] at q; exact q)) (by kernel_rfl) fun aa S => ?_
    refine sy_run ⟨0, [9]⟩ 60 S fun bs aa w S => ?_
    refine sy_reg S fun S => ?_
    refine sy_ops 1 S fun bs aa w S => ?_
    refine sy_cast 32 S (congrArg (Value.int .i64) (by rw [IntKind.wrap_i64]; omega : IntKind.i64.wrap ((j : Int) + 1) = ((j + 1 : Nat) : Int))) (by kernel_rfl) fun S => ?_
    refine sy_run ⟨0, [999]⟩ 50 S fun bs aa w S => ?_
    have S2 := S.to [] (nxS on a cp s (j + 1)) (by kernel_rfl) (by kernel_rfl) (by kernel_rfl) (by kernel_rfl) (by kernel_rfl)
    refine sy_at2 (k' := (.rnd (m) (bodyL nxC) :: nxC.k.tail)) (by kernel_rfl) ?_
    exact ih hR3 aa w S2
theorem nx_a (w0 : World) (on : List Bool) (a : Option Addr) (cp b o s : Nat) (ha : on.length = 0 ∨ a = some ⟨b, o, none⟩) (hl : on.length ≤ 1000000) (hs : s ≤ on.length) : ∀ (m j : Nat), j + m = on.length → ∀ (hR : nxG on s on.length 0 = nxG on s (m) (j)) (aa : Act) (w : World) (S : Sy w0 [] [] (nxS on a cp s (j)) [rfOn b o on] aa w), post Tryd.prog (.rnd (m + 1) (bodyL nxC) :: nxC.k.tail) (bodyPost Tryd.prog Tryd.f17 (fun e w' => e = .returned (.int .i64 (nxG on s on.length 0)) ∧ Below w0.heap.size w0 w')) .normal aa w := by
  intro m
  induction m with
  | zero =>
    intro j hj hR aa w S
    obtain rfl : j = on.length := by omega
    exact nx_e w0 on a cp b o s ha hl hs 0 hR aa w S
  | succ m ih => intro j hj hR aa w S; exact nx_s w0 on a cp b o s ha hl hs (m + 1) j (by omega) hR (fun hR aa w S => ih (j + 1) (by omega) hR aa w S) (by omega) aa w S
set_option maxHeartbeats 8000000 in
theorem next_t (w0 : World) (on : List Bool) (a : Option Addr) (cp b o : Nat) (ha : on.length = 0 ∨ a = some ⟨b, o, none⟩) (hl : on.length ≤ 1000000) (hAt : OnAt w0 b o on) (last : Int) : Calls Tryd.prog 17 #[(.slice a on.length cp), .int .i64 last] w0 fun e w' => e = .returned (.int .i64 (nextS on last)) ∧ Below w0.heap.size w0 w' := by
  unfold nextS
  refine sy_enterF [] [rfOn b o on] (by intro f hf; simp only [List.mem_singleton] at hf; subst hf; exact hAt) Tryd.func17 rfl rfl fun aa S => ?_
  refine sy_run ⟨0, [1]⟩ 60 S fun bs aa w S => ?_
  refine sy_reg S fun S => ?_
  refine sy_ops 2 S fun bs aa w S => ?_
  by_cases h1 : last < 0
  · have hb : nxB on last = 0 := if_pos (Or.inl h1)
    rw [hb]
    refine sy_cast 8 S (congrArg Value.bool (decide_eq_true h1 : decide (last < 0) = true)) (by kernel_rfl) fun S => ?_
    refine sy_run ⟨0, []⟩ 60 S fun bs aa w S => ?_
    have S2 := S.to [] (nxS on a cp (0) 0) (by kernel_rfl) (by kernel_rfl) (by kernel_rfl) (by kernel_rfl) (by kernel_rfl)
    refine sy_loop (on.length + 1) (by kernel_rfl) ?_
    refine sy_at2 (k' := (.rnd (on.length + 1) (bodyL nxC) :: nxC.k.tail)) (by kernel_rfl) ?_
    exact nx_a w0 on a cp b o (0) ha hl (by omega) on.length 0 (by omega) rfl aa w S2
  refine sy_cast 8 S (congrArg Value.bool (decide_eq_false h1 : decide (last < 0) = false)) (by kernel_rfl) fun S => ?_
  refine sy_ops 5 S fun bs aa w S => ?_
  by_cases h2 : (on.length : Int) ≤ last
  · have hb : nxB on last = 0 := if_pos (Or.inr h2)
    rw [hb]
    refine sy_cast 13 S (congrArg Value.bool (decide_eq_true h2 : decide (last ≥ (on.length : Int)) = true)) (by kernel_rfl) fun S => ?_
    refine sy_run ⟨0, []⟩ 60 S fun bs aa w S => ?_
    have S2 := S.to [] (nxS on a cp (0) 0) (by kernel_rfl) (by kernel_rfl) (by kernel_rfl) (by kernel_rfl) (by kernel_rfl)
    refine sy_loop (on.length + 1) (by kernel_rfl) ?_
    refine sy_at2 (k' := (.rnd (on.length + 1) (bodyL nxC) :: nxC.k.tail)) (by kernel_rfl) ?_
    exact nx_a w0 on a cp b o (0) ha hl (by omega) on.length 0 (by omega) rfl aa w S2
  · have hb : nxB on last = last.toNat + 1 := if_neg (by omega)
    rw [hb]
    refine sy_cast 13 S (congrArg Value.bool (decide_eq_false h2 : decide (last ≥ (on.length : Int)) = false)) (by kernel_rfl) fun S => ?_
    refine sy_cast 1 S (congrArg (Value.int .i64) (by omega : last = ((last.toNat + 1 : Nat) : Int) - 1)) (by kernel_rfl) fun S => ?_
    refine sy_run ⟨0, []⟩ 60 S fun bs aa w S => ?_
    have S2 := S.to [] (nxS on a cp (last.toNat + 1) 0) (by kernel_rfl) (by kernel_rfl) (by kernel_rfl) (by kernel_rfl) (by kernel_rfl)
    refine sy_loop (on.length + 1) (by kernel_rfl) ?_
    refine sy_at2 (k' := (.rnd (on.length + 1) (bodyL nxC) :: nxC.k.tail)) (by kernel_rfl) ?_
    exact nx_a w0 on a cp b o (last.toNat + 1) ha hl (by omega) on.length 0 (by omega) rfl aa w S2
end Go.Proofs.YtfkmcibglaiakaaDoor
