
/-
  Layer 27: few picks; valid picks, told a second time.
-/
import Derived.Test.YtfkmcibglaiakaaDoorRows
import Derived.Test.YtfkmcibglaiakaaDoorBase
import Derived.Test.YtfkmcibglaiakaaDoorScM
import Derived.WalkKit
namespace Go.Proofs.YtfkmcibglaiakaaDoor
open Go Go.RowKit SZ
set_option linter.unusedVariables false
set_option linter.unusedSimpArgs false
set_option maxRecDepth 100000
attribute [local irreducible] post GD Nxt NxtAll
def fewB (ps : List Pk) (n : Int) : Bool := decide ((ps.length : Int) ≤ n) && ps.all fun p => decide (p.c.length ≤ 80)
theorem few_of {ps : List Pk} {n : Int} (h : fewB ps n = true) : (ps.length : Int) ≤ n ∧ ∀ p ∈ ps, p.c.length ≤ 80 := by
  simp only [fewB, Bool.and_eq_true, decide_eq_true_eq, List.all_eq_true] at h
  exact h
theorem few_is {ps : List Pk} {n : Int} (h : (ps.length : Int) ≤ n) (h2 : ∀ j, j < ps.length → (ps.getD j pk0).c.length ≤ 80) : fewB ps n = true := by
  simp only [fewB, Bool.and_eq_true, decide_eq_true_eq, List.all_eq_true]
  refine ⟨h, fun p hp => ?_⟩
  obtain ⟨i, hi, e⟩ := List.getElem_of_mem hp
  have := h2 i hi
  simp only [List.getD, List.getElem?_eq_getElem hi, Option.getD_some] at this
  rw [← e]
  exact this
noncomputable def fwC : Cfg := ⟨goZ 60 [0] [.code (bodyOf Tryd.f11)], ⟨0, [], []⟩⟩
noncomputable def fwS (n : Int) (a1 : Option Addr) (n1 c1 j : Nat) : SS := ⟨23, [(0, .v (.slice a1 n1 c1)), (1, .v (.int .i64 n)), (5, .v (.int .i64 (j : Int)))], []⟩
set_option maxHeartbeats 8000000 in
theorem fw_e (w0 : World) (n : Int) (ps : List Pk) (a1 : Option Addr) (c1 b1 o1 : Nat) (h1 : ps.length = 0 ∨ a1 = some ⟨b1, o1, none⟩) (hn : n ≤ 100000) (hl : (ps.length : Int) ≤ n) (m : Nat) (hv : ∀ i, i < ps.length → (ps.getD i pk0).c.length ≤ 80) (aa : Act) (w : World) (S : Sy w0 [] [] (fwS n a1 ps.length c1 (ps.length)) [rfPs b1 o1 ps] aa w) : post Tryd.prog (.rnd (m + 1) (bodyL fwC) :: fwC.k.tail) (bodyPost Tryd.prog Tryd.f11 (fun e w' => e = .returned (.bool (fewB ps n)) ∧ Below w0.heap.size w0 w')) .normal aa w := by
  refine sy_run (c := ⟨(.rnd (m + 1) (bodyL fwC) :: fwC.k.tail), fwS n a1 ps.length c1 (ps.length)⟩) ⟨0, [4]⟩ 50 S fun bs aa w S => ?_
  refine sy_reg S fun S => ?_
  refine sy_ops 4 S fun bs aa w S => ?_
  refine sy_cast 13 S (congrArg Value.bool (decide_eq_false (by omega) : decide ((ps.length : Int) < (ps.length : Int)) = false)) (by kernel_rfl) fun S => ?_
  refine sy_run ⟨0, []⟩ 60 S fun bs aa w S => ?_
  rw [few_is hl hv]
  exact sy_ret S (by kernel_rfl) (by kernel_rfl) fun hg => ⟨rfl, bel_gr hg⟩
set_option maxHeartbeats 8000000 in
theorem fw_s (w0 : World) (n : Int) (ps : List Pk) (a1 : Option Addr) (c1 b1 o1 : Nat) (h1 : ps.length = 0 ∨ a1 = some ⟨b1, o1, none⟩) (hn : n ≤ 100000) (hl : (ps.length : Int) ≤ n) (m j : Nat) (hj : j < ps.length) (hv : ∀ i, i < j → (ps.getD i pk0).c.length ≤ 80) (ih : (ps.getD j pk0).c.length ≤ 80 → ∀ (aa : Act) (w : World) (S : Sy w0 [] [] (fwS n a1 ps.length c1 (j + 1)) [rfPs b1 o1 ps] aa w), post Tryd.prog (.rnd (m) (bodyL fwC) :: fwC.k.tail) (bodyPost Tryd.prog Tryd.f11 (fun e w' => e = .returned (.bool (fewB ps n)) ∧ Below w0.heap.size w0 w')) .normal aa w) (aa : Act) (w : World) (S : Sy w0 [] [] (fwS n a1 ps.length c1 (j)) [rfPs b1 o1 ps] aa w) : post Tryd.prog (.rnd (m + 1) (bodyL fwC) :: fwC.k.tail) (bodyPost Tryd.prog Tryd.f11 (fun e w' => e = .returned (.bool (fewB ps n)) ∧ Below w0.heap.size w0 w')) .normal aa w := by
  refine sy_run (c := ⟨(.rnd (m + 1) (bodyL fwC) :: fwC.k.tail), fwS n a1 ps.length c1 (j)⟩) ⟨0, [4]⟩ 50 S fun bs aa w S => ?_
  refine sy_reg S fun S => ?_
  refine sy_ops 4 S fun bs aa w S => ?_
  refine sy_cast 13 S (congrArg Value.bool (decide_eq_true (by omega) : decide ((j : Int) < (ps.length : Int)) = true)) (by kernel_rfl) fun S => ?_
  refine sy_run ⟨0, [6]⟩ 60 S fun bs aa w S => ?_
  refine sy_reg S fun S => ?_
  refine sy_ops 2 S fun bs aa w S => ?_
  refine sy_ix (b := b1) (off := o1) (len := ps.length) (n := j) (size := 4) (i := (j : Int)) S (by rw [← h1.resolve_left (by omega)]; kernel_rfl) rfl hj fun aa S => ?_
  refine sy_ops 1 S fun bs aa w S => ?_
  refine sy_ldo S (ld_at (ty := 23) (b := b1) (off := o1 + j * 4 + 3) (by kernel_rfl) ((S.fact (f := rfPs b1 o1 ps) (by simp)) j hj).2.2.2) (by kernel_rfl) fun aa S => ?_
  refine sy_ops 2 S fun bs aa w S => ?_
  by_cases h8 : (ps.getD j pk0).c.length ≤ 80
  case neg =>
    have hno : fewB ps n = false := by
      rw [Bool.eq_false_iff]
      intro q
      exact h8 ((few_of q).2 _ (getD_mem ps j pk0 hj))
    refine sy_cast 22 S (congrArg Value.bool (decide_eq_true (by omega) : decide (((ps.getD j pk0).c.length : Int) > 80) = true)) (by kernel_rfl) fun S => ?_
    refine sy_run ⟨0, []⟩ 60 S fun bs aa w S => ?_
    rw [hno]
    exact sy_ret S (by kernel_rfl) (by kernel_rfl) fun hg => ⟨rfl, bel_gr hg⟩
  refine sy_cast 22 S (congrArg Value.bool (decide_eq_false (by omega) : decide (((ps.getD j pk0).c.length : Int) > 80) = false)) (by kernel_rfl) fun S => ?_
  refine sy_run ⟨0, [5]⟩ 60 S fun bs aa w S => ?_
  refine sy_reg S fun S => ?_
  refine sy_ops 2 S fun bs aa w S => ?_
  refine sy_cast 15 S (congrArg (Value.int .i64) (by rw [IntKind.wrap_i64]; omega : IntKind.i64.wrap ((j : Int) + 1) = ((j + 1 : Nat) : Int))) (by kernel_rfl) fun S => ?_
  refine sy_run ⟨0, [999]⟩ 50 S fun bs aa w S => ?_
  have S2 := S.to [] (fwS n a1 ps.length c1 (j + 1)) (by kernel_rfl) (by kernel_rfl) (by kernel_rfl) (by kernel_rfl) (by kernel_rfl)
  refine sy_at2 (k' := (.rnd (m) (bodyL fwC) :: fwC.k.tail)) (by kernel_rfl) ?_
  exact ih h8 aa w S2
theorem fw_a (w0 : World) (n : Int) (ps : List Pk) (a1 : Option Addr) (c1 b1 o1 : Nat) (h1 : ps.length = 0 ∨ a1 = some ⟨b1, o1, none⟩) (hn : n ≤ 100000) (hl : (ps.length : Int) ≤ n) : ∀ (m j : Nat), j + m = ps.length → ∀ (hv : ∀ i, i < j → (ps.getD i pk0).c.length ≤ 80) (aa : Act) (w : World) (S : Sy w0 [] [] (fwS n a1 ps.length c1 (j)) [rfPs b1 o1 ps] aa w), post Tryd.prog (.rnd (m + 1) (bodyL fwC) :: fwC.k.tail) (bodyPost Tryd.prog Tryd.f11 (fun e w' => e = .returned (.bool (fewB ps n)) ∧ Below w0.heap.size w0 w')) .normal aa w := by
  intro m
  induction m with
  | zero => intro j hj hv aa w S; obtain rfl : j = ps.length := by omega
            exact fw_e w0 n ps a1 c1 b1 o1 h1 hn hl 0 hv aa w S
  | succ m ih => intro j hj hv aa w S; exact fw_s w0 n ps a1 c1 b1 o1 h1 hn hl (m + 1) j (by omega) hv (fun h aa w S => ih (j + 1) (by omega) (fun i hi => by rcases Nat.lt_or_ge i j with h2 | h2; exact hv i h2; rw [show i = j by omega]; exact h) aa w S) aa w S
set_option maxHeartbeats 8000000 in
theorem few_t (w0 : World) (n : Int) (ps : List Pk) (a1 : Option Addr) (c1 b1 o1 : Nat) (h1 : ps.length = 0 ∨ a1 = some ⟨b1, o1, none⟩) (hn : n ≤ 100000) (hA : PsAt w0 b1 o1 ps) : Calls Tryd.prog 11 #[.slice a1 ps.length c1, .int .i64 n] w0 (fun e w' => e = .returned (.bool (fewB ps n)) ∧ Below w0.heap.size w0 w') := by
  refine sy_enterF [] [rfPs b1 o1 ps] (by intro f hf; simp only [List.mem_singleton] at hf; subst hf; exact hA) Tryd.func11 rfl rfl fun aa S => ?_
  refine sy_run ⟨0, [1]⟩ 60 S fun bs aa w S => ?_
  refine sy_reg S fun S => ?_
  refine sy_ops 4 S fun bs aa w S => ?_
  by_cases hl : (ps.length : Int) ≤ n
  case neg =>
    have hno : fewB ps n = false := by unfold fewB; rw [decide_eq_false hl]; rfl
    refine sy_cast 9 S (congrArg Value.bool (decide_eq_true (by omega) : decide ((ps.length : Int) > n) = true)) (by kernel_rfl) fun S => ?_
    refine sy_run ⟨0, []⟩ 60 S fun bs aa w S => ?_
    rw [hno]
    exact sy_ret S (by kernel_rfl) (by kernel_rfl) fun hg => ⟨rfl, bel_gr hg⟩
  refine sy_cast 9 S (congrArg Value.bool (decide_eq_false (by omega) : decide ((ps.length : Int) > n) = false)) (by kernel_rfl) fun S => ?_
  refine sy_run ⟨0, []⟩ 60 S fun bs aa w S => ?_
  have S2 := S.to [] (fwS n a1 ps.length c1 0) (by kernel_rfl) (by kernel_rfl) (by kernel_rfl) (by kernel_rfl) (by kernel_rfl)
  refine sy_loop (ps.length + 1) (by kernel_rfl) ?_
  refine sy_at2 (k' := (.rnd (ps.length + 1) (bodyL fwC) :: fwC.k.tail)) (by kernel_rfl) ?_
  exact fw_a w0 n ps a1 c1 b1 o1 h1 hn hl ps.length 0 (by omega) (fun i hi => absurd hi (Nat.not_lt_zero _)) aa w S2
noncomputable def rrC : Cfg := ⟨goZ 60 [0, 0, 1] [.code (bodyOf Tryd.f13)], ⟨0, [], []⟩⟩
noncomputable def rrS (tt : Int) (p : Pk) (j : Nat) : SS := ⟨94, [(0, .v (.int .i64 tt)), (3, .p 0 0), (5, .v (.int .i64 (j : Int)))], [⟨25, [.int .i64 p.k, .int .i64 p.a, .int .i64 p.b, .slice p.s p.c.length p.cp]⟩]⟩
set_option maxHeartbeats 8000000 in
theorem rr_e (w0 : World) (tt : Int) (p : Pk) (hok : p.ok) (hc : p.c.length ≤ 100000) (hk1 : ¬p.k = 1) (hk2 : ¬p.k = 2) (hk3 : p.k = 3) (m : Nat) (hv : ∀ i, i < p.c.length → 0 ≤ p.c.getD i 0 ∧ p.c.getD i 0 ≤ 32) (x0 : Nat) (aa : Act) (w : World) (S : Sy w0 [] [x0] (rrS tt p (p.c.length)) [rfIs p.bl p.o p.c] aa w) : post Tryd.prog (.rnd (m + 1) (bodyL rrC) :: rrC.k.tail) (bodyPost Tryd.prog Tryd.f13 (fun e w' => e = .returned (.bool (rightB tt p.w)) ∧ Below w0.heap.size w0 w')) .normal aa w := by
  have hcut : cutsB p.c = decide (p.c.length ≤ 64) := by unfold cutsB; rw [all_end hv, Bool.true_and]
  refine sy_run (c := ⟨(.rnd (m + 1) (bodyL rrC) :: rrC.k.tail), rrS tt p p.c.length⟩) ⟨0, [8]⟩ 50 S fun bs aa w S => ?_
  refine sy_reg S fun S => ?_
  refine sy_ops 5 S fun bs aa w S => ?_
  refine sy_cast 63 S (congrArg Value.bool (decide_eq_false (by omega) : decide ((p.c.length : Int) < (p.c.length : Int)) = false)) (by kernel_rfl) fun S => ?_
  refine sy_run ⟨0, [12]⟩ 60 S fun bs aa w S => ?_
  refine sy_reg S fun S => ?_
  refine sy_ops 3 S fun bs aa w S => ?_
  by_cases ha : p.a = 0
  · refine sy_cast 82 S (congrArg Value.bool (decide_eq_true (by omega) : decide (p.a = 0) = true)) (by kernel_rfl) fun S => ?_
    refine sy_ops 4 S fun bs aa w S => ?_
    by_cases hb : p.b = 0
    · refine sy_cast 86 S (congrArg Value.bool (decide_eq_true (by omega) : decide (p.b = 0) = true)) (by kernel_rfl) fun S => ?_
      refine sy_ops 6 S fun bs aa w S => ?_
      by_cases hl : p.c.length ≤ 64
      · refine sy_cast 92 S (congrArg Value.bool (decide_eq_true (by omega) : decide ((p.c.length : Int) ≤ 64) = true)) (by kernel_rfl) fun S => ?_
        refine sy_run ⟨0, []⟩ 60 S fun bs aa w S => ?_
        have hz : rightB tt p.w = true := by simp [rightB, Pk.w, hk3, ha, hb, hl, hcut]
        rw [hz]
        exact sy_ret S (by kernel_rfl) (by kernel_rfl) fun hg => ⟨rfl, bel_gr hg⟩
      · refine sy_cast 92 S (congrArg Value.bool (decide_eq_false (by omega) : decide ((p.c.length : Int) ≤ 64) = false)) (by kernel_rfl) fun S => ?_
        refine sy_run ⟨0, []⟩ 60 S fun bs aa w S => ?_
        have hz : rightB tt p.w = false := by simp [rightB, Pk.w, hk3, ha, hb, hl, hcut]
        rw [hz]
        exact sy_ret S (by kernel_rfl) (by kernel_rfl) fun hg => ⟨rfl, bel_gr hg⟩
    · refine sy_cast 86 S (congrArg Value.bool (decide_eq_false (by omega) : decide (p.b = 0) = false)) (by kernel_rfl) fun S => ?_
      refine sy_run ⟨0, []⟩ 60 S fun bs aa w S => ?_
      have hz : rightB tt p.w = false := by simp [rightB, Pk.w, hk3, ha, hb]
      rw [hz]
      exact sy_ret S (by kernel_rfl) (by kernel_rfl) fun hg => ⟨rfl, bel_gr hg⟩
  · refine sy_cast 82 S (congrArg Value.bool (decide_eq_false (by omega) : decide (p.a = 0) = false)) (by kernel_rfl) fun S => ?_
    refine sy_run ⟨0, []⟩ 60 S fun bs aa w S => ?_
    have hz : rightB tt p.w = false := by simp [rightB, Pk.w, hk3, ha]
    rw [hz]
    exact sy_ret S (by kernel_rfl) (by kernel_rfl) fun hg => ⟨rfl, bel_gr hg⟩
set_option maxHeartbeats 8000000 in
theorem rr_s (w0 : World) (tt : Int) (p : Pk) (hok : p.ok) (hc : p.c.length ≤ 100000) (hk1 : ¬p.k = 1) (hk2 : ¬p.k = 2) (hk3 : p.k = 3) (m j : Nat) (hj : j < p.c.length) (hv : ∀ i, i < j → 0 ≤ p.c.getD i 0 ∧ p.c.getD i 0 ≤ 32) (ih : (0 ≤ (p.c.getD j 0) ∧ (p.c.getD j 0) ≤ 32) → ∀ (x0 : Nat) (aa : Act) (w : World) (S : Sy w0 [] [x0] (rrS tt p (j + 1)) [rfIs p.bl p.o p.c] aa w), post Tryd.prog (.rnd (m) (bodyL rrC) :: rrC.k.tail) (bodyPost Tryd.prog Tryd.f13 (fun e w' => e = .returned (.bool (rightB tt p.w)) ∧ Below w0.heap.size w0 w')) .normal aa w) (x0 : Nat) (aa : Act) (w : World) (S : Sy w0 [] [x0] (rrS tt p (j)) [rfIs p.bl p.o p.c] aa w) : post Tryd.prog (.rnd (m + 1) (bodyL rrC) :: rrC.k.tail) (bodyPost Tryd.prog Tryd.f13 (fun e w' => e = .returned (.bool (rightB tt p.w)) ∧ Below w0.heap.size w0 w')) .normal aa w := by
  refine sy_run (c := ⟨(.rnd (m + 1) (bodyL rrC) :: rrC.k.tail), rrS tt p j⟩) ⟨0, [8]⟩ 50 S fun bs aa w S => ?_
  refine sy_reg S fun S => ?_
  refine sy_ops 5 S fun bs aa w S => ?_
  refine sy_cast 63 S (congrArg Value.bool (decide_eq_true (by omega) : decide ((j : Int) < (p.c.length : Int)) = true)) (by kernel_rfl) fun S => ?_
  refine sy_run ⟨0, [10]⟩ 60 S fun bs aa w S => ?_
  refine sy_reg S fun S => ?_
  refine sy_ops 3 S fun bs aa w S => ?_
  refine sy_ix (b := p.bl) (off := p.o) (len := p.c.length) (n := j) (size := 1) (i := (j : Int)) S (by rw [← hok.resolve_left (by omega)]; kernel_rfl) rfl hj fun aa S => ?_
  refine sy_ldo S (ld_at (ty := 3) (b := p.bl) (off := p.o + j * 1) (by kernel_rfl) (by rw [Nat.mul_one]; exact S.fact (f := rfIs p.bl p.o p.c) (by simp) j hj)) (by kernel_rfl) fun aa S => ?_
  refine sy_ops 1 S fun bs aa w S => ?_
  by_cases h0 : (p.c.getD j 0) < 0
  · have hb : cutsB p.c = false := all_bad hj (by omega)
    refine sy_cast 71 S (congrArg Value.bool (decide_eq_true h0 : decide ((p.c.getD j 0) < 0) = true)) (by kernel_rfl) fun S => ?_
    refine sy_run ⟨0, []⟩ 60 S fun bs aa w S => ?_
    have hz : rightB tt p.w = false := by simp [rightB, Pk.w, hk3, hb]
    rw [hz]
    exact sy_ret S (by kernel_rfl) (by kernel_rfl) fun hg => ⟨rfl, bel_gr hg⟩
  refine sy_cast 71 S (congrArg Value.bool (decide_eq_false h0 : decide ((p.c.getD j 0) < 0) = false)) (by kernel_rfl) fun S => ?_
  refine sy_ops 4 S fun bs aa w S => ?_
  refine sy_ix (b := p.bl) (off := p.o) (len := p.c.length) (n := j) (size := 1) (i := (j : Int)) S (by rw [← hok.resolve_left (by omega)]; kernel_rfl) rfl hj fun aa S => ?_
  refine sy_ldo S (ld_at (ty := 3) (b := p.bl) (off := p.o + j * 1) (by kernel_rfl) (by rw [Nat.mul_one]; exact S.fact (f := rfIs p.bl p.o p.c) (by simp) j hj)) (by kernel_rfl) fun aa S => ?_
  refine sy_ops 1 S fun bs aa w S => ?_
  by_cases h1 : (p.c.getD j 0) > 32
  · have hb : cutsB p.c = false := all_bad hj (by omega)
    refine sy_cast 78 S (congrArg Value.bool (decide_eq_true h1 : decide ((p.c.getD j 0) > 32) = true)) (by kernel_rfl) fun S => ?_
    refine sy_run ⟨0, []⟩ 60 S fun bs aa w S => ?_
    have hz : rightB tt p.w = false := by simp [rightB, Pk.w, hk3, hb]
    rw [hz]
    exact sy_ret S (by kernel_rfl) (by kernel_rfl) fun hg => ⟨rfl, bel_gr hg⟩
  refine sy_cast 78 S (congrArg Value.bool (decide_eq_false h1 : decide ((p.c.getD j 0) > 32) = false)) (by kernel_rfl) fun S => ?_
  refine sy_run ⟨0, [9]⟩ 60 S fun bs aa w S => ?_
  refine sy_reg S fun S => ?_
  refine sy_ops 2 S fun bs aa w S => ?_
  refine sy_cast 65 S (congrArg (Value.int .i64) (by rw [IntKind.wrap_i64]; omega : IntKind.i64.wrap ((j : Int) + 1) = ((j + 1 : Nat) : Int))) (by kernel_rfl) fun S => ?_
  refine sy_run ⟨0, [999]⟩ 50 S fun bs aa w S => ?_
  have S2 := S.to [0] (rrS tt p (j + 1)) (by kernel_rfl) (by kernel_rfl) (by kernel_rfl) (by kernel_rfl) (by kernel_rfl)
  refine sy_at2 (k' := (.rnd (m) (bodyL rrC) :: rrC.k.tail)) (by kernel_rfl) ?_
  exact ih (by omega) _ aa w S2
theorem rr_a (w0 : World) (tt : Int) (p : Pk) (hok : p.ok) (hc : p.c.length ≤ 100000) (hk1 : ¬p.k = 1) (hk2 : ¬p.k = 2) (hk3 : p.k = 3) : ∀ (m j : Nat), j + m = p.c.length → ∀ (hv : ∀ i, i < j → 0 ≤ p.c.getD i 0 ∧ p.c.getD i 0 ≤ 32) (x0 : Nat) (aa : Act) (w : World) (S : Sy w0 [] [x0] (rrS tt p (j)) [rfIs p.bl p.o p.c] aa w), post Tryd.prog (.rnd (m + 1) (bodyL rrC) :: rrC.k.tail) (bodyPost Tryd.prog Tryd.f13 (fun e w' => e = .returned (.bool (rightB tt p.w)) ∧ Below w0.heap.size w0 w')) .normal aa w := by
  intro m
  induction m with
  | zero =>
    intro j hj hv x0 aa w S
    obtain rfl : j = p.c.length := by omega
    exact rr_e w0 tt p hok hc hk1 hk2 hk3 0 hv x0 aa w S
  | succ m ih => intro j hj hv x0 aa w S; exact rr_s w0 tt p hok hc hk1 hk2 hk3 (m + 1) j (by omega) hv (fun h x0 aa w S => ih (j + 1) (by omega) (fun i hi => by rcases Nat.lt_or_ge i j with h2 | h2; exact hv i h2; rw [show i = j by omega]; exact h) x0 aa w S) x0 aa w S
set_option maxHeartbeats 8000000 in
theorem rright_t (w0 : World) (tt : Int) (p : Pk) (hok : p.ok) (hc : p.c.length ≤ 100000) (hAt : IsAt w0 p.bl p.o p.c) : Calls Tryd.prog 13 #[.int .i64 tt, p.v] w0 (fun e w' => e = .returned (.bool (rightB tt p.w)) ∧ Below w0.heap.size w0 w') := by
  refine sy_enterF [] [rfIs p.bl p.o p.c] (by intro f hf; simp only [List.mem_singleton] at hf; subst hf; exact hAt) Tryd.func13 rfl rfl fun aa S => ?_
  refine sy_run ⟨0, [2]⟩ 60 S fun bs aa w S => ?_
  refine sy_reg S fun S => ?_
  refine sy_ops 1 S fun bs aa w S => ?_
  by_cases hk1 : p.k = 1
  · refine sy_cast 9 S (congrArg Value.bool (decide_eq_true (by omega) : decide (p.k = 1) = true)) (by kernel_rfl) fun S => ?_
    refine sy_run ⟨0, [3]⟩ 60 S fun bs aa w S => ?_
    refine sy_reg S fun S => ?_
    refine sy_ops 3 S fun bs aa w S => ?_
    by_cases h1 : 0 ≤ p.a
    · refine sy_cast 12 S (congrArg Value.bool (decide_eq_true (by omega) : decide (p.a ≥ 0) = true)) (by kernel_rfl) fun S => ?_
      refine sy_ops 5 S fun bs aa w S => ?_
      by_cases h2 : p.a < tt
      · refine sy_cast 17 S (congrArg Value.bool (decide_eq_true (by omega) : decide (p.a < tt) = true)) (by kernel_rfl) fun S => ?_
        refine sy_ops 5 S fun bs aa w S => ?_
        by_cases hb : p.b = 0
        · refine sy_cast 22 S (congrArg Value.bool (decide_eq_true (by omega) : decide (p.b = 0) = true)) (by kernel_rfl) fun S => ?_
          refine sy_ops 6 S fun bs aa w S => ?_
          by_cases hl : p.c.length = 0
          · refine sy_cast 28 S (congrArg Value.bool (decide_eq_true (by omega) : decide ((p.c.length : Int) = 0) = true)) (by kernel_rfl) fun S => ?_
            refine sy_run ⟨0, []⟩ 60 S fun bs aa w S => ?_
            have hv : rightB tt p.w = true := by simp [rightB, Pk.w, hk1, h1, h2, hb, hl]
            rw [hv]
            exact sy_ret S (by kernel_rfl) (by kernel_rfl) fun hg => ⟨rfl, bel_gr hg⟩
          · refine sy_cast 28 S (congrArg Value.bool (decide_eq_false (by omega) : decide ((p.c.length : Int) = 0) = false)) (by kernel_rfl) fun S => ?_
            refine sy_run ⟨0, []⟩ 60 S fun bs aa w S => ?_
            have hv : rightB tt p.w = false := by simp [rightB, Pk.w, hk1, h1, h2, hb, hl]
            rw [hv]
            exact sy_ret S (by kernel_rfl) (by kernel_rfl) fun hg => ⟨rfl, bel_gr hg⟩
        · refine sy_cast 22 S (congrArg Value.bool (decide_eq_false (by omega) : decide (p.b = 0) = false)) (by kernel_rfl) fun S => ?_
          refine sy_run ⟨0, []⟩ 60 S fun bs aa w S => ?_
          have hv : rightB tt p.w = false := by simp [rightB, Pk.w, hk1, h1, h2, hb]
          rw [hv]
          exact sy_ret S (by kernel_rfl) (by kernel_rfl) fun hg => ⟨rfl, bel_gr hg⟩
      · refine sy_cast 17 S (congrArg Value.bool (decide_eq_false (by omega) : decide (p.a < tt) = false)) (by kernel_rfl) fun S => ?_
        refine sy_run ⟨0, []⟩ 60 S fun bs aa w S => ?_
        have hv : rightB tt p.w = false := by simp [rightB, Pk.w, hk1, h1, h2]
        rw [hv]
        exact sy_ret S (by kernel_rfl) (by kernel_rfl) fun hg => ⟨rfl, bel_gr hg⟩
    · refine sy_cast 12 S (congrArg Value.bool (decide_eq_false (by omega) : decide (p.a ≥ 0) = false)) (by kernel_rfl) fun S => ?_
      refine sy_run ⟨0, []⟩ 60 S fun bs aa w S => ?_
      have hv : rightB tt p.w = false := by simp [rightB, Pk.w, hk1, h1]
      rw [hv]
      exact sy_ret S (by kernel_rfl) (by kernel_rfl) fun hg => ⟨rfl, bel_gr hg⟩
  · refine sy_cast 9 S (congrArg Value.bool (decide_eq_false (by omega) : decide (p.k = 1) = false)) (by kernel_rfl) fun S => ?_
    refine sy_run ⟨0, [4]⟩ 60 S fun bs aa w S => ?_
    refine sy_reg S fun S => ?_
    refine sy_ops 1 S fun bs aa w S => ?_
    by_cases hk2 : p.k = 2
    · refine sy_cast 31 S (congrArg Value.bool (decide_eq_true (by omega) : decide (p.k = 2) = true)) (by kernel_rfl) fun S => ?_
      refine sy_run ⟨0, [5]⟩ 60 S fun bs aa w S => ?_
      refine sy_reg S fun S => ?_
      refine sy_ops 3 S fun bs aa w S => ?_
      by_cases h1 : 0 ≤ p.a
      · refine sy_cast 34 S (congrArg Value.bool (decide_eq_true (by omega) : decide (p.a ≥ 0) = true)) (by kernel_rfl) fun S => ?_
        refine sy_ops 5 S fun bs aa w S => ?_
        by_cases h2 : p.a < tt
        · refine sy_cast 39 S (congrArg Value.bool (decide_eq_true (by omega) : decide (p.a < tt) = true)) (by kernel_rfl) fun S => ?_
          refine sy_ops 5 S fun bs aa w S => ?_
          by_cases hb1 : 0 ≤ p.b
          · refine sy_cast 44 S (congrArg Value.bool (decide_eq_true (by omega) : decide (p.b ≥ 0) = true)) (by kernel_rfl) fun S => ?_
            refine sy_ops 5 S fun bs aa w S => ?_
            by_cases hb2 : p.b ≤ 1048576
            · refine sy_cast 49 S (congrArg Value.bool (decide_eq_true (by omega) : decide (p.b ≤ 1048576) = true)) (by kernel_rfl) fun S => ?_
              refine sy_ops 6 S fun bs aa w S => ?_
              by_cases hl : p.c.length = 0
              · refine sy_cast 55 S (congrArg Value.bool (decide_eq_true (by omega) : decide ((p.c.length : Int) = 0) = true)) (by kernel_rfl) fun S => ?_
                refine sy_run ⟨0, []⟩ 60 S fun bs aa w S => ?_
                have hv : rightB tt p.w = true := by simp [rightB, Pk.w, hk2, h1, h2, hb1, hb2, hl]
                rw [hv]
                exact sy_ret S (by kernel_rfl) (by kernel_rfl) fun hg => ⟨rfl, bel_gr hg⟩
              · refine sy_cast 55 S (congrArg Value.bool (decide_eq_false (by omega) : decide ((p.c.length : Int) = 0) = false)) (by kernel_rfl) fun S => ?_
                refine sy_run ⟨0, []⟩ 60 S fun bs aa w S => ?_
                have hv : rightB tt p.w = false := by simp [rightB, Pk.w, hk2, h1, h2, hb1, hb2, hl]
                rw [hv]
                exact sy_ret S (by kernel_rfl) (by kernel_rfl) fun hg => ⟨rfl, bel_gr hg⟩
            · refine sy_cast 49 S (congrArg Value.bool (decide_eq_false (by omega) : decide (p.b ≤ 1048576) = false)) (by kernel_rfl) fun S => ?_
              refine sy_run ⟨0, []⟩ 60 S fun bs aa w S => ?_
              have hv : rightB tt p.w = false := by simp [rightB, Pk.w, hk2, h1, h2, hb1, hb2]
              rw [hv]
              exact sy_ret S (by kernel_rfl) (by kernel_rfl) fun hg => ⟨rfl, bel_gr hg⟩
          · refine sy_cast 44 S (congrArg Value.bool (decide_eq_false (by omega) : decide (p.b ≥ 0) = false)) (by kernel_rfl) fun S => ?_
            refine sy_run ⟨0, []⟩ 60 S fun bs aa w S => ?_
            have hv : rightB tt p.w = false := by simp [rightB, Pk.w, hk2, h1, h2, hb1]
            rw [hv]
            exact sy_ret S (by kernel_rfl) (by kernel_rfl) fun hg => ⟨rfl, bel_gr hg⟩
        · refine sy_cast 39 S (congrArg Value.bool (decide_eq_false (by omega) : decide (p.a < tt) = false)) (by kernel_rfl) fun S => ?_
          refine sy_run ⟨0, []⟩ 60 S fun bs aa w S => ?_
          have hv : rightB tt p.w = false := by simp [rightB, Pk.w, hk2, h1, h2]
          rw [hv]
          exact sy_ret S (by kernel_rfl) (by kernel_rfl) fun hg => ⟨rfl, bel_gr hg⟩
      · refine sy_cast 34 S (congrArg Value.bool (decide_eq_false (by omega) : decide (p.a ≥ 0) = false)) (by kernel_rfl) fun S => ?_
        refine sy_run ⟨0, []⟩ 60 S fun bs aa w S => ?_
        have hv : rightB tt p.w = false := by simp [rightB, Pk.w, hk2, h1]
        rw [hv]
        exact sy_ret S (by kernel_rfl) (by kernel_rfl) fun hg => ⟨rfl, bel_gr hg⟩
    · refine sy_cast 31 S (congrArg Value.bool (decide_eq_false (by omega) : decide (p.k = 2) = false)) (by kernel_rfl) fun S => ?_
      refine sy_run ⟨0, [6]⟩ 60 S fun bs aa w S => ?_
      refine sy_reg S fun S => ?_
      refine sy_ops 1 S fun bs aa w S => ?_
      by_cases hk3 : p.k = 3
      · refine sy_cast 58 S (congrArg Value.bool (decide_eq_true (by omega) : decide (p.k = 3) = true)) (by kernel_rfl) fun S => ?_
        refine sy_run ⟨0, []⟩ 60 S fun bs aa w S => ?_
        have S2 := S.to [0] (rrS tt p 0) (by kernel_rfl) (by kernel_rfl) (by kernel_rfl) (by kernel_rfl) (by kernel_rfl)
        refine sy_loop (p.c.length + 1) (by kernel_rfl) ?_
        refine sy_at2 (k' := (.rnd (p.c.length + 1) (bodyL rrC) :: rrC.k.tail)) (by kernel_rfl) ?_
        exact rr_a w0 tt p hok hc hk1 hk2 hk3 p.c.length 0 (by omega) (fun i hi => absurd hi (Nat.not_lt_zero _)) _ aa w S2
      · refine sy_cast 58 S (congrArg Value.bool (decide_eq_false (by omega) : decide (p.k = 3) = false)) (by kernel_rfl) fun S => ?_
        refine sy_run ⟨0, []⟩ 60 S fun bs aa w S => ?_
        have hv : rightB tt p.w = false := by simp [rightB, Pk.w, hk1, hk2, hk3]
        rw [hv]
        exact sy_ret S (by kernel_rfl) (by kernel_rfl) fun hg => ⟨rfl, bel_gr hg⟩
noncomputable def raC : Cfg := ⟨goZ 60 [] [.code (bodyOf Tryd.f21)], ⟨0, [], []⟩⟩
noncomputable def raS (a1 : Option Addr) (n1 c1 j : Nat) : SS := ⟨18, [(0, .v (.slice a1 n1 c1)), (3, .v (.int .i64 (j : Int)))], []⟩
theorem all_of {ps : List Pk} {f : Pk → Bool} (h : ∀ j, j < ps.length → f (ps.getD j pk0) = true) : ps.all f = true := by
  rw [List.all_eq_true]
  intro p hp
  obtain ⟨i, hi, e⟩ := List.getElem_of_mem hp
  have := h i hi
  simp only [List.getD, List.getElem?_eq_getElem hi, Option.getD_some] at this
  rw [← e]
  exact this
set_option maxHeartbeats 8000000 in
theorem ra_e (w0 : World) (ps : List Pk) (a1 : Option Addr) (c1 b1 o1 : Nat) (h1 : ps.length = 0 ∨ a1 = some ⟨b1, o1, none⟩) (hl : ps.length ≤ 100000) (hx : ∀ p ∈ ps, p.ok ∧ p.c.length ≤ 100000) (m : Nat) (hv : ∀ i, i < ps.length → rightB 4 (ps.getD i pk0).w = true) (aa : Act) (w : World) (S : Sy w0 [] [] (raS a1 ps.length c1 (ps.length)) [rfPs b1 o1 ps, rfPc ps] aa w) : post Tryd.prog (.rnd (m + 1) (bodyL raC) :: raC.k.tail) (bodyPost Tryd.prog Tryd.f21 (fun e w' => e = .returned (.bool (ps.all fun p => rightB 4 p.w)) ∧ Below w0.heap.size w0 w')) .normal aa w := by
  refine sy_run (c := ⟨(.rnd (m + 1) (bodyL raC) :: raC.k.tail), raS a1 ps.length c1 (ps.length)⟩) ⟨0, [2]⟩ 50 S fun bs aa w S => ?_
  refine sy_reg S fun S => ?_
  refine sy_ops 4 S fun bs aa w S => ?_
  refine sy_cast 8 S (congrArg Value.bool (decide_eq_false (by omega) : decide ((ps.length : Int) < (ps.length : Int)) = false)) (by kernel_rfl) fun S => ?_
  refine sy_run ⟨0, []⟩ 60 S fun bs aa w S => ?_
  rw [all_of hv]
  exact sy_ret S (by kernel_rfl) (by kernel_rfl) fun hg => ⟨rfl, bel_gr hg⟩
set_option maxHeartbeats 8000000 in
theorem ra_s (w0 : World) (ps : List Pk) (a1 : Option Addr) (c1 b1 o1 : Nat) (h1 : ps.length = 0 ∨ a1 = some ⟨b1, o1, none⟩) (hl : ps.length ≤ 100000) (hx : ∀ p ∈ ps, p.ok ∧ p.c.length ≤ 100000) (m j : Nat) (hj : j < ps.length) (hv : ∀ i, i < j → rightB 4 (ps.getD i pk0).w = true) (ih : rightB 4 (ps.getD j pk0).w = true → ∀ (aa : Act) (w : World) (S : Sy w0 [] [] (raS a1 ps.length c1 (j + 1)) [rfPs b1 o1 ps, rfPc ps] aa w), post Tryd.prog (.rnd (m) (bodyL raC) :: raC.k.tail) (bodyPost Tryd.prog Tryd.f21 (fun e w' => e = .returned (.bool (ps.all fun p => rightB 4 p.w)) ∧ Below w0.heap.size w0 w')) .normal aa w) (aa : Act) (w : World) (S : Sy w0 [] [] (raS a1 ps.length c1 (j)) [rfPs b1 o1 ps, rfPc ps] aa w) : post Tryd.prog (.rnd (m + 1) (bodyL raC) :: raC.k.tail) (bodyPost Tryd.prog Tryd.f21 (fun e w' => e = .returned (.bool (ps.all fun p => rightB 4 p.w)) ∧ Below w0.heap.size w0 w')) .normal aa w := by
  have hmem := getD_mem ps j pk0 hj
  refine sy_run (c := ⟨(.rnd (m + 1) (bodyL raC) :: raC.k.tail), raS a1 ps.length c1 (j)⟩) ⟨0, [2]⟩ 50 S fun bs aa w S => ?_
  refine sy_reg S fun S => ?_
  refine sy_ops 4 S fun bs aa w S => ?_
  refine sy_cast 8 S (congrArg Value.bool (decide_eq_true (by omega) : decide ((j : Int) < (ps.length : Int)) = true)) (by kernel_rfl) fun S => ?_
  refine sy_run ⟨0, [4]⟩ 60 S fun bs aa w S => ?_
  refine sy_reg S fun S => ?_
  refine sy_ops 2 S fun bs aa w S => ?_
  refine sy_ix (b := b1) (off := o1) (len := ps.length) (n := j) (size := 4) (i := (j : Int)) S (by rw [← h1.resolve_left (by omega)]; kernel_rfl) rfl hj fun aa S => ?_
  refine sy_ldo S (v := (ps.getD j pk0).v) (ld_pk (S.fact (f := rfPs b1 o1 ps) (by simp)) hj) (by kernel_rfl) fun aa S => ?_
  have hrt := rright_t w 4 (ps.getD j pk0) (hx _ hmem).1 (hx _ hmem).2 ((S.fact (f := rfPc ps) (by simp)) _ hmem)
  cases hr : rightB 4 (ps.getD j pk0).w with
  | false =>
    rw [hr] at hrt
    have hno : (ps.all fun p => rightB 4 p.w) = false := by
      rw [Bool.eq_false_iff]
      intro q
      rw [List.all_eq_true] at q
      have := q _ hmem
      rw [hr] at this
      cases this
    refine sy_call1 S hrt (by kernel_rfl) fun aa w hb S => ?_
    refine sy_run ⟨0, []⟩ 60 S fun bs aa w S => ?_
    rw [hno]
    exact sy_ret S (by kernel_rfl) (by kernel_rfl) fun hg => ⟨rfl, bel_gr hg⟩
  | true =>
    rw [hr] at hrt
    refine sy_call1 S hrt (by kernel_rfl) fun aa w hb S => ?_
    refine sy_run ⟨0, [3]⟩ 60 S fun bs aa w S => ?_
    refine sy_reg S fun S => ?_
    refine sy_ops 2 S fun bs aa w S => ?_
    refine sy_cast 10 S (congrArg (Value.int .i64) (by rw [IntKind.wrap_i64]; omega : IntKind.i64.wrap ((j : Int) + 1) = ((j + 1 : Nat) : Int))) (by kernel_rfl) fun S => ?_
    refine sy_run ⟨0, [999]⟩ 50 S fun bs aa w S => ?_
    have S2 := S.to [] (raS a1 ps.length c1 (j + 1)) (by kernel_rfl) (by kernel_rfl) (by kernel_rfl) (by kernel_rfl) (by kernel_rfl)
    refine sy_at2 (k' := (.rnd (m) (bodyL raC) :: raC.k.tail)) (by kernel_rfl) ?_
    exact ih hr aa w S2
theorem ra_a (w0 : World) (ps : List Pk) (a1 : Option Addr) (c1 b1 o1 : Nat) (h1 : ps.length = 0 ∨ a1 = some ⟨b1, o1, none⟩) (hl : ps.length ≤ 100000) (hx : ∀ p ∈ ps, p.ok ∧ p.c.length ≤ 100000) : ∀ (m j : Nat), j + m = ps.length → ∀ (hv : ∀ i, i < j → rightB 4 (ps.getD i pk0).w = true) (aa : Act) (w : World) (S : Sy w0 [] [] (raS a1 ps.length c1 (j)) [rfPs b1 o1 ps, rfPc ps] aa w), post Tryd.prog (.rnd (m + 1) (bodyL raC) :: raC.k.tail) (bodyPost Tryd.prog Tryd.f21 (fun e w' => e = .returned (.bool (ps.all fun p => rightB 4 p.w)) ∧ Below w0.heap.size w0 w')) .normal aa w := by
  intro m
  induction m with
  | zero => intro j hj hv aa w S; obtain rfl : j = ps.length := by omega
            exact ra_e w0 ps a1 c1 b1 o1 h1 hl hx 0 hv aa w S
  | succ m ih => intro j hj hv aa w S; exact ra_s w0 ps a1 c1 b1 o1 h1 hl hx (m + 1) j (by omega) hv (fun h aa w S => ih (j + 1) (by omega) (fun i hi => by rcases Nat.lt_or_ge i j with h2 | h2; exact hv i h2; rw [show i = j by omega]; exact h) aa w S) aa w S
set_option maxHeartbeats 8000000 in
theorem rall_t (w0 : World) (ps : List Pk) (a1 : Option Addr) (c1 b1 o1 : Nat) (h1 : ps.length = 0 ∨ a1 = some ⟨b1, o1, none⟩) (hl : ps.length ≤ 100000) (hx : ∀ p ∈ ps, p.ok ∧ p.c.length ≤ 100000) (hA : PsAt w0 b1 o1 ps) (hA2 : ∀ p ∈ ps, IsAt w0 p.bl p.o p.c) : Calls Tryd.prog 21 #[.slice a1 ps.length c1] w0 (fun e w' => e = .returned (.bool (ps.all fun p => rightB 4 p.w)) ∧ Below w0.heap.size w0 w') := by
  refine sy_enterF [] [rfPs b1 o1 ps, rfPc ps] (by intro f hf; simp only [List.mem_cons, List.not_mem_nil, or_false] at hf; rcases hf with rfl | rfl; exact hA; exact hA2) Tryd.func21 rfl rfl fun aa S => ?_
  refine sy_run ⟨0, []⟩ 60 S fun bs aa w S => ?_
  have S2 := S.to [] (raS a1 ps.length c1 0) (by kernel_rfl) (by kernel_rfl) (by kernel_rfl) (by kernel_rfl) (by kernel_rfl)
  refine sy_loop (ps.length + 1) (by kernel_rfl) ?_
  refine sy_at2 (k' := (.rnd (ps.length + 1) (bodyL raC) :: raC.k.tail)) (by kernel_rfl) ?_
  exact ra_a w0 ps a1 c1 b1 o1 h1 hl hx ps.length 0 (by omega) (fun i hi => absurd hi (Nat.not_lt_zero _)) aa w S2
end Go.Proofs.YtfkmcibglaiakaaDoor
