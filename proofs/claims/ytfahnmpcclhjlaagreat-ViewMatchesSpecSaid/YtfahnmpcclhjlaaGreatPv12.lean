/-
  Merged: AbsB, MgrF, AbsG, Vg0, Vg1, Vg2, Vg3, Zr, Vh1, Vh2
-/
import Derived.Test.YtfahnmpcclhjlaaGreatRows
import Derived.Test.YtfahnmpcclhjlaaGreatPv3
import Derived.Test.YtfahnmpcclhjlaaGreatPv11
import Derived.Test.YtfahnmpcclhjlaaGreatPv5
import Derived.Test.YtfahnmpcclhjlaaGreatPv6
import Derived.Test.YtfahnmpcclhjlaaGreatPv8
import Derived.Test.YtfahnmpcclhjlaaGreatPv1
import Derived.WalkKit
import Derived.Test.YtfahnmpcclhjlaaGreatPv7
import Derived.WalkLawsBesides
import Derived.Lib.Hide
import Derived.Test.YtfahnmpcclhjlaaGreatPv4
namespace Go.Proofs.YtfahnmpcclhjlaaGreat
open Go Go.RowKit SX
set_option linter.unusedVariables false
set_option linter.unusedSectionVars false
set_option linter.unusedSimpArgs false
set_option maxRecDepth 100000
def Tree.rest : Tree → List (Int × Bool) → List (Int × Bool)
  | .ret _, l => l
  | .ask _ _, [] => []
  | .ask _ f, r :: l => (f r).rest l
def OpPostR (x : Ask ⊕ OutD) (rest : List (Int × Bool)) (g : Nat) (w : World) (e : Ending) (w' : World) : Prop :=
  OpPost x g w e w' ∧ (∀ o, x = .inr o → RunAt w' g rest)
theorem trun_ask (a : Ask) (f : Int × Bool → Tree) (r : Int × Bool) (l : List (Int × Bool)) : (Tree.ask a f).run (r :: l) = (f r).run l := rfl
theorem trun_ret (o : OutD) (l : List (Int × Bool)) : (Tree.ret o).run l = .inr o := by cases l <;> rfl
theorem tchoose_12 (k : Int) (m o : Ct) : chooseD k m o = 1 ∨ chooseD k m o = 2 := by
  cases h : ahead k m o
  · exact Or.inl (chooseD_f h)
  · exact Or.inr (chooseD_t h)
attribute [local irreducible] post GD
section
variable (w : World) (g : Nat) (L : Ly) (hok : L.ok) (me other : Int) (own : Bool) (m : Ct)
include w g L hok me other own m
set_option maxHeartbeats 8000000 in
theorem doomR_1 (s : Int) (h0 : RunAt w g []) (hs : I64 s) (hk : s % 4 = 1) : Calls Tryz.prog 88 #[caseV L me other own m, .pointer (some ⟨g, 0, none⟩), .int .i64 s] w fun e w' => e = .panicked [{ v := .iface 78 (Ask.v ⟨3, atStatus L other, s, wrap64 (4 * (s / 4) + 3)⟩), recovered := false }] ∧ w.grownBy w' (some g) := by
  refine sy_enterF (some g) [rfRun g ([])] (by intro f hf; simp at hf; subst hf; exact h0) Tryz.func88 rfl fun aa S => ?_
  refine sy_run ⟨0, []⟩ 60 S fun bs aa w S => ?_
  refine sy_call1 S (toBelow (kind_any s w)) (by kernel_rfl) fun aa w hb S => ?_
  refine sy_run ⟨0, [2]⟩ 60 S fun bs aa w S => ?_
  refine sy_reg S fun S => ?_
  refine sy_ops 1 S fun bs aa w S => ?_
  refine sy_cast 11 S (congrArg Value.bool (decide_eq_true hk : decide (s % 4 = 1) = true)) (by kernel_rfl) fun S => ?_
  refine sy_run ⟨0, []⟩ 60 S fun bs aa w S => ?_
  refine sy_call1 S (toBelow (try_any s hs w)) (by kernel_rfl) fun aa w hb S => ?_
  refine sy_run ⟨0, []⟩ 60 S fun bs aa w S => ?_
  refine sy_call1 S (toBelow (wstatus_any (s / 4) 3 w)) (by kernel_rfl) fun aa w hb S => ?_
  refine sy_run ⟨0, []⟩ 60 S fun bs aa w S => ?_
  refine sy_call1 S (status_any L other w hok) (by kernel_rfl) fun aa w hb S => ?_
  refine sy_run ⟨0, []⟩ 60 S fun bs aa w S => ?_
  exact sy_panic S ((swap_none w g (atStatus L other) s (wrap64 (4 * (s / 4) + 3)) S.run).mono fun e w' h => ⟨h.1, gb_of_below _ h.2⟩) (by kernel_rfl) fun w' hg => ⟨rfl, hg⟩
set_option maxHeartbeats 8000000 in
theorem doomR_t (s n : Int) (l : List (Int × Bool)) (h0 : RunAt w g ((n, true) :: l)) (hs : I64 s) (hk : s % 4 = 1) : Calls Tryz.prog 88 #[caseV L me other own m, .pointer (some ⟨g, 0, none⟩), .int .i64 s] w fun e w' => e = .returned (OutD.v { val := 2 }) ∧ w.grownBy w' (some g) ∧ RunAt w' g l := by
  refine sy_enterF (some g) [rfRun g ((n, true) :: l)] (by intro f hf; simp at hf; subst hf; exact h0) Tryz.func88 rfl fun aa S => ?_
  refine sy_run ⟨0, []⟩ 60 S fun bs aa w S => ?_
  refine sy_call1 S (toBelow (kind_any s w)) (by kernel_rfl) fun aa w hb S => ?_
  refine sy_run ⟨0, [2]⟩ 60 S fun bs aa w S => ?_
  refine sy_reg S fun S => ?_
  refine sy_ops 1 S fun bs aa w S => ?_
  refine sy_cast 11 S (congrArg Value.bool (decide_eq_true hk : decide (s % 4 = 1) = true)) (by kernel_rfl) fun S => ?_
  refine sy_run ⟨0, []⟩ 60 S fun bs aa w S => ?_
  refine sy_call1 S (toBelow (try_any s hs w)) (by kernel_rfl) fun aa w hb S => ?_
  refine sy_run ⟨0, []⟩ 60 S fun bs aa w S => ?_
  refine sy_call1 S (toBelow (wstatus_any (s / 4) 3 w)) (by kernel_rfl) fun aa w hb S => ?_
  refine sy_run ⟨0, []⟩ 60 S fun bs aa w S => ?_
  refine sy_call1 S (status_any L other w hok) (by kernel_rfl) fun aa w hb S => ?_
  refine sy_run ⟨0, []⟩ 60 S fun bs aa w S => ?_
  refine sy_acc S (Or.inl rfl) (swap_some w g (n, true) l (atStatus L other) s (wrap64 (4 * (s / 4) + 3)) S.run) (by kernel_rfl) (by simp) fun aa w S => ?_
  refine sy_run ⟨0, []⟩ 60 S fun bs aa w S => ?_
  exact sy_ret S (by kernel_rfl) (by kernel_rfl) fun hg => ⟨rfl, hg, S.run⟩
set_option maxHeartbeats 8000000 in
theorem doomR_f (s n : Int) (l : List (Int × Bool)) (h0 : RunAt w g ((n, false) :: l)) (hs : I64 s) (hk : s % 4 = 1) : Calls Tryz.prog 88 #[caseV L me other own m, .pointer (some ⟨g, 0, none⟩), .int .i64 s] w fun e w' => e = .returned (OutD.v { val := 0 }) ∧ w.grownBy w' (some g) ∧ RunAt w' g l := by
  refine sy_enterF (some g) [rfRun g ((n, false) :: l)] (by intro f hf; simp at hf; subst hf; exact h0) Tryz.func88 rfl fun aa S => ?_
  refine sy_run ⟨0, []⟩ 60 S fun bs aa w S => ?_
  refine sy_call1 S (toBelow (kind_any s w)) (by kernel_rfl) fun aa w hb S => ?_
  refine sy_run ⟨0, [2]⟩ 60 S fun bs aa w S => ?_
  refine sy_reg S fun S => ?_
  refine sy_ops 1 S fun bs aa w S => ?_
  refine sy_cast 11 S (congrArg Value.bool (decide_eq_true hk : decide (s % 4 = 1) = true)) (by kernel_rfl) fun S => ?_
  refine sy_run ⟨0, []⟩ 60 S fun bs aa w S => ?_
  refine sy_call1 S (toBelow (try_any s hs w)) (by kernel_rfl) fun aa w hb S => ?_
  refine sy_run ⟨0, []⟩ 60 S fun bs aa w S => ?_
  refine sy_call1 S (toBelow (wstatus_any (s / 4) 3 w)) (by kernel_rfl) fun aa w hb S => ?_
  refine sy_run ⟨0, []⟩ 60 S fun bs aa w S => ?_
  refine sy_call1 S (status_any L other w hok) (by kernel_rfl) fun aa w hb S => ?_
  refine sy_run ⟨0, []⟩ 60 S fun bs aa w S => ?_
  refine sy_acc S (Or.inl rfl) (swap_some w g (n, false) l (atStatus L other) s (wrap64 (4 * (s / 4) + 3)) S.run) (by kernel_rfl) (by simp) fun aa w S => ?_
  refine sy_run ⟨0, []⟩ 60 S fun bs aa w S => ?_
  exact sy_ret S (by kernel_rfl) (by kernel_rfl) fun hg => ⟨rfl, hg, S.run⟩
set_option maxHeartbeats 8000000 in
theorem doomR_3 (s : Int) (l : List (Int × Bool)) (h0 : RunAt w g l) (hk : s % 4 = 3) : Calls Tryz.prog 88 #[caseV L me other own m, .pointer (some ⟨g, 0, none⟩), .int .i64 s] w fun e w' => e = .returned (OutD.v { val := 2 }) ∧ w.grownBy w' (some g) ∧ RunAt w' g l := by
  refine sy_enterF (some g) [rfRun g (l)] (by intro f hf; simp at hf; subst hf; exact h0) Tryz.func88 rfl fun aa S => ?_
  refine sy_run ⟨0, []⟩ 60 S fun bs aa w S => ?_
  refine sy_call1 S (toBelow (kind_any s w)) (by kernel_rfl) fun aa w hb S => ?_
  refine sy_run ⟨0, [2]⟩ 60 S fun bs aa w S => ?_
  refine sy_reg S fun S => ?_
  refine sy_ops 1 S fun bs aa w S => ?_
  refine sy_cast 11 S (congrArg Value.bool (decide_eq_false (by omega) : decide (s % 4 = 1) = false)) (by kernel_rfl) fun S => ?_
  refine sy_run ⟨0, [3]⟩ 60 S fun bs aa w S => ?_
  refine sy_reg S fun S => ?_
  refine sy_ops 1 S fun bs aa w S => ?_
  refine sy_cast 13 S (congrArg Value.bool (decide_eq_true hk : decide (s % 4 = 3) = true)) (by kernel_rfl) fun S => ?_
  refine sy_run ⟨0, []⟩ 60 S fun bs aa w S => ?_
  exact sy_ret S (by kernel_rfl) (by kernel_rfl) fun hg => ⟨rfl, hg, S.run⟩
set_option maxHeartbeats 8000000 in
theorem doomR_2 (s : Int) (l : List (Int × Bool)) (h0 : RunAt w g l) (hk : ¬s % 4 = 1) (hq : ¬s % 4 = 3) : Calls Tryz.prog 88 #[caseV L me other own m, .pointer (some ⟨g, 0, none⟩), .int .i64 s] w fun e w' => e = .returned (OutD.v { val := 3 }) ∧ w.grownBy w' (some g) ∧ RunAt w' g l := by
  refine sy_enterF (some g) [rfRun g (l)] (by intro f hf; simp at hf; subst hf; exact h0) Tryz.func88 rfl fun aa S => ?_
  refine sy_run ⟨0, []⟩ 60 S fun bs aa w S => ?_
  refine sy_call1 S (toBelow (kind_any s w)) (by kernel_rfl) fun aa w hb S => ?_
  refine sy_run ⟨0, [2]⟩ 60 S fun bs aa w S => ?_
  refine sy_reg S fun S => ?_
  refine sy_ops 1 S fun bs aa w S => ?_
  refine sy_cast 11 S (congrArg Value.bool (decide_eq_false hk : decide (s % 4 = 1) = false)) (by kernel_rfl) fun S => ?_
  refine sy_run ⟨0, [3]⟩ 60 S fun bs aa w S => ?_
  refine sy_reg S fun S => ?_
  refine sy_ops 1 S fun bs aa w S => ?_
  refine sy_cast 13 S (congrArg Value.bool (decide_eq_false hq : decide (s % 4 = 3) = false)) (by kernel_rfl) fun S => ?_
  refine sy_run ⟨0, []⟩ 60 S fun bs aa w S => ?_
  exact sy_ret S (by kernel_rfl) (by kernel_rfl) fun hg => ⟨rfl, hg, S.run⟩
theorem doomR_any (s : Int) (hs : I64 s) (l : List (Int × Bool)) (h0 : RunAt w g l) :
    Calls Tryz.prog 88 #[caseV L me other own m, .pointer (some ⟨g, 0, none⟩), .int .i64 s] w (OpPostR ((doomT L other s).run l) ((doomT L other s).rest l) g w) := by
  by_cases hk : s % 4 = 1
  · match l, h0 with
    | [], h0 =>
      have e : (doomT L other s).run [] = .inl ⟨3, atStatus L other, s, wrap64 (4 * (s / 4) + 3)⟩ := by unfold doomT; rw [if_pos hk]; rfl
      rw [e]; exact (doomR_1 w g L hok me other own m s h0 hs hk).mono fun e w' h => ⟨⟨h.1, h.2⟩, fun o ho => by cases ho⟩
    | (n, true) :: l, h0 =>
      have e : (doomT L other s).run ((n, true) :: l) = .inr { val := 2 } := by unfold doomT; rw [if_pos hk]; rfl
      have e2 : (doomT L other s).rest ((n, true) :: l) = l := by unfold doomT; rw [if_pos hk]; rfl
      rw [e, e2]; exact (doomR_t w g L hok me other own m s n l h0 hs hk).mono fun e w' h => ⟨⟨h.1, h.2.1⟩, fun o ho => h.2.2⟩
    | (n, false) :: l, h0 =>
      have e : (doomT L other s).run ((n, false) :: l) = .inr { val := 0 } := by unfold doomT; rw [if_pos hk]; rfl
      have e2 : (doomT L other s).rest ((n, false) :: l) = l := by unfold doomT; rw [if_pos hk]; rfl
      rw [e, e2]; exact (doomR_f w g L hok me other own m s n l h0 hs hk).mono fun e w' h => ⟨⟨h.1, h.2.1⟩, fun o ho => h.2.2⟩
  · by_cases hq : s % 4 = 3
    · have e : (doomT L other s).run l = .inr { val := 2 } := by unfold doomT; rw [if_neg hk, if_pos hq]; cases l <;> rfl
      have e2 : (doomT L other s).rest l = l := by unfold doomT; rw [if_neg hk, if_pos hq]; cases l <;> rfl
      rw [e, e2]; exact (doomR_3 w g L hok me other own m s l h0 hq).mono fun e w' h => ⟨⟨h.1, h.2.1⟩, fun o ho => h.2.2⟩
    · have e : (doomT L other s).run l = .inr { val := 3 } := by unfold doomT; rw [if_neg hk, if_neg hq]; cases l <;> rfl
      have e2 : (doomT L other s).rest l = l := by unfold doomT; rw [if_neg hk, if_neg hq]; cases l <;> rfl
      rw [e, e2]; exact (doomR_2 w g L hok me other own m s l h0 hk hq).mono fun e w' h => ⟨⟨h.1, h.2.1⟩, fun o ho => h.2.2⟩
end
end Go.Proofs.YtfahnmpcclhjlaaGreat

namespace Go.Proofs.YtfahnmpcclhjlaaGreat
open Go Go.RowKit SX
set_option linter.unusedVariables false
set_option linter.unusedSectionVars false
set_option linter.unusedSimpArgs false
set_option maxRecDepth 100000
attribute [local irreducible] post GD
section
variable (w : World) (g : Nat) (L : Ly) (hok : L.ok) (me other : Int) (m : Ct) (c0 : CSt) (h0 : CurAt w g c0) (r0 : Int) (b0 : Bool) (ca : CSt) (eca : cdo c0 ⟨1, atStatus L me, 0, 0⟩ = ((r0, b0), ca))
include w g L hok me other m c0 h0 r0 b0 ca eca
set_option maxHeartbeats 8000000 in
theorem ask_own3 (ho : r0 % 4 = 3) : Calls Tryz.prog 73 #[.pointer (some ⟨g, 0, none⟩), L.v, .int .i64 me, .int .i64 other, .bool true, m.v] w fun e w' => e = .returned (.tuple #[.int .i64 1, .bool true]) ∧ CurAt w' g ca ∧ w.grownBy w' (some g) := by
  refine sy_enterF (some g) [rfCur g c0] (by intro f hf; simp at hf; subst hf; exact h0) Tryz.func73 rfl fun aa S => ?_
  refine sy_run ⟨0, []⟩ 60 S fun bs aa w S => ?_
  refine sy_call1 S (rstatus_any L me w hok) (by kernel_rfl) fun aa w hb S => ?_
  refine sy_run ⟨0, []⟩ 60 S fun bs aa w S => ?_
  have hL := fun w hc => rload_any02 w g c0 (atStatus L me) hc
  rw [eca] at hL
  refine sy_cur (x' := ca) (v := .int .i64 r0) S (Or.inl rfl) (hL w S.cur) (by kernel_rfl) (by simp) fun aa w S => ?_
  clear hL
  refine sy_run ⟨0, []⟩ 60 S fun bs aa w S => ?_
  refine sy_call1 S (toBelow (rkind_any r0 w)) (by kernel_rfl) fun aa w hb S => ?_
  refine sy_ops 1 S fun bs aa w S => ?_
  refine sy_cast 30 S (congrArg Value.bool (decide_eq_true ho : decide (r0 % 4 = 3) = true)) (by kernel_rfl) fun S => ?_
  refine sy_run ⟨0, []⟩ 60 S fun bs aa w S => ?_
  exact sy_ret S (by kernel_rfl) (by kernel_rfl) fun hg => ⟨rfl, S.cur, hg⟩
section
variable (ho : ¬r0 % 4 = 3) (s : Int) (b1 : Bool) (c1 : CSt) (ec1 : cdo ca ⟨1, atStatus L other, 0, 0⟩ = ((s, b1), c1))
include ho s b1 c1 ec1
set_option maxHeartbeats 8000000 in
theorem ask_t_idle (hs : s % 4 = 0) : Calls Tryz.prog 73 #[.pointer (some ⟨g, 0, none⟩), L.v, .int .i64 me, .int .i64 other, .bool true, m.v] w fun e w' => e = .returned (.tuple #[.int .i64 0, .bool false]) ∧ CurAt w' g c1 ∧ w.grownBy w' (some g) := by
  refine sy_enterF (some g) [rfCur g c0] (by intro f hf; simp at hf; subst hf; exact h0) Tryz.func73 rfl fun aa S => ?_
  refine sy_run ⟨0, []⟩ 60 S fun bs aa w S => ?_
  refine sy_call1 S (rstatus_any L me w hok) (by kernel_rfl) fun aa w hb S => ?_
  refine sy_run ⟨0, []⟩ 60 S fun bs aa w S => ?_
  have hL := fun w hc => rload_any02 w g c0 (atStatus L me) hc
  rw [eca] at hL
  refine sy_cur (x' := ca) (v := .int .i64 r0) S (Or.inl rfl) (hL w S.cur) (by kernel_rfl) (by simp) fun aa w S => ?_
  clear hL
  refine sy_run ⟨0, []⟩ 60 S fun bs aa w S => ?_
  refine sy_call1 S (toBelow (rkind_any r0 w)) (by kernel_rfl) fun aa w hb S => ?_
  refine sy_ops 1 S fun bs aa w S => ?_
  refine sy_cast 30 S (congrArg Value.bool (decide_eq_false ho : decide (r0 % 4 = 3) = false)) (by kernel_rfl) fun S => ?_
  refine sy_run ⟨0, []⟩ 60 S fun bs aa w S => ?_
  refine sy_call1 S (rstatus_any L other w hok) (by kernel_rfl) fun aa w hb S => ?_
  refine sy_run ⟨0, []⟩ 60 S fun bs aa w S => ?_
  have hL := fun w hc => rload_any02 w g ca (atStatus L other) hc
  rw [ec1] at hL
  refine sy_cur (x' := c1) (v := .int .i64 s) S (Or.inl rfl) (hL w S.cur) (by kernel_rfl) (by simp) fun aa w S => ?_
  clear hL
  refine sy_run ⟨0, []⟩ 60 S fun bs aa w S => ?_
  refine sy_call1 S (toBelow (rkind_any s w)) (by kernel_rfl) fun aa w hb S => ?_
  refine sy_run ⟨0, [7]⟩ 60 S fun bs aa w S => ?_
  refine sy_reg S fun S => ?_
  refine sy_ops 2 S fun bs aa w S => ?_
  refine sy_cast 39 S (congrArg Value.bool (decide_eq_true hs : decide (s % 4 = 0) = true)) (by kernel_rfl) fun S => ?_
  refine sy_run ⟨0, []⟩ 60 S fun bs aa w S => ?_
  exact sy_ret S (by kernel_rfl) (by kernel_rfl) fun hg => ⟨rfl, S.cur, hg⟩
section
variable (hs : ¬s % 4 = 0) (hi : I64 s) (x : Int) (b2 : Bool) (c2 : CSt) (ec2 : cdo c1 ⟨1, atStamp L other, 0, 0⟩ = ((x, b2), c2)) (y : Int) (b3 : Bool) (c3 : CSt) (ec3 : cdo c2 ⟨1, atKarma L other, 0, 0⟩ = ((y, b3), c3))
include hs hi x b2 c2 ec2 y b3 c3 ec3
set_option maxHeartbeats 8000000 in
theorem ask_t_abort (hv : chooseD L.c.m m ⟨x, y, s / 4⟩ = 1) : Calls Tryz.prog 73 #[.pointer (some ⟨g, 0, none⟩), L.v, .int .i64 me, .int .i64 other, .bool true, m.v] w fun e w' => e = .returned (.tuple #[.int .i64 1, .bool false]) ∧ CurAt w' g c3 ∧ w.grownBy w' (some g) := by
  refine sy_enterF (some g) [rfCur g c0] (by intro f hf; simp at hf; subst hf; exact h0) Tryz.func73 rfl fun aa S => ?_
  refine sy_run ⟨0, []⟩ 60 S fun bs aa w S => ?_
  refine sy_call1 S (rstatus_any L me w hok) (by kernel_rfl) fun aa w hb S => ?_
  refine sy_run ⟨0, []⟩ 60 S fun bs aa w S => ?_
  have hL := fun w hc => rload_any02 w g c0 (atStatus L me) hc
  rw [eca] at hL
  refine sy_cur (x' := ca) (v := .int .i64 r0) S (Or.inl rfl) (hL w S.cur) (by kernel_rfl) (by simp) fun aa w S => ?_
  clear hL
  refine sy_run ⟨0, []⟩ 60 S fun bs aa w S => ?_
  refine sy_call1 S (toBelow (rkind_any r0 w)) (by kernel_rfl) fun aa w hb S => ?_
  refine sy_ops 1 S fun bs aa w S => ?_
  refine sy_cast 30 S (congrArg Value.bool (decide_eq_false ho : decide (r0 % 4 = 3) = false)) (by kernel_rfl) fun S => ?_
  refine sy_run ⟨0, []⟩ 60 S fun bs aa w S => ?_
  refine sy_call1 S (rstatus_any L other w hok) (by kernel_rfl) fun aa w hb S => ?_
  refine sy_run ⟨0, []⟩ 60 S fun bs aa w S => ?_
  have hL := fun w hc => rload_any02 w g ca (atStatus L other) hc
  rw [ec1] at hL
  refine sy_cur (x' := c1) (v := .int .i64 s) S (Or.inl rfl) (hL w S.cur) (by kernel_rfl) (by simp) fun aa w S => ?_
  clear hL
  refine sy_run ⟨0, []⟩ 60 S fun bs aa w S => ?_
  refine sy_call1 S (toBelow (rkind_any s w)) (by kernel_rfl) fun aa w hb S => ?_
  refine sy_run ⟨0, [7]⟩ 60 S fun bs aa w S => ?_
  refine sy_reg S fun S => ?_
  refine sy_ops 2 S fun bs aa w S => ?_
  refine sy_cast 39 S (congrArg Value.bool (decide_eq_false hs : decide (s % 4 = 0) = false)) (by kernel_rfl) fun S => ?_
  refine sy_run ⟨0, []⟩ 60 S fun bs aa w S => ?_
  refine sy_call1 S (rstamp_any L other w hok) (by kernel_rfl) fun aa w hb S => ?_
  refine sy_run ⟨0, []⟩ 60 S fun bs aa w S => ?_
  have hL := fun w hc => rload_any02 w g c1 (atStamp L other) hc
  rw [ec2] at hL
  refine sy_cur (x' := c2) (v := .int .i64 x) S (Or.inl rfl) (hL w S.cur) (by kernel_rfl) (by simp) fun aa w S => ?_
  clear hL
  refine sy_run ⟨0, []⟩ 60 S fun bs aa w S => ?_
  refine sy_call1 S (rkarma_any L other w hok) (by kernel_rfl) fun aa w hb S => ?_
  refine sy_run ⟨0, []⟩ 60 S fun bs aa w S => ?_
  have hL := fun w hc => rload_any02 w g c2 (atKarma L other) hc
  rw [ec3] at hL
  refine sy_cur (x' := c3) (v := .int .i64 y) S (Or.inl rfl) (hL w S.cur) (by kernel_rfl) (by simp) fun aa w S => ?_
  clear hL
  refine sy_run ⟨0, []⟩ 60 S fun bs aa w S => ?_
  refine sy_call1 S (toBelow (rtry_any s hi w)) (by kernel_rfl) fun aa w hb S => ?_
  refine sy_run ⟨0, []⟩ 60 S fun bs aa w S => ?_
  have hC := fun w => rchoose_any L.c.m m ⟨x, y, s / 4⟩ w
  rw [hv] at hC
  refine sy_call1 S (hC w) (by kernel_rfl) fun aa w hb S => ?_
  refine sy_run ⟨0, []⟩ 60 S fun bs aa w S => ?_
  exact sy_ret S (by kernel_rfl) (by kernel_rfl) fun hg => ⟨rfl, S.cur, hg⟩
section
variable (hv : chooseD L.c.m m ⟨x, y, s / 4⟩ = 2)
include hv
set_option maxHeartbeats 8000000 in
theorem ask_t_k3 (hk : s % 4 = 3) : Calls Tryz.prog 73 #[.pointer (some ⟨g, 0, none⟩), L.v, .int .i64 me, .int .i64 other, .bool true, m.v] w fun e w' => e = .returned (.tuple #[.int .i64 2, .bool false]) ∧ CurAt w' g c3 ∧ w.grownBy w' (some g) := by
  refine sy_enterF (some g) [rfCur g c0] (by intro f hf; simp at hf; subst hf; exact h0) Tryz.func73 rfl fun aa S => ?_
  refine sy_run ⟨0, []⟩ 60 S fun bs aa w S => ?_
  refine sy_call1 S (rstatus_any L me w hok) (by kernel_rfl) fun aa w hb S => ?_
  refine sy_run ⟨0, []⟩ 60 S fun bs aa w S => ?_
  have hL := fun w hc => rload_any02 w g c0 (atStatus L me) hc
  rw [eca] at hL
  refine sy_cur (x' := ca) (v := .int .i64 r0) S (Or.inl rfl) (hL w S.cur) (by kernel_rfl) (by simp) fun aa w S => ?_
  clear hL
  refine sy_run ⟨0, []⟩ 60 S fun bs aa w S => ?_
  refine sy_call1 S (toBelow (rkind_any r0 w)) (by kernel_rfl) fun aa w hb S => ?_
  refine sy_ops 1 S fun bs aa w S => ?_
  refine sy_cast 30 S (congrArg Value.bool (decide_eq_false ho : decide (r0 % 4 = 3) = false)) (by kernel_rfl) fun S => ?_
  refine sy_run ⟨0, []⟩ 60 S fun bs aa w S => ?_
  refine sy_call1 S (rstatus_any L other w hok) (by kernel_rfl) fun aa w hb S => ?_
  refine sy_run ⟨0, []⟩ 60 S fun bs aa w S => ?_
  have hL := fun w hc => rload_any02 w g ca (atStatus L other) hc
  rw [ec1] at hL
  refine sy_cur (x' := c1) (v := .int .i64 s) S (Or.inl rfl) (hL w S.cur) (by kernel_rfl) (by simp) fun aa w S => ?_
  clear hL
  refine sy_run ⟨0, []⟩ 60 S fun bs aa w S => ?_
  refine sy_call1 S (toBelow (rkind_any s w)) (by kernel_rfl) fun aa w hb S => ?_
  refine sy_run ⟨0, [7]⟩ 60 S fun bs aa w S => ?_
  refine sy_reg S fun S => ?_
  refine sy_ops 2 S fun bs aa w S => ?_
  refine sy_cast 39 S (congrArg Value.bool (decide_eq_false hs : decide (s % 4 = 0) = false)) (by kernel_rfl) fun S => ?_
  refine sy_run ⟨0, []⟩ 60 S fun bs aa w S => ?_
  refine sy_call1 S (rstamp_any L other w hok) (by kernel_rfl) fun aa w hb S => ?_
  refine sy_run ⟨0, []⟩ 60 S fun bs aa w S => ?_
  have hL := fun w hc => rload_any02 w g c1 (atStamp L other) hc
  rw [ec2] at hL
  refine sy_cur (x' := c2) (v := .int .i64 x) S (Or.inl rfl) (hL w S.cur) (by kernel_rfl) (by simp) fun aa w S => ?_
  clear hL
  refine sy_run ⟨0, []⟩ 60 S fun bs aa w S => ?_
  refine sy_call1 S (rkarma_any L other w hok) (by kernel_rfl) fun aa w hb S => ?_
  refine sy_run ⟨0, []⟩ 60 S fun bs aa w S => ?_
  have hL := fun w hc => rload_any02 w g c2 (atKarma L other) hc
  rw [ec3] at hL
  refine sy_cur (x' := c3) (v := .int .i64 y) S (Or.inl rfl) (hL w S.cur) (by kernel_rfl) (by simp) fun aa w S => ?_
  clear hL
  refine sy_run ⟨0, []⟩ 60 S fun bs aa w S => ?_
  refine sy_call1 S (toBelow (rtry_any s hi w)) (by kernel_rfl) fun aa w hb S => ?_
  refine sy_run ⟨0, []⟩ 60 S fun bs aa w S => ?_
  have hC := fun w => rchoose_any L.c.m m ⟨x, y, s / 4⟩ w
  rw [hv] at hC
  refine sy_call1 S (hC w) (by kernel_rfl) fun aa w hb S => ?_
  refine sy_run ⟨0, [13]⟩ 60 S fun bs aa w S => ?_
  refine sy_reg S fun S => ?_
  refine sy_ops 5 S fun bs aa w S => ?_
  refine sy_cast 65 S (congrArg Value.bool (decide_eq_true hk : decide (s % 4 = 3) = true)) (by kernel_rfl) fun S => ?_
  refine sy_run ⟨0, []⟩ 60 S fun bs aa w S => ?_
  exact sy_ret S (by kernel_rfl) (by kernel_rfl) fun hg => ⟨rfl, S.cur, hg⟩
set_option maxHeartbeats 8000000 in
theorem ask_t_k2 (hk : s % 4 = 2) : Calls Tryz.prog 73 #[.pointer (some ⟨g, 0, none⟩), L.v, .int .i64 me, .int .i64 other, .bool true, m.v] w fun e w' => e = .returned (.tuple #[.int .i64 3, .bool false]) ∧ CurAt w' g c3 ∧ w.grownBy w' (some g) := by
  refine sy_enterF (some g) [rfCur g c0] (by intro f hf; simp at hf; subst hf; exact h0) Tryz.func73 rfl fun aa S => ?_
  refine sy_run ⟨0, []⟩ 60 S fun bs aa w S => ?_
  refine sy_call1 S (rstatus_any L me w hok) (by kernel_rfl) fun aa w hb S => ?_
  refine sy_run ⟨0, []⟩ 60 S fun bs aa w S => ?_
  have hL := fun w hc => rload_any02 w g c0 (atStatus L me) hc
  rw [eca] at hL
  refine sy_cur (x' := ca) (v := .int .i64 r0) S (Or.inl rfl) (hL w S.cur) (by kernel_rfl) (by simp) fun aa w S => ?_
  clear hL
  refine sy_run ⟨0, []⟩ 60 S fun bs aa w S => ?_
  refine sy_call1 S (toBelow (rkind_any r0 w)) (by kernel_rfl) fun aa w hb S => ?_
  refine sy_ops 1 S fun bs aa w S => ?_
  refine sy_cast 30 S (congrArg Value.bool (decide_eq_false ho : decide (r0 % 4 = 3) = false)) (by kernel_rfl) fun S => ?_
  refine sy_run ⟨0, []⟩ 60 S fun bs aa w S => ?_
  refine sy_call1 S (rstatus_any L other w hok) (by kernel_rfl) fun aa w hb S => ?_
  refine sy_run ⟨0, []⟩ 60 S fun bs aa w S => ?_
  have hL := fun w hc => rload_any02 w g ca (atStatus L other) hc
  rw [ec1] at hL
  refine sy_cur (x' := c1) (v := .int .i64 s) S (Or.inl rfl) (hL w S.cur) (by kernel_rfl) (by simp) fun aa w S => ?_
  clear hL
  refine sy_run ⟨0, []⟩ 60 S fun bs aa w S => ?_
  refine sy_call1 S (toBelow (rkind_any s w)) (by kernel_rfl) fun aa w hb S => ?_
  refine sy_run ⟨0, [7]⟩ 60 S fun bs aa w S => ?_
  refine sy_reg S fun S => ?_
  refine sy_ops 2 S fun bs aa w S => ?_
  refine sy_cast 39 S (congrArg Value.bool (decide_eq_false hs : decide (s % 4 = 0) = false)) (by kernel_rfl) fun S => ?_
  refine sy_run ⟨0, []⟩ 60 S fun bs aa w S => ?_
  refine sy_call1 S (rstamp_any L other w hok) (by kernel_rfl) fun aa w hb S => ?_
  refine sy_run ⟨0, []⟩ 60 S fun bs aa w S => ?_
  have hL := fun w hc => rload_any02 w g c1 (atStamp L other) hc
  rw [ec2] at hL
  refine sy_cur (x' := c2) (v := .int .i64 x) S (Or.inl rfl) (hL w S.cur) (by kernel_rfl) (by simp) fun aa w S => ?_
  clear hL
  refine sy_run ⟨0, []⟩ 60 S fun bs aa w S => ?_
  refine sy_call1 S (rkarma_any L other w hok) (by kernel_rfl) fun aa w hb S => ?_
  refine sy_run ⟨0, []⟩ 60 S fun bs aa w S => ?_
  have hL := fun w hc => rload_any02 w g c2 (atKarma L other) hc
  rw [ec3] at hL
  refine sy_cur (x' := c3) (v := .int .i64 y) S (Or.inl rfl) (hL w S.cur) (by kernel_rfl) (by simp) fun aa w S => ?_
  clear hL
  refine sy_run ⟨0, []⟩ 60 S fun bs aa w S => ?_
  refine sy_call1 S (toBelow (rtry_any s hi w)) (by kernel_rfl) fun aa w hb S => ?_
  refine sy_run ⟨0, []⟩ 60 S fun bs aa w S => ?_
  have hC := fun w => rchoose_any L.c.m m ⟨x, y, s / 4⟩ w
  rw [hv] at hC
  refine sy_call1 S (hC w) (by kernel_rfl) fun aa w hb S => ?_
  refine sy_run ⟨0, [13]⟩ 60 S fun bs aa w S => ?_
  refine sy_reg S fun S => ?_
  refine sy_ops 5 S fun bs aa w S => ?_
  refine sy_cast 65 S (congrArg Value.bool (decide_eq_false (by omega) : decide (s % 4 = 3) = false)) (by kernel_rfl) fun S => ?_
  refine sy_run ⟨0, [15]⟩ 60 S fun bs aa w S => ?_
  refine sy_reg S fun S => ?_
  refine sy_ops 2 S fun bs aa w S => ?_
  refine sy_cast 69 S (congrArg Value.bool (decide_eq_true hk : decide (s % 4 = 2) = true)) (by kernel_rfl) fun S => ?_
  refine sy_run ⟨0, []⟩ 60 S fun bs aa w S => ?_
  exact sy_ret S (by kernel_rfl) (by kernel_rfl) fun hg => ⟨rfl, S.cur, hg⟩
set_option maxHeartbeats 8000000 in
theorem ask_t_cast (hk : s % 4 = 1) (z : Int) (c4 : CSt) (ec4 : cdo c3 ⟨3, atStatus L other, s, wrap64 (4 * (s / 4) + 3)⟩ = ((z, true), c4)) : Calls Tryz.prog 73 #[.pointer (some ⟨g, 0, none⟩), L.v, .int .i64 me, .int .i64 other, .bool true, m.v] w fun e w' => e = .returned (.tuple #[.int .i64 2, .bool false]) ∧ CurAt w' g c4 ∧ w.grownBy w' (some g) := by
  refine sy_enterF (some g) [rfCur g c0] (by intro f hf; simp at hf; subst hf; exact h0) Tryz.func73 rfl fun aa S => ?_
  refine sy_run ⟨0, []⟩ 60 S fun bs aa w S => ?_
  refine sy_call1 S (rstatus_any L me w hok) (by kernel_rfl) fun aa w hb S => ?_
  refine sy_run ⟨0, []⟩ 60 S fun bs aa w S => ?_
  have hL := fun w hc => rload_any02 w g c0 (atStatus L me) hc
  rw [eca] at hL
  refine sy_cur (x' := ca) (v := .int .i64 r0) S (Or.inl rfl) (hL w S.cur) (by kernel_rfl) (by simp) fun aa w S => ?_
  clear hL
  refine sy_run ⟨0, []⟩ 60 S fun bs aa w S => ?_
  refine sy_call1 S (toBelow (rkind_any r0 w)) (by kernel_rfl) fun aa w hb S => ?_
  refine sy_ops 1 S fun bs aa w S => ?_
  refine sy_cast 30 S (congrArg Value.bool (decide_eq_false ho : decide (r0 % 4 = 3) = false)) (by kernel_rfl) fun S => ?_
  refine sy_run ⟨0, []⟩ 60 S fun bs aa w S => ?_
  refine sy_call1 S (rstatus_any L other w hok) (by kernel_rfl) fun aa w hb S => ?_
  refine sy_run ⟨0, []⟩ 60 S fun bs aa w S => ?_
  have hL := fun w hc => rload_any02 w g ca (atStatus L other) hc
  rw [ec1] at hL
  refine sy_cur (x' := c1) (v := .int .i64 s) S (Or.inl rfl) (hL w S.cur) (by kernel_rfl) (by simp) fun aa w S => ?_
  clear hL
  refine sy_run ⟨0, []⟩ 60 S fun bs aa w S => ?_
  refine sy_call1 S (toBelow (rkind_any s w)) (by kernel_rfl) fun aa w hb S => ?_
  refine sy_run ⟨0, [7]⟩ 60 S fun bs aa w S => ?_
  refine sy_reg S fun S => ?_
  refine sy_ops 2 S fun bs aa w S => ?_
  refine sy_cast 39 S (congrArg Value.bool (decide_eq_false hs : decide (s % 4 = 0) = false)) (by kernel_rfl) fun S => ?_
  refine sy_run ⟨0, []⟩ 60 S fun bs aa w S => ?_
  refine sy_call1 S (rstamp_any L other w hok) (by kernel_rfl) fun aa w hb S => ?_
  refine sy_run ⟨0, []⟩ 60 S fun bs aa w S => ?_
  have hL := fun w hc => rload_any02 w g c1 (atStamp L other) hc
  rw [ec2] at hL
  refine sy_cur (x' := c2) (v := .int .i64 x) S (Or.inl rfl) (hL w S.cur) (by kernel_rfl) (by simp) fun aa w S => ?_
  clear hL
  refine sy_run ⟨0, []⟩ 60 S fun bs aa w S => ?_
  refine sy_call1 S (rkarma_any L other w hok) (by kernel_rfl) fun aa w hb S => ?_
  refine sy_run ⟨0, []⟩ 60 S fun bs aa w S => ?_
  have hL := fun w hc => rload_any02 w g c2 (atKarma L other) hc
  rw [ec3] at hL
  refine sy_cur (x' := c3) (v := .int .i64 y) S (Or.inl rfl) (hL w S.cur) (by kernel_rfl) (by simp) fun aa w S => ?_
  clear hL
  refine sy_run ⟨0, []⟩ 60 S fun bs aa w S => ?_
  refine sy_call1 S (toBelow (rtry_any s hi w)) (by kernel_rfl) fun aa w hb S => ?_
  refine sy_run ⟨0, []⟩ 60 S fun bs aa w S => ?_
  have hC := fun w => rchoose_any L.c.m m ⟨x, y, s / 4⟩ w
  rw [hv] at hC
  refine sy_call1 S (hC w) (by kernel_rfl) fun aa w hb S => ?_
  refine sy_run ⟨0, [13]⟩ 60 S fun bs aa w S => ?_
  refine sy_reg S fun S => ?_
  refine sy_ops 5 S fun bs aa w S => ?_
  refine sy_cast 65 S (congrArg Value.bool (decide_eq_false (by omega) : decide (s % 4 = 3) = false)) (by kernel_rfl) fun S => ?_
  refine sy_run ⟨0, [15]⟩ 60 S fun bs aa w S => ?_
  refine sy_reg S fun S => ?_
  refine sy_ops 2 S fun bs aa w S => ?_
  refine sy_cast 69 S (congrArg Value.bool (decide_eq_false (by omega) : decide (s % 4 = 2) = false)) (by kernel_rfl) fun S => ?_
  refine sy_run ⟨0, []⟩ 60 S fun bs aa w S => ?_
  refine sy_call1 S (rstatus_any L other w hok) (by kernel_rfl) fun aa w hb S => ?_
  refine sy_run ⟨0, []⟩ 60 S fun bs aa w S => ?_
  refine sy_call1 S (toBelow (rwstatus_any (s / 4) 3 w)) (by kernel_rfl) fun aa w hb S => ?_
  refine sy_run ⟨0, []⟩ 60 S fun bs aa w S => ?_
  have hL := fun w hc => rcas_any02 w g c3 (atStatus L other) s (wrap64 (4 * (s / 4) + 3)) hc
  rw [ec4] at hL
  refine sy_cur (x' := c4) (v := .bool true) S (Or.inl rfl) (hL w S.cur) (by kernel_rfl) (by simp) fun aa w S => ?_
  refine sy_run ⟨0, []⟩ 60 S fun bs aa w S => ?_
  exact sy_ret S (by kernel_rfl) (by kernel_rfl) fun hg => ⟨rfl, S.cur, hg⟩
set_option maxHeartbeats 8000000 in
theorem ask_t_casf (hk : s % 4 = 1) (z : Int) (c4 : CSt) (ec4 : cdo c3 ⟨3, atStatus L other, s, wrap64 (4 * (s / 4) + 3)⟩ = ((z, false), c4)) : Calls Tryz.prog 73 #[.pointer (some ⟨g, 0, none⟩), L.v, .int .i64 me, .int .i64 other, .bool true, m.v] w fun e w' => e = .returned (.tuple #[.int .i64 0, .bool false]) ∧ CurAt w' g c4 ∧ w.grownBy w' (some g) := by
  refine sy_enterF (some g) [rfCur g c0] (by intro f hf; simp at hf; subst hf; exact h0) Tryz.func73 rfl fun aa S => ?_
  refine sy_run ⟨0, []⟩ 60 S fun bs aa w S => ?_
  refine sy_call1 S (rstatus_any L me w hok) (by kernel_rfl) fun aa w hb S => ?_
  refine sy_run ⟨0, []⟩ 60 S fun bs aa w S => ?_
  have hL := fun w hc => rload_any02 w g c0 (atStatus L me) hc
  rw [eca] at hL
  refine sy_cur (x' := ca) (v := .int .i64 r0) S (Or.inl rfl) (hL w S.cur) (by kernel_rfl) (by simp) fun aa w S => ?_
  clear hL
  refine sy_run ⟨0, []⟩ 60 S fun bs aa w S => ?_
  refine sy_call1 S (toBelow (rkind_any r0 w)) (by kernel_rfl) fun aa w hb S => ?_
  refine sy_ops 1 S fun bs aa w S => ?_
  refine sy_cast 30 S (congrArg Value.bool (decide_eq_false ho : decide (r0 % 4 = 3) = false)) (by kernel_rfl) fun S => ?_
  refine sy_run ⟨0, []⟩ 60 S fun bs aa w S => ?_
  refine sy_call1 S (rstatus_any L other w hok) (by kernel_rfl) fun aa w hb S => ?_
  refine sy_run ⟨0, []⟩ 60 S fun bs aa w S => ?_
  have hL := fun w hc => rload_any02 w g ca (atStatus L other) hc
  rw [ec1] at hL
  refine sy_cur (x' := c1) (v := .int .i64 s) S (Or.inl rfl) (hL w S.cur) (by kernel_rfl) (by simp) fun aa w S => ?_
  clear hL
  refine sy_run ⟨0, []⟩ 60 S fun bs aa w S => ?_
  refine sy_call1 S (toBelow (rkind_any s w)) (by kernel_rfl) fun aa w hb S => ?_
  refine sy_run ⟨0, [7]⟩ 60 S fun bs aa w S => ?_
  refine sy_reg S fun S => ?_
  refine sy_ops 2 S fun bs aa w S => ?_
  refine sy_cast 39 S (congrArg Value.bool (decide_eq_false hs : decide (s % 4 = 0) = false)) (by kernel_rfl) fun S => ?_
  refine sy_run ⟨0, []⟩ 60 S fun bs aa w S => ?_
  refine sy_call1 S (rstamp_any L other w hok) (by kernel_rfl) fun aa w hb S => ?_
  refine sy_run ⟨0, []⟩ 60 S fun bs aa w S => ?_
  have hL := fun w hc => rload_any02 w g c1 (atStamp L other) hc
  rw [ec2] at hL
  refine sy_cur (x' := c2) (v := .int .i64 x) S (Or.inl rfl) (hL w S.cur) (by kernel_rfl) (by simp) fun aa w S => ?_
  clear hL
  refine sy_run ⟨0, []⟩ 60 S fun bs aa w S => ?_
  refine sy_call1 S (rkarma_any L other w hok) (by kernel_rfl) fun aa w hb S => ?_
  refine sy_run ⟨0, []⟩ 60 S fun bs aa w S => ?_
  have hL := fun w hc => rload_any02 w g c2 (atKarma L other) hc
  rw [ec3] at hL
  refine sy_cur (x' := c3) (v := .int .i64 y) S (Or.inl rfl) (hL w S.cur) (by kernel_rfl) (by simp) fun aa w S => ?_
  clear hL
  refine sy_run ⟨0, []⟩ 60 S fun bs aa w S => ?_
  refine sy_call1 S (toBelow (rtry_any s hi w)) (by kernel_rfl) fun aa w hb S => ?_
  refine sy_run ⟨0, []⟩ 60 S fun bs aa w S => ?_
  have hC := fun w => rchoose_any L.c.m m ⟨x, y, s / 4⟩ w
  rw [hv] at hC
  refine sy_call1 S (hC w) (by kernel_rfl) fun aa w hb S => ?_
  refine sy_run ⟨0, [13]⟩ 60 S fun bs aa w S => ?_
  refine sy_reg S fun S => ?_
  refine sy_ops 5 S fun bs aa w S => ?_
  refine sy_cast 65 S (congrArg Value.bool (decide_eq_false (by omega) : decide (s % 4 = 3) = false)) (by kernel_rfl) fun S => ?_
  refine sy_run ⟨0, [15]⟩ 60 S fun bs aa w S => ?_
  refine sy_reg S fun S => ?_
  refine sy_ops 2 S fun bs aa w S => ?_
  refine sy_cast 69 S (congrArg Value.bool (decide_eq_false (by omega) : decide (s % 4 = 2) = false)) (by kernel_rfl) fun S => ?_
  refine sy_run ⟨0, []⟩ 60 S fun bs aa w S => ?_
  refine sy_call1 S (rstatus_any L other w hok) (by kernel_rfl) fun aa w hb S => ?_
  refine sy_run ⟨0, []⟩ 60 S fun bs aa w S => ?_
  refine sy_call1 S (toBelow (rwstatus_any (s / 4) 3 w)) (by kernel_rfl) fun aa w hb S => ?_
  refine sy_run ⟨0, []⟩ 60 S fun bs aa w S => ?_
  have hL := fun w hc => rcas_any02 w g c3 (atStatus L other) s (wrap64 (4 * (s / 4) + 3)) hc
  rw [ec4] at hL
  refine sy_cur (x' := c4) (v := .bool false) S (Or.inl rfl) (hL w S.cur) (by kernel_rfl) (by simp) fun aa w S => ?_
  refine sy_run ⟨0, []⟩ 60 S fun bs aa w S => ?_
  exact sy_ret S (by kernel_rfl) (by kernel_rfl) fun hg => ⟨rfl, S.cur, hg⟩
end
end
end
end
end Go.Proofs.YtfahnmpcclhjlaaGreat

namespace Go.Proofs.YtfahnmpcclhjlaaGreat
set_option linter.unusedVariables false
set_option linter.unusedSectionVars false
set_option linter.unusedSimpArgs false
set_option maxRecDepth 100000
set_option maxHeartbeats 4000000
open Go.ChangeShapes Go.WideShapes Go.ChangeAt Go.RowKit
theorem cdo_i64 {c : CSt} (a : Ask) (h : ∀ x ∈ c.1, I64 x.1) : I64 (cdo c a).1.1 ∧ ∀ x ∈ (cdo c a).2.1, I64 x.1 := by
  match c, h with
  | (l, some q), h => exact ⟨i64_zero, h⟩
  | ([], none), h => exact ⟨i64_zero, h⟩
  | (r :: l, none), h => exact ⟨h r (by simp), fun x hx => h x (List.mem_cons_of_mem r (show x ∈ l from hx))⟩
theorem refRun_ask {a : Ask} {f : Int × Bool → Tree} {c c' : CSt} {r : Int × Bool} (e : cdo c a = (r, c')) : refRun (.ask a f) c = refRun (f r) c' := by
  show refRun (f (cdo c a).1) (cdo c a).2 = _
  rw [e]
theorem refRun_ret (o : OutD) (c : CSt) : refRun (.ret o) c = (o, c) := rfl
def AskPost (T : Tree) (g : Nat) (c : CSt) (w : World) (e : Ending) (w' : World) : Prop :=
  ∃ v b c', e = .returned (.tuple #[.int .i64 v, .bool b]) ∧ refRun T c = ({ val := v, lost := b }, c') ∧ CurAt w' g c' ∧ w.grownBy w' (some g)
theorem ask_tany (w : World) (g : Nat) (L : Ly) (hok : L.ok) (me other : Int) (m : Ct) (c0 : CSt) (h0 : CurAt w g c0) (r0 : Int) (b0 : Bool) (ca : CSt) (eca : cdo c0 ⟨1, atStatus L me, 0, 0⟩ = ((r0, b0), ca)) (ho : ¬r0 % 4 = 3) (hI : ∀ x ∈ ca.1, I64 x.1) :
    Calls Tryz.prog 73 #[.pointer (some ⟨g, 0, none⟩), L.v, .int .i64 me, .int .i64 other, .bool true, m.v] w fun e w' => ∃ v b c', e = .returned (.tuple #[.int .i64 v, .bool b]) ∧ refRun (asksT L other m) ca = ({ val := v, lost := b }, c') ∧ CurAt w' g c' ∧ w.grownBy w' (some g) := by
  have hi := cdo_i64 ⟨1, atStatus L other, 0, 0⟩ hI
  obtain ⟨⟨⟨s, b1⟩, c1⟩, e1⟩ : ∃ X, cdo ca ⟨1, atStatus L other, 0, 0⟩ = X := ⟨_, rfl⟩
  obtain ⟨⟨⟨x, b2⟩, c2⟩, e2⟩ : ∃ X, cdo c1 ⟨1, atStamp L other, 0, 0⟩ = X := ⟨_, rfl⟩
  obtain ⟨⟨⟨y, b3⟩, c3⟩, e3⟩ : ∃ X, cdo c2 ⟨1, atKarma L other, 0, 0⟩ = X := ⟨_, rfl⟩
  rw [e1] at hi
  have R1 := refRun_ask (f := fun s => if s.1 % 4 = 0 then Tree.ret { val := 0 } else .ask ⟨1, atStamp L other, 0, 0⟩ fun t => .ask ⟨1, atKarma L other, 0, 0⟩ fun k => if chooseD L.c.m m ⟨t.1, k.1, s.1 / 4⟩ = 1 then .ret { val := 1 } else doomT L other s.1) e1
  have hT : asksT L other m = .ask ⟨1, atStatus L other, 0, 0⟩ fun s => if s.1 % 4 = 0 then Tree.ret { val := 0 } else .ask ⟨1, atStamp L other, 0, 0⟩ fun t => .ask ⟨1, atKarma L other, 0, 0⟩ fun k => if chooseD L.c.m m ⟨t.1, k.1, s.1 / 4⟩ = 1 then .ret { val := 1 } else doomT L other s.1 := rfl
  rw [← hT] at R1
  simp only at R1 hi
  by_cases hs : s % 4 = 0
  · rw [if_pos hs, refRun_ret] at R1
    refine (ask_t_idle w g L hok me other m c0 h0 r0 b0 ca eca ho s b1 c1 e1 hs).mono ?_
    rintro e w' ⟨rfl, h, hg⟩
    exact ⟨0, false, c1, rfl, by rw [R1], h, hg⟩
  · rw [if_neg hs, refRun_ask e2, refRun_ask e3] at R1
    simp only at R1
    rcases tchoose_12 L.c.m m ⟨x, y, s / 4⟩ with hv | hv
    · rw [if_pos hv, refRun_ret] at R1
      refine (ask_t_abort w g L hok me other m c0 h0 r0 b0 ca eca ho s b1 c1 e1 hs hi.1 x b2 c2 e2 y b3 c3 e3 hv).mono ?_
      rintro e w' ⟨rfl, h, hg⟩
      exact ⟨1, false, c3, rfl, by rw [R1], h, hg⟩
    · rw [if_neg (by rw [hv]; decide)] at R1
      have h4 : s % 4 = 1 ∨ s % 4 = 2 ∨ s % 4 = 3 := by omega
      rcases h4 with hk | hk | hk
      · obtain ⟨⟨⟨z, b4⟩, c4⟩, e4⟩ : ∃ X, cdo c3 ⟨3, atStatus L other, s, wrap64 (4 * (s / 4) + 3)⟩ = X := ⟨_, rfl⟩
        unfold doomT at R1
        rw [if_pos hk, refRun_ask e4] at R1
        cases b4
        · rw [if_neg (by simp), refRun_ret] at R1
          refine (ask_t_casf w g L hok me other m c0 h0 r0 b0 ca eca ho s b1 c1 e1 hs hi.1 x b2 c2 e2 y b3 c3 e3 hv hk z c4 e4).mono ?_
          rintro e w' ⟨rfl, h, hg⟩
          exact ⟨0, false, c4, rfl, by rw [R1], h, hg⟩
        · rw [if_pos rfl, refRun_ret] at R1
          refine (ask_t_cast w g L hok me other m c0 h0 r0 b0 ca eca ho s b1 c1 e1 hs hi.1 x b2 c2 e2 y b3 c3 e3 hv hk z c4 e4).mono ?_
          rintro e w' ⟨rfl, h, hg⟩
          exact ⟨2, false, c4, rfl, by rw [R1], h, hg⟩
      · unfold doomT at R1
        rw [if_neg (by omega), if_neg (by omega), refRun_ret] at R1
        refine (ask_t_k2 w g L hok me other m c0 h0 r0 b0 ca eca ho s b1 c1 e1 hs hi.1 x b2 c2 e2 y b3 c3 e3 hv hk).mono ?_
        rintro e w' ⟨rfl, h, hg⟩
        exact ⟨3, false, c3, rfl, by rw [R1], h, hg⟩
      · unfold doomT at R1
        rw [if_neg (by omega), if_pos hk, refRun_ret] at R1
        refine (ask_t_k3 w g L hok me other m c0 h0 r0 b0 ca eca ho s b1 c1 e1 hs hi.1 x b2 c2 e2 y b3 c3 e3 hv hk).mono ?_
        rintro e w' ⟨rfl, h, hg⟩
        exact ⟨2, false, c3, rfl, by rw [R1], h, hg⟩
theorem ask_any (w : World) (g : Nat) (L : Ly) (hok : L.ok) (me other : Int) (_own : Bool) (m : Ct) (c0 : CSt) (h0 : CurAt w g c0) (hI : ∀ x ∈ c0.1, I64 x.1) :
    Calls Tryz.prog 73 #[.pointer (some ⟨g, 0, none⟩), L.v, .int .i64 me, .int .i64 other, .bool true, m.v] w (AskPost (resolveT L me other true m) g c0 w) := by
  have hi := cdo_i64 ⟨1, atStatus L me, 0, 0⟩ hI
  obtain ⟨⟨⟨r0, b0⟩, ca⟩, eca⟩ : ∃ X, cdo c0 ⟨1, atStatus L me, 0, 0⟩ = X := ⟨_, rfl⟩
  rw [eca] at hi
  have R := refRun_ask (f := fun r => if r.1 % 4 = 3 then Tree.ret { val := 1, lost := true } else asksT L other m) eca
  have hT : resolveT L me other true m = .ask ⟨1, atStatus L me, 0, 0⟩ fun r => if r.1 % 4 = 3 then Tree.ret { val := 1, lost := true } else asksT L other m := rfl
  rw [← hT] at R
  simp only at R
  by_cases ho : r0 % 4 = 3
  · rw [if_pos ho, refRun_ret] at R
    refine (ask_own3 w g L hok me other m c0 h0 r0 b0 ca eca ho).mono ?_
    rintro e w' ⟨rfl, h, hg⟩
    exact ⟨1, true, ca, rfl, R, h, hg⟩
  · rw [if_neg ho] at R
    refine (ask_tany w g L hok me other m c0 h0 r0 b0 ca eca ho hi.2).mono ?_
    rintro e w' ⟨v, b, c', rfl, hr, h, hg⟩
    exact ⟨v, b, c', rfl, R.trans hr, h, hg⟩
end Go.Proofs.YtfahnmpcclhjlaaGreat

namespace Go.Proofs.YtfahnmpcclhjlaaGreat
open Go Go.RowKit SX
set_option linter.unusedVariables false
set_option linter.unusedSectionVars false
set_option linter.unusedSimpArgs false
set_option maxRecDepth 100000
attribute [local irreducible] post GD
def lookX (n ver : Int) : Int := if n = wrap64 (2 * ver) then -1 else if n % 2 = 1 then n / 2 else -1
section
variable (w : World) (g : Nat) (L : Ly) (hok : L.ok) (loc ver : Int) (x x' : CSt) (n : Int) (y : Bool) (hn : cdo x ⟨1, atWord L loc, 0, 0⟩ = ((n, y), x')) (hI : I64 n)
include w g L hok loc ver x x' n y hn hI
set_option maxHeartbeats 4000000 in
theorem rlk_t (hr : n = wrap64 (2 * ver)) (hR : CurAt w g x) : Calls Tryz.prog 74 #[.pointer (some ⟨g, 0, none⟩), L.v, .int .i64 loc, .int .i64 ver] w fun e w' => e = .returned (.tuple #[.int .i64 (lookX n ver), .bool (true)]) ∧ CurAt w' g x' ∧ w.grownBy w' (some g) := by
  have e : lookX n ver = -1 := by unfold lookX; rw [if_pos hr]
  rw [e]
  have hL := fun w h => rload_any02 w g x (atWord L loc) h
  rw [hn] at hL
  refine sy_enterF (some g) [rfCur g x] (by intro f hf; simp at hf; subst hf; exact hR) Tryz.func74 rfl fun aa S => ?_
  refine sy_run ⟨0, []⟩ 50 S fun bs aa w S => ?_
  refine sy_call1 S (rword_any L loc w hok) (by kernel_rfl) fun aa w hb S => ?_
  refine sy_run ⟨0, []⟩ 50 S fun bs aa w S => ?_
  refine sy_cur (x' := x') (v := .int .i64 n) S (Or.inl rfl) (hL w S.cur) (by kernel_rfl) (by simp) fun aa w S => ?_
  refine sy_run ⟨0, [2]⟩ 60 S fun bs aa w S => ?_
  refine sy_reg S fun S => ?_
  refine sy_ops 2 S fun bs aa w S => ?_
  refine sy_call1 S (toBelow (rfree_any ver w)) (by kernel_rfl) fun aa w hb S => ?_
  refine sy_ops 2 S fun bs aa w S => ?_
  refine sy_cond true S (decide_eq_true hr : decide (n = wrap64 (2 * ver)) = true) (by kernel_rfl) fun S => ?_
  refine sy_run ⟨0, []⟩ 50 S fun bs aa w S => ?_
  exact sy_ret S (by kernel_rfl) (by kernel_rfl) fun hg => ⟨rfl, S.cur, hg⟩
set_option maxHeartbeats 4000000 in
theorem rlk_h (hr : ¬ n = wrap64 (2 * ver)) (hq : n % 2 = 1) (hR : CurAt w g x) : Calls Tryz.prog 74 #[.pointer (some ⟨g, 0, none⟩), L.v, .int .i64 loc, .int .i64 ver] w fun e w' => e = .returned (.tuple #[.int .i64 (lookX n ver), .bool (false)]) ∧ CurAt w' g x' ∧ w.grownBy w' (some g) := by
  have e : lookX n ver = n / 2 := by unfold lookX; rw [if_neg hr, if_pos hq]
  rw [e]
  have hL := fun w h => rload_any02 w g x (atWord L loc) h
  rw [hn] at hL
  refine sy_enterF (some g) [rfCur g x] (by intro f hf; simp at hf; subst hf; exact hR) Tryz.func74 rfl fun aa S => ?_
  refine sy_run ⟨0, []⟩ 50 S fun bs aa w S => ?_
  refine sy_call1 S (rword_any L loc w hok) (by kernel_rfl) fun aa w hb S => ?_
  refine sy_run ⟨0, []⟩ 50 S fun bs aa w S => ?_
  refine sy_cur (x' := x') (v := .int .i64 n) S (Or.inl rfl) (hL w S.cur) (by kernel_rfl) (by simp) fun aa w S => ?_
  refine sy_run ⟨0, [2]⟩ 60 S fun bs aa w S => ?_
  refine sy_reg S fun S => ?_
  refine sy_ops 2 S fun bs aa w S => ?_
  refine sy_call1 S (toBelow (rfree_any ver w)) (by kernel_rfl) fun aa w hb S => ?_
  refine sy_ops 2 S fun bs aa w S => ?_
  refine sy_cond false S (decide_eq_false hr : decide (n = wrap64 (2 * ver)) = false) (by kernel_rfl) fun S => ?_
  refine sy_run ⟨0, []⟩ 50 S fun bs aa w S => ?_
  have hl := rlocked_any n w
  rw [decide_eq_true hq] at hl
  refine sy_call1 S (toBelow hl) (by kernel_rfl) fun aa w hb S => ?_
  refine sy_run ⟨0, []⟩ 50 S fun bs aa w S => ?_
  refine sy_call1 S (toBelow (rwho_any n hI w)) (by kernel_rfl) fun aa w hb S => ?_
  refine sy_run ⟨0, []⟩ 50 S fun bs aa w S => ?_
  exact sy_ret S (by kernel_rfl) (by kernel_rfl) fun hg => ⟨rfl, S.cur, hg⟩
set_option maxHeartbeats 4000000 in
theorem rlk_f (hr : ¬ n = wrap64 (2 * ver)) (hq : ¬ n % 2 = 1) (hR : CurAt w g x) : Calls Tryz.prog 74 #[.pointer (some ⟨g, 0, none⟩), L.v, .int .i64 loc, .int .i64 ver] w fun e w' => e = .returned (.tuple #[.int .i64 (lookX n ver), .bool (false)]) ∧ CurAt w' g x' ∧ w.grownBy w' (some g) := by
  have e : lookX n ver = -1 := by unfold lookX; rw [if_neg hr, if_neg hq]
  rw [e]
  have hL := fun w h => rload_any02 w g x (atWord L loc) h
  rw [hn] at hL
  refine sy_enterF (some g) [rfCur g x] (by intro f hf; simp at hf; subst hf; exact hR) Tryz.func74 rfl fun aa S => ?_
  refine sy_run ⟨0, []⟩ 50 S fun bs aa w S => ?_
  refine sy_call1 S (rword_any L loc w hok) (by kernel_rfl) fun aa w hb S => ?_
  refine sy_run ⟨0, []⟩ 50 S fun bs aa w S => ?_
  refine sy_cur (x' := x') (v := .int .i64 n) S (Or.inl rfl) (hL w S.cur) (by kernel_rfl) (by simp) fun aa w S => ?_
  refine sy_run ⟨0, [2]⟩ 60 S fun bs aa w S => ?_
  refine sy_reg S fun S => ?_
  refine sy_ops 2 S fun bs aa w S => ?_
  refine sy_call1 S (toBelow (rfree_any ver w)) (by kernel_rfl) fun aa w hb S => ?_
  refine sy_ops 2 S fun bs aa w S => ?_
  refine sy_cond false S (decide_eq_false hr : decide (n = wrap64 (2 * ver)) = false) (by kernel_rfl) fun S => ?_
  refine sy_run ⟨0, []⟩ 50 S fun bs aa w S => ?_
  have hl := rlocked_any n w
  rw [decide_eq_false hq] at hl
  refine sy_call1 S (toBelow hl) (by kernel_rfl) fun aa w hb S => ?_
  refine sy_run ⟨0, []⟩ 50 S fun bs aa w S => ?_
  exact sy_ret S (by kernel_rfl) (by kernel_rfl) fun hg => ⟨rfl, S.cur, hg⟩
theorem rlk_any (hR : CurAt w g x) : Calls Tryz.prog 74 #[.pointer (some ⟨g, 0, none⟩), L.v, .int .i64 loc, .int .i64 ver] w fun e w' => e = .returned (.tuple #[.int .i64 (lookX n ver), .bool (decide (n = wrap64 (2 * ver)))]) ∧ CurAt w' g x' ∧ w.grownBy w' (some g) := by
  by_cases hr : n = wrap64 (2 * ver)
  · rw [decide_eq_true hr]; exact rlk_t w g L hok loc ver x x' n y hn hI hr hR
  · rw [decide_eq_false hr]
    by_cases hq : n % 2 = 1
    · exact rlk_h w g L hok loc ver x x' n y hn hI hr hq hR
    · exact rlk_f w g L hok loc ver x x' n y hn hI hr hq hR
end
structure Rd where
  L : Ly
  me : Int
  a : Int
  m : Ct
  Q : List (Int × Int × Int)
def askS (R : Rd) (who : Int) (x : CSt) : OutD × CSt :=
  if who = R.me ∨ atStatus R.L who < 0 then ({ val := 1, lost := true }, x)
  else ({ val := (refRun (resolveT R.L R.me who true R.m) x).1.val, lost := (refRun (resolveT R.L R.me who true R.m) x).1.lost || decide ((refRun (resolveT R.L R.me who true R.m) x).1.val = 1) }, (refRun (resolveT R.L R.me who true R.m) x).2)
def rd16 (L : Ly) (loc : Int) (x : CSt) : (Int × Int × Int × Bool) × CSt :=
  let w := cdo x ⟨1, atWord L loc, 0, 0⟩
  if w.1.1 % 2 = 1 then ((0, 0, w.1.1 / 2, false), w.2)
  else
    let v := cdo w.2 ⟨1, atVal L loc, 0, 0⟩
    let u := cdo v.2 ⟨1, atWord L loc, 0, 0⟩
    if u.1.1 = w.1.1 then ((v.1.1, w.1.1 / 2, -1, true), u.2) else ((0, 0, -1, false), u.2)
section
variable (w : World) (g : Nat) (L : Ly) (hok : L.ok) (loc : Int) (x x1 : CSt) (n : Int) (y : Bool) (h1 : cdo x ⟨1, atWord L loc, 0, 0⟩ = ((n, y), x1)) (hI : I64 n)
include w g L hok loc x x1 n y h1 hI
set_option maxHeartbeats 4000000 in
theorem r16_h (hq : n % 2 = 1) (hR : CurAt w g x) : Calls Tryz.prog 52 #[.pointer (some ⟨g, 0, none⟩), L.v, .int .i64 loc] w fun e w' => e = .returned (.tuple #[.int .i64 0, .int .i64 0, .int .i64 (n / 2), .bool false]) ∧ CurAt w' g x1 ∧ w.grownBy w' (some g) := by
  refine sy_enterF (some g) [rfCur g x] (by intro f hf; simp at hf; subst hf; exact hR) Tryz.func52 rfl fun aa S => ?_
  refine sy_run ⟨0, []⟩ 60 S fun bs aa w S => ?_
  refine sy_call1 S (rword_any L loc w hok) (by kernel_rfl) fun aa w hb S => ?_
  refine sy_run ⟨0, []⟩ 60 S fun bs aa w S => ?_
  have hL := fun w hc => rload_any02 w g x (atWord L loc) hc
  rw [h1] at hL
  refine sy_cur (x' := x1) (v := .int .i64 n) S (Or.inl rfl) (hL w S.cur) (by kernel_rfl) (by simp) fun aa w S => ?_
  clear hL
  refine sy_run ⟨0, []⟩ 60 S fun bs aa w S => ?_
  have hl := rlocked_any n w
  rw [decide_eq_true hq] at hl
  refine sy_call1 S (toBelow hl) (by kernel_rfl) fun aa w hb S => ?_
  refine sy_run ⟨0, []⟩ 60 S fun bs aa w S => ?_
  refine sy_call1 S (toBelow (rwho_any n hI w)) (by kernel_rfl) fun aa w hb S => ?_
  refine sy_run ⟨0, []⟩ 60 S fun bs aa w S => ?_
  exact sy_ret S (by kernel_rfl) (by kernel_rfl) fun hg => ⟨rfl, S.cur, hg⟩
section
variable (x2 x3 : CSt) (v u : Int) (y2 y3 : Bool) (h2 : cdo x1 ⟨1, atVal L loc, 0, 0⟩ = ((v, y2), x2)) (h3 : cdo x2 ⟨1, atWord L loc, 0, 0⟩ = ((u, y3), x3)) (hq : ¬ n % 2 = 1)
include x2 x3 v u y2 y3 h2 h3 hq
set_option maxHeartbeats 4000000 in
theorem r16_f (hu : ¬ u = n) (hR : CurAt w g x) : Calls Tryz.prog 52 #[.pointer (some ⟨g, 0, none⟩), L.v, .int .i64 loc] w fun e w' => e = .returned (.tuple #[.int .i64 0, .int .i64 0, .int .i64 (-1), .bool false]) ∧ CurAt w' g x3 ∧ w.grownBy w' (some g) := by
  refine sy_enterF (some g) [rfCur g x] (by intro f hf; simp at hf; subst hf; exact hR) Tryz.func52 rfl fun aa S => ?_
  refine sy_run ⟨0, []⟩ 60 S fun bs aa w S => ?_
  refine sy_call1 S (rword_any L loc w hok) (by kernel_rfl) fun aa w hb S => ?_
  refine sy_run ⟨0, []⟩ 60 S fun bs aa w S => ?_
  have hL := fun w hc => rload_any02 w g x (atWord L loc) hc
  rw [h1] at hL
  refine sy_cur (x' := x1) (v := .int .i64 n) S (Or.inl rfl) (hL w S.cur) (by kernel_rfl) (by simp) fun aa w S => ?_
  clear hL
  refine sy_run ⟨0, []⟩ 60 S fun bs aa w S => ?_
  have hl := rlocked_any n w
  rw [decide_eq_false hq] at hl
  refine sy_call1 S (toBelow hl) (by kernel_rfl) fun aa w hb S => ?_
  refine sy_run ⟨0, []⟩ 60 S fun bs aa w S => ?_
  refine sy_call1 S (rval_any L loc w hok) (by kernel_rfl) fun aa w hb S => ?_
  refine sy_run ⟨0, []⟩ 60 S fun bs aa w S => ?_
  have hL := fun w hc => rload_any02 w g x1 (atVal L loc) hc
  rw [h2] at hL
  refine sy_cur (x' := x2) (v := .int .i64 v) S (Or.inl rfl) (hL w S.cur) (by kernel_rfl) (by simp) fun aa w S => ?_
  clear hL
  refine sy_run ⟨0, []⟩ 60 S fun bs aa w S => ?_
  refine sy_call1 S (rword_any L loc w hok) (by kernel_rfl) fun aa w hb S => ?_
  refine sy_run ⟨0, []⟩ 60 S fun bs aa w S => ?_
  have hL := fun w hc => rload_any02 w g x2 (atWord L loc) hc
  rw [h3] at hL
  refine sy_cur (x' := x3) (v := .int .i64 u) S (Or.inl rfl) (hL w S.cur) (by kernel_rfl) (by simp) fun aa w S => ?_
  clear hL
  refine sy_run ⟨0, [7]⟩ 60 S fun bs aa w S => ?_
  refine sy_reg S fun S => ?_
  refine sy_ops 4 S fun bs aa w S => ?_
  refine sy_cond true S (by simpa using hu : (!decide (u = n)) = true) (by kernel_rfl) fun S => ?_
  refine sy_run ⟨0, []⟩ 60 S fun bs aa w S => ?_
  exact sy_ret S (by kernel_rfl) (by kernel_rfl) fun hg => ⟨rfl, S.cur, hg⟩
set_option maxHeartbeats 4000000 in
theorem r16_t (hu : u = n) (hR : CurAt w g x) : Calls Tryz.prog 52 #[.pointer (some ⟨g, 0, none⟩), L.v, .int .i64 loc] w fun e w' => e = .returned (.tuple #[.int .i64 v, .int .i64 (n / 2), .int .i64 (-1), .bool true]) ∧ CurAt w' g x3 ∧ w.grownBy w' (some g) := by
  refine sy_enterF (some g) [rfCur g x] (by intro f hf; simp at hf; subst hf; exact hR) Tryz.func52 rfl fun aa S => ?_
  refine sy_run ⟨0, []⟩ 60 S fun bs aa w S => ?_
  refine sy_call1 S (rword_any L loc w hok) (by kernel_rfl) fun aa w hb S => ?_
  refine sy_run ⟨0, []⟩ 60 S fun bs aa w S => ?_
  have hL := fun w hc => rload_any02 w g x (atWord L loc) hc
  rw [h1] at hL
  refine sy_cur (x' := x1) (v := .int .i64 n) S (Or.inl rfl) (hL w S.cur) (by kernel_rfl) (by simp) fun aa w S => ?_
  clear hL
  refine sy_run ⟨0, []⟩ 60 S fun bs aa w S => ?_
  have hl := rlocked_any n w
  rw [decide_eq_false hq] at hl
  refine sy_call1 S (toBelow hl) (by kernel_rfl) fun aa w hb S => ?_
  refine sy_run ⟨0, []⟩ 60 S fun bs aa w S => ?_
  refine sy_call1 S (rval_any L loc w hok) (by kernel_rfl) fun aa w hb S => ?_
  refine sy_run ⟨0, []⟩ 60 S fun bs aa w S => ?_
  have hL := fun w hc => rload_any02 w g x1 (atVal L loc) hc
  rw [h2] at hL
  refine sy_cur (x' := x2) (v := .int .i64 v) S (Or.inl rfl) (hL w S.cur) (by kernel_rfl) (by simp) fun aa w S => ?_
  clear hL
  refine sy_run ⟨0, []⟩ 60 S fun bs aa w S => ?_
  refine sy_call1 S (rword_any L loc w hok) (by kernel_rfl) fun aa w hb S => ?_
  refine sy_run ⟨0, []⟩ 60 S fun bs aa w S => ?_
  have hL := fun w hc => rload_any02 w g x2 (atWord L loc) hc
  rw [h3] at hL
  refine sy_cur (x' := x3) (v := .int .i64 u) S (Or.inl rfl) (hL w S.cur) (by kernel_rfl) (by simp) fun aa w S => ?_
  clear hL
  refine sy_run ⟨0, [7]⟩ 60 S fun bs aa w S => ?_
  refine sy_reg S fun S => ?_
  refine sy_ops 4 S fun bs aa w S => ?_
  refine sy_cond false S (by simpa using hu : (!decide (u = n)) = false) (by kernel_rfl) fun S => ?_
  refine sy_run ⟨0, []⟩ 60 S fun bs aa w S => ?_
  refine sy_call1 S (toBelow (rver_any n hI w)) (by kernel_rfl) fun aa w hb S => ?_
  refine sy_run ⟨0, []⟩ 60 S fun bs aa w S => ?_
  exact sy_ret S (by kernel_rfl) (by kernel_rfl) fun hg => ⟨rfl, S.cur, hg⟩
end
end
section
variable (w : World) (g : Nat)
include w g
theorem r16_any (L : Ly) (hok : L.ok) (loc : Int) (x : CSt) (hI : I64 (cdo x ⟨1, atWord L loc, 0, 0⟩).1.1) (hR : CurAt w g x) : Calls Tryz.prog 52 #[.pointer (some ⟨g, 0, none⟩), L.v, .int .i64 loc] w fun e w' => e = .returned (.tuple #[.int .i64 (rd16 L loc x).1.1, .int .i64 (rd16 L loc x).1.2.1, .int .i64 (rd16 L loc x).1.2.2.1, .bool (rd16 L loc x).1.2.2.2]) ∧ CurAt w' g (rd16 L loc x).2 ∧ w.grownBy w' (some g) := by
  obtain ⟨⟨⟨n, y⟩, x1⟩, h1⟩ : ∃ X, cdo x ⟨1, atWord L loc, 0, 0⟩ = X := ⟨_, rfl⟩
  obtain ⟨⟨⟨v, y2⟩, x2⟩, h2⟩ : ∃ X, cdo x1 ⟨1, atVal L loc, 0, 0⟩ = X := ⟨_, rfl⟩
  obtain ⟨⟨⟨u, y3⟩, x3⟩, h3⟩ : ∃ X, cdo x2 ⟨1, atWord L loc, 0, 0⟩ = X := ⟨_, rfl⟩
  rw [h1] at hI
  by_cases hq : n % 2 = 1
  · have e : rd16 L loc x = ((0, 0, n / 2, false), x1) := by simp only [rd16, h1]; rw [if_pos hq]
    rw [e]; exact r16_h w g L hok loc x x1 n y h1 hI hq hR
  · by_cases hu : u = n
    · have e : rd16 L loc x = ((v, n / 2, -1, true), x3) := by simp only [rd16, h1, h2, h3]; rw [if_neg hq, if_pos hu]
      rw [e]; exact r16_t w g L hok loc x x1 n y h1 hI x2 x3 v u y2 y3 h2 h3 hq hu hR
    · have e : rd16 L loc x = ((0, 0, -1, false), x3) := by simp only [rd16, h1, h2, h3]; rw [if_neg hq, if_neg hu]
      rw [e]; exact r16_f w g L hok loc x x1 n y h1 hI x2 x3 v u y2 y3 h2 h3 hq hu hR
section
variable (R : Rd) (hok : R.L.ok) (who : Int) (x : CSt)
include R hok who x
set_option maxHeartbeats 4000000 in
theorem ra_me (h : who = R.me) (hR : CurAt w g x) : Calls Tryz.prog 53 #[.pointer (some ⟨g, 0, none⟩), R.L.v, .int .i64 R.me, .int .i64 who, R.m.v] w fun e w' => e = .returned (.tuple #[.int .i64 1, .bool true]) ∧ CurAt w' g x ∧ w.grownBy w' (some g) := by
  refine sy_enterF (some g) [rfCur g x] (by intro f hf; simp at hf; subst hf; exact hR) Tryz.func53 rfl fun aa S => ?_
  refine sy_run ⟨0, [1]⟩ 60 S fun bs aa w S => ?_
  refine sy_reg S fun S => ?_
  refine sy_ops 3 S fun bs aa w S => ?_
  refine sy_cast 16 S (congrArg Value.bool (decide_eq_true h : decide (who = R.me) = true)) (by kernel_rfl) fun S => ?_
  refine sy_run ⟨0, []⟩ 60 S fun bs aa w S => ?_
  exact sy_ret S (by kernel_rfl) (by kernel_rfl) fun hg => ⟨rfl, S.cur, hg⟩
set_option maxHeartbeats 4000000 in
theorem ra_no (h : ¬ who = R.me) (h2 : atStatus R.L who < 0) (hR : CurAt w g x) : Calls Tryz.prog 53 #[.pointer (some ⟨g, 0, none⟩), R.L.v, .int .i64 R.me, .int .i64 who, R.m.v] w fun e w' => e = .returned (.tuple #[.int .i64 1, .bool true]) ∧ CurAt w' g x ∧ w.grownBy w' (some g) := by
  refine sy_enterF (some g) [rfCur g x] (by intro f hf; simp at hf; subst hf; exact hR) Tryz.func53 rfl fun aa S => ?_
  refine sy_run ⟨0, [1]⟩ 60 S fun bs aa w S => ?_
  refine sy_reg S fun S => ?_
  refine sy_ops 3 S fun bs aa w S => ?_
  refine sy_cast 16 S (congrArg Value.bool (decide_eq_false h : decide (who = R.me) = false)) (by kernel_rfl) fun S => ?_
  refine sy_run ⟨0, []⟩ 60 S fun bs aa w S => ?_
  refine sy_call1 S (rstatus_any R.L who w hok) (by kernel_rfl) fun aa w hb S => ?_
  refine sy_ops 1 S fun bs aa w S => ?_
  refine sy_cast 21 S (congrArg Value.bool (decide_eq_true h2 : decide (atStatus R.L who < 0) = true)) (by kernel_rfl) fun S => ?_
  refine sy_run ⟨0, []⟩ 60 S fun bs aa w S => ?_
  exact sy_ret S (by kernel_rfl) (by kernel_rfl) fun hg => ⟨rfl, S.cur, hg⟩
section
variable (h : ¬ who = R.me) (h2 : ¬ atStatus R.L who < 0) (hI : ∀ y ∈ x.1, I64 y.1) (v : Int) (x' : CSt)
include h h2 hI v x'
set_option maxHeartbeats 4000000 in
theorem ra_t (hX : refRun (resolveT R.L R.me who true R.m) x = ({ val := v, lost := true }, x')) (hR : CurAt w g x) : Calls Tryz.prog 53 #[.pointer (some ⟨g, 0, none⟩), R.L.v, .int .i64 R.me, .int .i64 who, R.m.v] w fun e w' => e = .returned (.tuple #[.int .i64 v, .bool true]) ∧ CurAt w' g x' ∧ w.grownBy w' (some g) := by
  refine sy_enterF (some g) [rfCur g x] (by intro f hf; simp at hf; subst hf; exact hR) Tryz.func53 rfl fun aa S => ?_
  refine sy_run ⟨0, [1]⟩ 60 S fun bs aa w S => ?_
  refine sy_reg S fun S => ?_
  refine sy_ops 3 S fun bs aa w S => ?_
  refine sy_cast 16 S (congrArg Value.bool (decide_eq_false h : decide (who = R.me) = false)) (by kernel_rfl) fun S => ?_
  refine sy_run ⟨0, []⟩ 60 S fun bs aa w S => ?_
  refine sy_call1 S (rstatus_any R.L who w hok) (by kernel_rfl) fun aa w hb S => ?_
  refine sy_ops 1 S fun bs aa w S => ?_
  refine sy_cast 21 S (congrArg Value.bool (decide_eq_false h2 : decide (atStatus R.L who < 0) = false)) (by kernel_rfl) fun S => ?_
  refine sy_run ⟨0, []⟩ 60 S fun bs aa w S => ?_
  refine sy_cur (x' := x') (v := .tuple #[.int .i64 v, .bool true]) S (Or.inl rfl) ((ask_any w g R.L hok R.me who true R.m x S.cur hI).mono (by
    rintro e w' ⟨v', b', c'', rfl, hr, h, hg⟩
    rw [hX] at hr
    cases hr
    exact ⟨rfl, h, hg⟩)) (by kernel_rfl) (by simp) fun aa w S => ?_
  refine sy_run ⟨0, []⟩ 60 S fun bs aa w S => ?_
  exact sy_ret S (by kernel_rfl) (by kernel_rfl) fun hg => ⟨rfl, S.cur, hg⟩
set_option maxHeartbeats 4000000 in
theorem ra_f (hX : refRun (resolveT R.L R.me who true R.m) x = ({ val := v, lost := false }, x')) (hR : CurAt w g x) : Calls Tryz.prog 53 #[.pointer (some ⟨g, 0, none⟩), R.L.v, .int .i64 R.me, .int .i64 who, R.m.v] w fun e w' => e = .returned (.tuple #[.int .i64 v, .bool (decide (v = 1))]) ∧ CurAt w' g x' ∧ w.grownBy w' (some g) := by
  refine sy_enterF (some g) [rfCur g x] (by intro f hf; simp at hf; subst hf; exact hR) Tryz.func53 rfl fun aa S => ?_
  refine sy_run ⟨0, [1]⟩ 60 S fun bs aa w S => ?_
  refine sy_reg S fun S => ?_
  refine sy_ops 3 S fun bs aa w S => ?_
  refine sy_cast 16 S (congrArg Value.bool (decide_eq_false h : decide (who = R.me) = false)) (by kernel_rfl) fun S => ?_
  refine sy_run ⟨0, []⟩ 60 S fun bs aa w S => ?_
  refine sy_call1 S (rstatus_any R.L who w hok) (by kernel_rfl) fun aa w hb S => ?_
  refine sy_ops 1 S fun bs aa w S => ?_
  refine sy_cast 21 S (congrArg Value.bool (decide_eq_false h2 : decide (atStatus R.L who < 0) = false)) (by kernel_rfl) fun S => ?_
  refine sy_run ⟨0, []⟩ 60 S fun bs aa w S => ?_
  refine sy_cur (x' := x') (v := .tuple #[.int .i64 v, .bool false]) S (Or.inl rfl) ((ask_any w g R.L hok R.me who true R.m x S.cur hI).mono (by
    rintro e w' ⟨v', b', c'', rfl, hr, h, hg⟩
    rw [hX] at hr
    cases hr
    exact ⟨rfl, h, hg⟩)) (by kernel_rfl) (by simp) fun aa w S => ?_
  refine sy_run ⟨0, []⟩ 60 S fun bs aa w S => ?_
  exact sy_ret S (by kernel_rfl) (by kernel_rfl) fun hg => ⟨rfl, S.cur, hg⟩
end
end
end
def LostForm (o : OutD) : Prop := ∃ v b, o = { val := v, lost := b }
theorem ra_any (w : World) (g : Nat) (R : Rd) (hok : R.L.ok) (who : Int) (x : CSt) (hI : ∀ y ∈ x.1, I64 y.1) (hF : LostForm (refRun (resolveT R.L R.me who true R.m) x).1) (hR : CurAt w g x) : Calls Tryz.prog 53 #[.pointer (some ⟨g, 0, none⟩), R.L.v, .int .i64 R.me, .int .i64 who, R.m.v] w fun e w' => e = .returned (.tuple #[.int .i64 (askS R who x).1.val, .bool (askS R who x).1.lost]) ∧ CurAt w' g (askS R who x).2 ∧ w.grownBy w' (some g) := by
  by_cases h : who = R.me
  · have e : askS R who x = ({ val := 1, lost := true }, x) := by unfold askS; rw [if_pos (Or.inl h)]
    rw [e]; exact ra_me w g R hok who x h hR
  · by_cases h2 : atStatus R.L who < 0
    · have e : askS R who x = ({ val := 1, lost := true }, x) := by unfold askS; rw [if_pos (Or.inr h2)]
      rw [e]; exact ra_no w g R hok who x h h2 hR
    · obtain ⟨⟨o, x'⟩, hX⟩ : ∃ X, refRun (resolveT R.L R.me who true R.m) x = X := ⟨_, rfl⟩
      rw [hX] at hF
      obtain ⟨v, b, rfl⟩ := hF
      have e : askS R who x = ({ val := v, lost := b || decide (v = 1) }, x') := by unfold askS; rw [if_neg (by intro hh; exact hh.elim h h2), hX]
      rw [e]
      cases b with
      | true => exact ra_t w g R hok who x h h2 hI v x' hX hR
      | false => exact ra_f w g R hok who x h h2 hI v x' hX hR
end Go.Proofs.YtfahnmpcclhjlaaGreat

namespace Go.Proofs.YtfahnmpcclhjlaaGreat
open Go Go.RowKit SX
set_option linter.unusedVariables false
set_option linter.unusedSectionVars false
set_option linter.unusedSimpArgs false
set_option maxRecDepth 100000
def SeenAt (w : World) (b o : Nat) (S : List (Int × Int × Int)) : Prop := ∀ j, j < S.length → w.cell? ⟨b, o + j * 3, none⟩ = some (.int .i64 (S.getD j (0, 0, 0)).1) ∧ w.cell? ⟨b, o + j * 3 + 1, none⟩ = some (.int .i64 (S.getD j (0, 0, 0)).2.1) ∧ w.cell? ⟨b, o + j * 3 + 2, none⟩ = some (.int .i64 (S.getD j (0, 0, 0)).2.2)
theorem seenAt_st {w w' : World} {b o : Nat} {S : List (Int × Int × Int)} (h : SeenAt w b o S) (hb : w'.heap[b]? = w.heap[b]?) : SeenAt w' b o S := fun j hj => ⟨(World.cell?_of_block (a := ⟨b, o + j * 3, none⟩) hb).trans (h j hj).1, (World.cell?_of_block (a := ⟨b, o + j * 3 + 1, none⟩) hb).trans (h j hj).2.1, (World.cell?_of_block (a := ⟨b, o + j * 3 + 2, none⟩) hb).trans (h j hj).2.2⟩
def rfSeen (b o : Nat) (S : List (Int × Int × Int)) : RF := ⟨fun b' => b' = b ∧ S.length ≠ 0, fun w => SeenAt w b o S, fun w h b' hb => by
  obtain ⟨rfl, hl⟩ := hb
  exact World.block_lt_of_cell? w _ (h 0 (by omega)).1, fun w w' h hb => by
  by_cases h0 : S.length = 0
  · intro j hj; omega
  · exact seenAt_st h (hb b ⟨rfl, h0⟩)⟩
theorem ld_seen {w : World} {b o j : Nat} {S : List (Int × Int × Int)} (h : SeenAt w b o S) (hj : j < S.length) : (loadVar 56 ⟨b, o + j * 3, none⟩).run Tryz.prog w = .ok (.agg #[.int .i64 (S.getD j (0, 0, 0)).1, .int .i64 (S.getD j (0, 0, 0)).2.1, .int .i64 (S.getD j (0, 0, 0)).2.2]) w := by
  obtain ⟨h0, h1, h2⟩ := h j hj
  refine run_loadVar_mid w b (o + j * 3) 56 [.int .i64 (S.getD j (0, 0, 0)).1, .int .i64 (S.getD j (0, 0, 0)).2.1, .int .i64 (S.getD j (0, 0, 0)).2.2] _ ?_ Tryz.underlying56 rfl (by kernel_rfl)
  intro i x hi
  match i, hi with
  | 0, hi => simp at hi; subst hi; exact h0
  | 1, hi => simp at hi; subst hi; exact h1
  | 2, hi => simp at hi; subst hi; exact h2
  | i + 3, hi => simp at hi
def goL : Nat → List Nat → List It → List It
  | n + 1, ch, .code (.seq x y) :: k => goL n ch (.code x :: .code y :: k)
  | n + 1, ch, .code (.block id c) :: k => goL n ch (.code c :: .blk id :: k)
  | n + 1, ch, .code (.region _ _ _) :: k => goL n ch k
  | n + 1, ch, .code .skip :: k => goL n ch k
  | n + 1, ch, .blk _ :: k => goL n ch k
  | n + 1, c :: ch, .code (.cond _ x y) :: k => goL n ch (.code (if c = 1 then x else y) :: k)
  | n + 1, _ :: ch, .code (.loop _) :: k => goL n ch k
  | _, _, k => k
theorem post_at {P : Program} {k k' : List It} (he : k = k') {Q : Exit → Act → World → Prop} {e : Exit} {a : Act} {w : World} (h : post P k' Q e a w) : post P k Q e a w := by rw [he]; exact h
theorem drop_at {Q : List (Int × Int × Int)} {j : Nat} (hj : j < Q.length) : Q.drop j = Q.getD j (0, 0, 0) :: Q.drop (j + 1) := by
  rw [List.drop_eq_getElem_cons hj]
  simp [List.getD, List.getElem?_eq_getElem hj]
attribute [local irreducible] post GD
theorem cdo_rest (x : CSt) (q : Ask) : (∀ y ∈ (cdo x q).2.1, y ∈ x.1) ∧ (cdo x q).2.1.length ≤ x.1.length := by
  obtain ⟨l, oq⟩ := x
  cases oq with
  | some p => exact ⟨fun y h => h, Nat.le_refl _⟩
  | none =>
    rcases l with _ | ⟨r, l⟩
    · exact ⟨fun y h => h, Nat.le_refl _⟩
    · exact ⟨fun y h => List.mem_cons_of_mem _ h, Nat.le_succ _⟩
theorem refRun_rest : ∀ (T : Tree) (x : CSt), (∀ y ∈ (refRun T x).2.1, y ∈ x.1) ∧ (refRun T x).2.1.length ≤ x.1.length := by
  intro T
  induction T with
  | ret o => intro x; exact ⟨fun y h => h, Nat.le_refl _⟩
  | ask a f ih =>
    intro x
    obtain ⟨h1, h2⟩ := ih (cdo x a).1 (cdo x a).2
    obtain ⟨k1, k2⟩ := cdo_rest x a
    exact ⟨fun y h => k1 y (h1 y h), Nat.le_trans h2 k2⟩
theorem askS_rest (R : Rd) (who : Int) (x : CSt) : (∀ y ∈ (askS R who x).2.1, y ∈ x.1) ∧ (askS R who x).2.1.length ≤ x.1.length := by
  unfold askS
  by_cases h : who = R.me ∨ atStatus R.L who < 0
  · rw [if_pos h]; exact ⟨fun y h => h, Nat.le_refl _⟩
  · rw [if_neg h]; exact refRun_rest _ x
def Tree.all (P : OutD → Prop) : Tree → Prop
  | .ret o => P o
  | .ask _ f => ∀ r, (f r).all P
theorem refRun_all {P : OutD → Prop} : ∀ (T : Tree) (s : CSt), T.all P → P (refRun T s).1 := by
  intro T
  induction T with
  | ret o => intro s h; exact h
  | ask a f ih => intro s h; exact ih _ _ (h _)
theorem resolve_all (L : Ly) (me other : Int) (m : Ct) : (resolveT L me other true m).all LostForm := by
  intro r
  show (if r.1 % 4 = 3 then Tree.ret { val := 1, lost := true } else asksT L other m).all _
  by_cases hr : r.1 % 4 = 3
  · rw [if_pos hr]; exact ⟨1, true, rfl⟩
  · rw [if_neg hr]
    intro s
    show (if s.1 % 4 = 0 then Tree.ret { val := 0 } else .ask ⟨1, atStamp L other, 0, 0⟩ fun t => .ask ⟨1, atKarma L other, 0, 0⟩ fun k => if chooseD L.c.m m ⟨t.1, k.1, s.1 / 4⟩ = 1 then .ret { val := 1 } else doomT L other s.1).all _
    by_cases hs : s.1 % 4 = 0
    · rw [if_pos hs]; exact ⟨0, false, rfl⟩
    · rw [if_neg hs]
      intro t k
      show (if chooseD L.c.m m ⟨t.1, k.1, s.1 / 4⟩ = 1 then Tree.ret { val := 1 } else doomT L other s.1).all _
      by_cases hc : chooseD L.c.m m ⟨t.1, k.1, s.1 / 4⟩ = 1
      · rw [if_pos hc]; exact ⟨1, false, rfl⟩
      · rw [if_neg hc]
        unfold doomT
        by_cases h1 : s.1 % 4 = 1
        · rw [if_pos h1]
          intro u
          show (if u.2 = true then Tree.ret { val := 2 } else .ret { val := 0 }).all _
          by_cases hu : u.2 = true
          · rw [if_pos hu]; exact ⟨2, false, rfl⟩
          · rw [if_neg hu]; exact ⟨0, false, rfl⟩
        · rw [if_neg h1]
          by_cases h3 : s.1 % 4 = 3
          · rw [if_pos h3]; exact ⟨2, false, rfl⟩
          · rw [if_neg h3]; exact ⟨3, false, rfl⟩
theorem ask_form (R : Rd) (who : Int) (x : CSt) : LostForm (refRun (resolveT R.L R.me who true R.m) x).1 := refRun_all _ x (resolve_all R.L R.me who R.m)
def keepsS (R : Rd) (s : Int × Int × Int) : Nat → CSt → Bool × CSt
  | 0, x => (false, x)
  | n + 1, x => match x with
    | (l, some q) => (false, (l, some q))
    | ([], none) => (false, ([], some ⟨1, atWord R.L s.1, 0, 0⟩))
    | (r :: l, none) => if r.1 = wrap64 (2 * s.2.1) then (true, (l, none)) else if lookX r.1 s.2.1 < 0 then (false, (l, none)) else
      if (askS R (lookX r.1 s.2.1) (l, none)).1.lost = true ∨ (askS R (lookX r.1 s.2.1) (l, none)).1.val = 3 then (false, (askS R (lookX r.1 s.2.1) (l, none)).2) else keepsS R s n (askS R (lookX r.1 s.2.1) (l, none)).2
theorem keepsS_cons (R : Rd) (s : Int × Int × Int) (n : Nat) (r : Int × Bool) (l : List (Int × Bool)) : keepsS R s (n + 1) (r :: l, none) = if r.1 = wrap64 (2 * s.2.1) then (true, (l, none)) else if lookX r.1 s.2.1 < 0 then (false, (l, none)) else
      if (askS R (lookX r.1 s.2.1) (l, none)).1.lost = true ∨ (askS R (lookX r.1 s.2.1) (l, none)).1.val = 3 then (false, (askS R (lookX r.1 s.2.1) (l, none)).2) else keepsS R s n (askS R (lookX r.1 s.2.1) (l, none)).2 := rfl
theorem keepsS_stop (R : Rd) (s : Int × Int × Int) (n : Nat) (l : List (Int × Bool)) (q : Ask) : keepsS R s n (l, some q) = (false, (l, some q)) := by cases n <;> rfl
noncomputable def kpC : Cfg := ⟨goL 60 [] [.code (bodyOf Tryz.f54)], ⟨0, [], []⟩⟩
noncomputable def kpS (R : Rd) (s : Int × Int × Int) (g : Nat) : SS := ⟨(cfg0 Tryz.f54 #[.pointer (some ⟨g, 0, none⟩), R.L.v, .int .i64 R.me, .agg #[.int .i64 s.1, .int .i64 s.2.1, .int .i64 s.2.2], R.m.v]).s.n, [(0, .v (.pointer (some ⟨g, 0, none⟩))), (2, .v (.int .i64 R.me)), (6, .p 0 0), (8, .p 1 0), (9, .p 2 0), (10, .v (.bool false))], [⟨25, [.int .i64 R.L.c.t, .int .i64 R.L.c.l, .int .i64 R.L.c.k, .int .i64 R.L.c.s, .int .i64 R.L.c.m, .int .i64 R.L.clock, .int .i64 R.L.stamps, .int .i64 R.L.log, .int .i64 R.L.fin, .int .i64 R.L.thread, .int .i64 R.L.lock, .int .i64 R.L.loc, .int .i64 R.L.size]⟩, ⟨56, [.int .i64 s.1, .int .i64 s.2.1, .int .i64 s.2.2]⟩, ⟨27, [.int .i64 R.m.s, .int .i64 R.m.k, .int .i64 R.m.a]⟩]⟩
section
variable (w0 : World) (g : Nat) (R : Rd) (hok : R.L.ok) (s : Int × Int × Int)
include w0 g R hok s
set_option maxHeartbeats 8000000 in
theorem kp_stop (n : Nat) (l : List (Int × Bool)) (q : Ask) (bs : List Nat) (aa : Act) (w : World) (S : Sy w0 (some g) bs (kpS R s g) [rfCur g (l, some q)] aa w) : post Tryz.prog (.rnd (n + 1) (bodyL kpC) :: kpC.k.tail) (bodyPost Tryz.prog Tryz.f54 (fun e w' => e = .returned (.bool (((false : Bool), ((l, some q) : CSt))).1) ∧ CurAt w' g (((false : Bool), ((l, some q) : CSt))).2 ∧ w0.grownBy w' (some g))) .normal aa w := by
  refine sy_run (c := ⟨(.rnd (n + 1) (bodyL kpC) :: kpC.k.tail), kpS R s g⟩) ⟨0, []⟩ 60 S fun bs aa w S => ?_
  refine sy_ldf S (curAt_stop S.cur) (by kernel_rfl) fun aa S => ?_
  refine sy_run ⟨0, []⟩ 60 S fun bs aa w S => ?_
  exact sy_ret S (by kernel_rfl) (by kernel_rfl) fun hg => ⟨rfl, S.cur, hg⟩
set_option maxHeartbeats 8000000 in
theorem kp_nil (n : Nat) (bs : List Nat) (aa : Act) (w : World) (S : Sy w0 (some g) bs (kpS R s g) [rfCur g ([], none)] aa w) : post Tryz.prog (.rnd (n + 1) (bodyL kpC) :: kpC.k.tail) (bodyPost Tryz.prog Tryz.f54 (fun e w' => e = .returned (.bool (((false : Bool), (([], some ⟨1, atWord R.L s.1, 0, 0⟩) : CSt))).1) ∧ CurAt w' g (((false : Bool), (([], some ⟨1, atWord R.L s.1, 0, 0⟩) : CSt))).2 ∧ w0.grownBy w' (some g))) .normal aa w := by
  refine sy_run (c := ⟨(.rnd (n + 1) (bodyL kpC) :: kpC.k.tail), kpS R s g⟩) ⟨0, []⟩ 60 S fun bs aa w S => ?_
  refine sy_ldf S (curAt_stop S.cur) (by kernel_rfl) fun aa S => ?_
  refine sy_run ⟨0, []⟩ 60 S fun bs aa w S => ?_
  have hC := rlk_any w g R.L hok s.1 s.2.1 ([], none) ([], some ⟨1, atWord R.L s.1, 0, 0⟩) 0 false rfl (by unfold I64; omega) S.cur
  refine sy_cur (x' := ([], some ⟨1, atWord R.L s.1, 0, 0⟩)) (v := .tuple #[.int .i64 (lookX 0 s.2.1), .bool (decide ((0 : Int) = wrap64 (2 * s.2.1)))]) S (Or.inl rfl) hC (by kernel_rfl) (by simp) fun aa w S => ?_
  refine sy_run ⟨0, []⟩ 60 S fun bs aa w S => ?_
  refine sy_ldf S (curAt_stop S.cur) (by kernel_rfl) fun aa S => ?_
  refine sy_run ⟨0, []⟩ 60 S fun bs aa w S => ?_
  exact sy_ret S (by kernel_rfl) (by kernel_rfl) fun hg => ⟨rfl, S.cur, hg⟩
section
variable (n : Nat) (r : Int × Bool) (l : List (Int × Bool)) (hI : ∀ x ∈ r :: l, I64 x.1)
include n r l hI
set_option maxHeartbeats 8000000 in
theorem kp_t (h : r.1 = wrap64 (2 * s.2.1)) (bs : List Nat) (aa : Act) (w : World) (S : Sy w0 (some g) bs (kpS R s g) [rfCur g (r :: l, none)] aa w) : post Tryz.prog (.rnd (n + 1) (bodyL kpC) :: kpC.k.tail) (bodyPost Tryz.prog Tryz.f54 (fun e w' => e = .returned (.bool (((true : Bool), ((l, none) : CSt))).1) ∧ CurAt w' g (((true : Bool), ((l, none) : CSt))).2 ∧ w0.grownBy w' (some g))) .normal aa w := by
  refine sy_run (c := ⟨(.rnd (n + 1) (bodyL kpC) :: kpC.k.tail), kpS R s g⟩) ⟨0, []⟩ 60 S fun bs aa w S => ?_
  refine sy_ldf S (curAt_stop S.cur) (by kernel_rfl) fun aa S => ?_
  refine sy_run ⟨0, []⟩ 60 S fun bs aa w S => ?_
  have hC := rlk_any w g R.L hok s.1 s.2.1 (r :: l, none) (l, none) r.1 r.2 rfl (hI r (by simp)) S.cur
  rw [(decide_eq_true h : decide (r.1 = wrap64 (2 * s.2.1)) = true)] at hC
  refine sy_cur (x' := (l, none)) (v := .tuple #[.int .i64 (lookX r.1 s.2.1), .bool true]) S (Or.inl rfl) hC (by kernel_rfl) (by simp) fun aa w S => ?_
  refine sy_run ⟨0, []⟩ 60 S fun bs aa w S => ?_
  refine sy_ldf S (curAt_stop S.cur) (by kernel_rfl) fun aa S => ?_
  refine sy_run ⟨0, []⟩ 60 S fun bs aa w S => ?_
  exact sy_ret S (by kernel_rfl) (by kernel_rfl) fun hg => ⟨rfl, S.cur, hg⟩
section
variable (h : ¬ r.1 = wrap64 (2 * s.2.1))
include h
set_option maxHeartbeats 8000000 in
theorem kp_neg (h2 : lookX r.1 s.2.1 < 0) (bs : List Nat) (aa : Act) (w : World) (S : Sy w0 (some g) bs (kpS R s g) [rfCur g (r :: l, none)] aa w) : post Tryz.prog (.rnd (n + 1) (bodyL kpC) :: kpC.k.tail) (bodyPost Tryz.prog Tryz.f54 (fun e w' => e = .returned (.bool (((false : Bool), ((l, none) : CSt))).1) ∧ CurAt w' g (((false : Bool), ((l, none) : CSt))).2 ∧ w0.grownBy w' (some g))) .normal aa w := by
  refine sy_run (c := ⟨(.rnd (n + 1) (bodyL kpC) :: kpC.k.tail), kpS R s g⟩) ⟨0, []⟩ 60 S fun bs aa w S => ?_
  refine sy_ldf S (curAt_stop S.cur) (by kernel_rfl) fun aa S => ?_
  refine sy_run ⟨0, []⟩ 60 S fun bs aa w S => ?_
  have hC := rlk_any w g R.L hok s.1 s.2.1 (r :: l, none) (l, none) r.1 r.2 rfl (hI r (by simp)) S.cur
  rw [(decide_eq_false h : decide (r.1 = wrap64 (2 * s.2.1)) = false)] at hC
  refine sy_cur (x' := (l, none)) (v := .tuple #[.int .i64 (lookX r.1 s.2.1), .bool false]) S (Or.inl rfl) hC (by kernel_rfl) (by simp) fun aa w S => ?_
  refine sy_run ⟨0, []⟩ 60 S fun bs aa w S => ?_
  refine sy_ldf S (curAt_stop S.cur) (by kernel_rfl) fun aa S => ?_
  refine sy_run ⟨0, [7]⟩ 60 S fun bs aa w S => ?_
  refine sy_reg S fun S => ?_
  refine sy_ops 3 S fun bs aa w S => ?_
  refine sy_cond true S (decide_eq_true h2 : decide (lookX r.1 s.2.1 < 0) = true) (by kernel_rfl) fun S => ?_
  refine sy_run ⟨0, []⟩ 60 S fun bs aa w S => ?_
  exact sy_ret S (by kernel_rfl) (by kernel_rfl) fun hg => ⟨rfl, S.cur, hg⟩
section
variable (h2 : ¬ lookX r.1 s.2.1 < 0) (v : Int) (x' : CSt)
include h2 v x'
set_option maxHeartbeats 8000000 in
theorem kp_lost (hX : askS R (lookX r.1 s.2.1) (l, none) = ({ val := v, lost := true }, x')) (bs : List Nat) (aa : Act) (w : World) (S : Sy w0 (some g) bs (kpS R s g) [rfCur g (r :: l, none)] aa w) : post Tryz.prog (.rnd (n + 1) (bodyL kpC) :: kpC.k.tail) (bodyPost Tryz.prog Tryz.f54 (fun e w' => e = .returned (.bool (((false : Bool), x')).1) ∧ CurAt w' g (((false : Bool), x')).2 ∧ w0.grownBy w' (some g))) .normal aa w := by
  refine sy_run (c := ⟨(.rnd (n + 1) (bodyL kpC) :: kpC.k.tail), kpS R s g⟩) ⟨0, []⟩ 60 S fun bs aa w S => ?_
  refine sy_ldf S (curAt_stop S.cur) (by kernel_rfl) fun aa S => ?_
  refine sy_run ⟨0, []⟩ 60 S fun bs aa w S => ?_
  have hC := rlk_any w g R.L hok s.1 s.2.1 (r :: l, none) (l, none) r.1 r.2 rfl (hI r (by simp)) S.cur
  rw [(decide_eq_false h : decide (r.1 = wrap64 (2 * s.2.1)) = false)] at hC
  refine sy_cur (x' := (l, none)) (v := .tuple #[.int .i64 (lookX r.1 s.2.1), .bool false]) S (Or.inl rfl) hC (by kernel_rfl) (by simp) fun aa w S => ?_
  refine sy_run ⟨0, []⟩ 60 S fun bs aa w S => ?_
  refine sy_ldf S (curAt_stop S.cur) (by kernel_rfl) fun aa S => ?_
  refine sy_run ⟨0, [7]⟩ 60 S fun bs aa w S => ?_
  refine sy_reg S fun S => ?_
  refine sy_ops 3 S fun bs aa w S => ?_
  refine sy_cond false S (decide_eq_false h2 : decide (lookX r.1 s.2.1 < 0) = false) (by kernel_rfl) fun S => ?_
  refine sy_run ⟨0, []⟩ 60 S fun bs aa w S => ?_
  have hA := ra_any w g R hok (lookX r.1 s.2.1) (l, none) (fun y hy => hI y (by simp [show y ∈ l from hy])) (ask_form R _ _) S.cur
  rw [hX] at hA
  refine sy_cur (x' := x') (v := .tuple #[.int .i64 v, .bool true]) S (Or.inl rfl) hA (by kernel_rfl) (by simp) fun aa w S => ?_
  refine sy_run ⟨0, []⟩ 60 S fun bs aa w S => ?_
  exact sy_ret S (by kernel_rfl) (by kernel_rfl) fun hg => ⟨rfl, S.cur, hg⟩
section
variable (hX : askS R (lookX r.1 s.2.1) (l, none) = ({ val := v, lost := false }, x'))
include hX
set_option maxHeartbeats 8000000 in
theorem kp_three (h3 : v = 3) (bs : List Nat) (aa : Act) (w : World) (S : Sy w0 (some g) bs (kpS R s g) [rfCur g (r :: l, none)] aa w) : post Tryz.prog (.rnd (n + 1) (bodyL kpC) :: kpC.k.tail) (bodyPost Tryz.prog Tryz.f54 (fun e w' => e = .returned (.bool (((false : Bool), x')).1) ∧ CurAt w' g (((false : Bool), x')).2 ∧ w0.grownBy w' (some g))) .normal aa w := by
  refine sy_run (c := ⟨(.rnd (n + 1) (bodyL kpC) :: kpC.k.tail), kpS R s g⟩) ⟨0, []⟩ 60 S fun bs aa w S => ?_
  refine sy_ldf S (curAt_stop S.cur) (by kernel_rfl) fun aa S => ?_
  refine sy_run ⟨0, []⟩ 60 S fun bs aa w S => ?_
  have hC := rlk_any w g R.L hok s.1 s.2.1 (r :: l, none) (l, none) r.1 r.2 rfl (hI r (by simp)) S.cur
  rw [(decide_eq_false h : decide (r.1 = wrap64 (2 * s.2.1)) = false)] at hC
  refine sy_cur (x' := (l, none)) (v := .tuple #[.int .i64 (lookX r.1 s.2.1), .bool false]) S (Or.inl rfl) hC (by kernel_rfl) (by simp) fun aa w S => ?_
  refine sy_run ⟨0, []⟩ 60 S fun bs aa w S => ?_
  refine sy_ldf S (curAt_stop S.cur) (by kernel_rfl) fun aa S => ?_
  refine sy_run ⟨0, [7]⟩ 60 S fun bs aa w S => ?_
  refine sy_reg S fun S => ?_
  refine sy_ops 3 S fun bs aa w S => ?_
  refine sy_cond false S (decide_eq_false h2 : decide (lookX r.1 s.2.1 < 0) = false) (by kernel_rfl) fun S => ?_
  refine sy_run ⟨0, []⟩ 60 S fun bs aa w S => ?_
  have hA := ra_any w g R hok (lookX r.1 s.2.1) (l, none) (fun y hy => hI y (by simp [show y ∈ l from hy])) (ask_form R _ _) S.cur
  rw [hX] at hA
  refine sy_cur (x' := x') (v := .tuple #[.int .i64 v, .bool false]) S (Or.inl rfl) hA (by kernel_rfl) (by simp) fun aa w S => ?_
  refine sy_run ⟨0, [10]⟩ 60 S fun bs aa w S => ?_
  refine sy_reg S fun S => ?_
  refine sy_ops 6 S fun bs aa w S => ?_
  refine sy_cond true S (decide_eq_true h3 : decide (v = 3) = true) (by kernel_rfl) fun S => ?_
  refine sy_run ⟨0, []⟩ 60 S fun bs aa w S => ?_
  exact sy_ret S (by kernel_rfl) (by kernel_rfl) fun hg => ⟨rfl, S.cur, hg⟩
set_option maxHeartbeats 8000000 in
theorem kp_go (h3 : ¬ v = 3) (y : Bool × CSt) (ih : ∀ (bs : List Nat) (aa : Act) (w : World) (S : Sy w0 (some g) bs (kpS R s g) [rfCur g (x')] aa w), post Tryz.prog (.rnd (n) (bodyL kpC) :: kpC.k.tail) (bodyPost Tryz.prog Tryz.f54 (fun e w' => e = .returned (.bool (y).1) ∧ CurAt w' g (y).2 ∧ w0.grownBy w' (some g))) .normal aa w) (bs : List Nat) (aa : Act) (w : World) (S : Sy w0 (some g) bs (kpS R s g) [rfCur g (r :: l, none)] aa w) : post Tryz.prog (.rnd (n + 1) (bodyL kpC) :: kpC.k.tail) (bodyPost Tryz.prog Tryz.f54 (fun e w' => e = .returned (.bool (y).1) ∧ CurAt w' g (y).2 ∧ w0.grownBy w' (some g))) .normal aa w := by
  refine sy_run (c := ⟨(.rnd (n + 1) (bodyL kpC) :: kpC.k.tail), kpS R s g⟩) ⟨0, []⟩ 60 S fun bs aa w S => ?_
  refine sy_ldf S (curAt_stop S.cur) (by kernel_rfl) fun aa S => ?_
  refine sy_run ⟨0, []⟩ 60 S fun bs aa w S => ?_
  have hC := rlk_any w g R.L hok s.1 s.2.1 (r :: l, none) (l, none) r.1 r.2 rfl (hI r (by simp)) S.cur
  rw [(decide_eq_false h : decide (r.1 = wrap64 (2 * s.2.1)) = false)] at hC
  refine sy_cur (x' := (l, none)) (v := .tuple #[.int .i64 (lookX r.1 s.2.1), .bool false]) S (Or.inl rfl) hC (by kernel_rfl) (by simp) fun aa w S => ?_
  refine sy_run ⟨0, []⟩ 60 S fun bs aa w S => ?_
  refine sy_ldf S (curAt_stop S.cur) (by kernel_rfl) fun aa S => ?_
  refine sy_run ⟨0, [7]⟩ 60 S fun bs aa w S => ?_
  refine sy_reg S fun S => ?_
  refine sy_ops 3 S fun bs aa w S => ?_
  refine sy_cond false S (decide_eq_false h2 : decide (lookX r.1 s.2.1 < 0) = false) (by kernel_rfl) fun S => ?_
  refine sy_run ⟨0, []⟩ 60 S fun bs aa w S => ?_
  have hA := ra_any w g R hok (lookX r.1 s.2.1) (l, none) (fun y hy => hI y (by simp [show y ∈ l from hy])) (ask_form R _ _) S.cur
  rw [hX] at hA
  refine sy_cur (x' := x') (v := .tuple #[.int .i64 v, .bool false]) S (Or.inl rfl) hA (by kernel_rfl) (by simp) fun aa w S => ?_
  refine sy_run ⟨0, [10]⟩ 60 S fun bs aa w S => ?_
  refine sy_reg S fun S => ?_
  refine sy_ops 6 S fun bs aa w S => ?_
  refine sy_cond false S (decide_eq_false h3 : decide (v = 3) = false) (by kernel_rfl) fun S => ?_
  refine sy_run ⟨0, [999]⟩ 60 S fun bs aa w S => ?_
  have S' := S.to [0, 1, 2] (kpS R s g) (by kernel_rfl) (by kernel_rfl) (by kernel_rfl) (by kernel_rfl) (by kernel_rfl)
  refine sy_at (k := (.rnd (n) (bodyL kpC) :: kpC.k.tail)) (by kernel_rfl) ?_
  exact ih _ aa w S'
end
end
end
end
theorem kp_all : ∀ (n : Nat) (x : CSt), x.1.length < n → (∀ y ∈ x.1, I64 y.1) → ∀ (bs : List Nat) (aa : Act) (w : World) (S : Sy w0 (some g) bs (kpS R s g) [rfCur g (x)] aa w), post Tryz.prog (.rnd (n) (bodyL kpC) :: kpC.k.tail) (bodyPost Tryz.prog Tryz.f54 (fun e w' => e = .returned (.bool (keepsS R s n x).1) ∧ CurAt w' g (keepsS R s n x).2 ∧ w0.grownBy w' (some g))) .normal aa w := by
  intro n
  induction n with
  | zero => intro x h; omega
  | succ n ih =>
    intro x hx hI bs aa w S
    obtain ⟨l, oq⟩ := x
    cases oq with
    | some q => exact kp_stop w0 g R hok s n l q bs aa w S
    | none =>
      rcases l with _ | ⟨r, l⟩
      · exact kp_nil w0 g R hok s n bs aa w S
      · rw [keepsS_cons]
        by_cases h : r.1 = wrap64 (2 * s.2.1)
        · rw [if_pos h]; exact kp_t w0 g R hok s n r l hI h bs aa w S
        · rw [if_neg h]
          by_cases h2 : lookX r.1 s.2.1 < 0
          · rw [if_pos h2]; exact kp_neg w0 g R hok s n r l hI h h2 bs aa w S
          · rw [if_neg h2]
            have hr := askS_rest R (lookX r.1 s.2.1) (l, none)
            obtain ⟨v, b, hv⟩ : ∃ v b, (askS R (lookX r.1 s.2.1) (l, none)).1 = { val := v, lost := b } := by
              unfold askS
              by_cases hc : lookX r.1 s.2.1 = R.me ∨ atStatus R.L (lookX r.1 s.2.1) < 0
              · rw [if_pos hc]; exact ⟨_, _, rfl⟩
              · rw [if_neg hc]; exact ⟨_, _, rfl⟩
            obtain ⟨⟨o, x'⟩, hX⟩ : ∃ X, askS R (lookX r.1 s.2.1) (l, none) = X := ⟨_, rfl⟩
            rw [hX] at hv hr ⊢
            simp only at hv hr ⊢
            subst hv
            cases b with
            | true => rw [if_pos (Or.inl rfl)]; exact kp_lost w0 g R hok s n r l hI h h2 v x' hX bs aa w S
            | false =>
              by_cases h3 : v = 3
              · rw [if_pos (Or.inr h3)]; exact kp_three w0 g R hok s n r l hI h h2 v x' hX h3 bs aa w S
              · rw [if_neg (by intro hh; exact hh.elim (fun h => by cases h) h3)]
                refine kp_go w0 g R hok s n r l hI h h2 v x' hX h3 _ (fun bs aa w S => ih x' ?_ ?_ bs aa w S) bs aa w S
                · have := hr.2; simp at this hx; omega
                · intro y hy; exact hI y (by simp [show y ∈ l from hr.1 y hy])
set_option maxHeartbeats 8000000 in
theorem keeps_any (x : CSt) (hI : ∀ y ∈ x.1, I64 y.1) (hR : CurAt w0 g x) : Calls Tryz.prog 54 #[.pointer (some ⟨g, 0, none⟩), R.L.v, .int .i64 R.me, .agg #[.int .i64 s.1, .int .i64 s.2.1, .int .i64 s.2.2], R.m.v] w0 (fun e w' => e = .returned (.bool (keepsS R s (x.1.length + 1) x).1) ∧ CurAt w' g (keepsS R s (x.1.length + 1) x).2 ∧ w0.grownBy w' (some g)) := by
  refine sy_enterF (some g) [rfCur g x] (by intro f hf; simp at hf; subst hf; exact hR) Tryz.func54 rfl fun aa S => ?_
  refine sy_run ⟨0, []⟩ 60 S fun bs aa w S => ?_
  have S' := S.to [0, 1, 2] (kpS R s g) (by kernel_rfl) (by kernel_rfl) (by kernel_rfl) (by kernel_rfl) (by kernel_rfl)
  refine sy_loop (x.1.length + 1) (by kernel_rfl) ?_
  refine post_at (k' := (.rnd (x.1.length + 1) (bodyL kpC) :: kpC.k.tail)) (by kernel_rfl) ?_
  exact kp_all w0 g R hok s (x.1.length + 1) x (by omega) hI _ aa w S'
end
end Go.Proofs.YtfahnmpcclhjlaaGreat

namespace Go.Proofs.YtfahnmpcclhjlaaGreat
open Go Go.RowKit SX
set_option linter.unusedVariables false
set_option linter.unusedSectionVars false
set_option linter.unusedSimpArgs false
set_option maxRecDepth 100000
attribute [local irreducible] post GD
def allK (R : Rd) : List (Int × Int × Int) → CSt → Bool × CSt
  | [], x => (true, x)
  | s :: Q, x => match keepsS R s (x.1.length + 1) x with
    | (false, y) => (false, y)
    | (true, y) => allK R Q y
def triedS (R : Rd) : Nat → Int → CSt → OutD × CSt
  | 0, _, x => ({}, x)
  | n + 1, rv, x => match x with
    | (l, some q) => ({}, (l, some q))
    | (l, none) => match rd16 R.L R.a (l, none) with
      | (_, (l1, some q)) => ({}, (l1, some q))
      | ((v, ver, who, ok), (l1, none)) => match ok with
        | false => if who ≥ 0 then (match (askS R who (l1, none)).1.lost with
            | true => ({ lost := true }, (askS R who (l1, none)).2)
            | false => triedS R n rv (askS R who (l1, none)).2) else triedS R n rv (l1, none)
        | true => if ver > rv then (match allK R R.Q (cdo (l1, none) ⟨1, R.L.clock, 0, 0⟩).2 with
            | (false, y) => ({ lost := true }, y)
            | (true, y) => triedS R n (cdo (l1, none) ⟨1, R.L.clock, 0, 0⟩).1.1 y)
          else if (cdo (l1, none) ⟨1, atStatus R.L R.me, 0, 0⟩).1.1 % 4 = 3 then ({ lost := true }, (cdo (l1, none) ⟨1, atStatus R.L R.me, 0, 0⟩).2)
          else ({ val := v, ver := ver, rv := rv, ok := true }, (cdo (l1, none) ⟨1, atStatus R.L R.me, 0, 0⟩).2)
theorem keepsS_rest (R : Rd) (s : Int × Int × Int) : ∀ (n : Nat) (x : CSt), (∀ y ∈ (keepsS R s n x).2.1, y ∈ x.1) ∧ (keepsS R s n x).2.1.length ≤ x.1.length
  | 0, x => ⟨fun y h => h, Nat.le_refl _⟩
  | n + 1, (l, some q) => ⟨fun y h => h, Nat.le_refl _⟩
  | n + 1, ([], none) => ⟨fun y h => h, Nat.le_refl _⟩
  | n + 1, (r :: l, none) => by
    rw [keepsS_cons]
    by_cases h : r.1 = wrap64 (2 * s.2.1)
    · rw [if_pos h]; exact ⟨fun y h => List.mem_cons_of_mem _ h, Nat.le_succ _⟩
    · rw [if_neg h]
      by_cases h2 : lookX r.1 s.2.1 < 0
      · rw [if_pos h2]; exact ⟨fun y h => List.mem_cons_of_mem _ h, Nat.le_succ _⟩
      · rw [if_neg h2]
        obtain ⟨a1, a2⟩ := askS_rest R (lookX r.1 s.2.1) (l, none)
        by_cases h3 : (askS R (lookX r.1 s.2.1) (l, none)).1.lost = true ∨ (askS R (lookX r.1 s.2.1) (l, none)).1.val = 3
        · rw [if_pos h3]; exact ⟨fun y h => List.mem_cons_of_mem _ (a1 y h), Nat.le_trans a2 (Nat.le_succ _)⟩
        · rw [if_neg h3]
          obtain ⟨b1, b2⟩ := keepsS_rest R s n (askS R (lookX r.1 s.2.1) (l, none)).2
          exact ⟨fun y h => List.mem_cons_of_mem _ (a1 y (b1 y h)), Nat.le_trans b2 (Nat.le_trans a2 (Nat.le_succ _))⟩
theorem allK_rest (R : Rd) : ∀ (Q : List (Int × Int × Int)) (x : CSt), (∀ y ∈ (allK R Q x).2.1, y ∈ x.1) ∧ (allK R Q x).2.1.length ≤ x.1.length
  | [], x => ⟨fun y h => h, Nat.le_refl _⟩
  | s :: Q, x => by
    have h := keepsS_rest R s (x.1.length + 1) x
    unfold allK
    obtain ⟨⟨b, y⟩, hX⟩ : ∃ X, keepsS R s (x.1.length + 1) x = X := ⟨_, rfl⟩
    rw [hX] at h ⊢
    cases b with
    | false => exact h
    | true =>
      have i := allK_rest R Q y
      exact ⟨fun z hz => h.1 z (i.1 z hz), Nat.le_trans i.2 h.2⟩
theorem rd16_rest (L : Ly) (loc : Int) (r : Int × Bool) (l : List (Int × Bool)) : (∀ y ∈ (rd16 L loc (r :: l, none)).2.1, y ∈ l) ∧ (rd16 L loc (r :: l, none)).2.1.length ≤ l.length := by
  have e1 : cdo (r :: l, none) ⟨1, atWord L loc, 0, 0⟩ = (r, (l, none)) := rfl
  simp only [rd16, e1]
  by_cases hq : r.1 % 2 = 1
  · rw [if_pos hq]; exact ⟨fun y h => h, Nat.le_refl _⟩
  · rw [if_neg hq]
    obtain ⟨a1, a2⟩ := cdo_rest (l, none) ⟨1, atVal L loc, 0, 0⟩
    obtain ⟨b1, b2⟩ := cdo_rest (cdo (l, none) ⟨1, atVal L loc, 0, 0⟩).2 ⟨1, atWord L loc, 0, 0⟩
    split
    · exact ⟨fun y h => a1 y (b1 y h), Nat.le_trans b2 a2⟩
    · exact ⟨fun y h => a1 y (b1 y h), Nat.le_trans b2 a2⟩
theorem rd16_nil (L : Ly) (loc : Int) : ∃ X, rd16 L loc ([], none) = (X, ([], some ⟨1, atWord L loc, 0, 0⟩)) := by
  have e1 : cdo ([], none) ⟨1, atWord L loc, 0, 0⟩ = ((0, false), ([], some ⟨1, atWord L loc, 0, 0⟩)) := rfl
  have e2 : ∀ q, cdo ([], some ⟨1, atWord L loc, 0, 0⟩) q = ((0, false), ([], some ⟨1, atWord L loc, 0, 0⟩)) := fun _ => rfl
  simp only [rd16, e1, e2]
  rw [if_neg (by omega)]
  simp
noncomputable def trC : Cfg := ⟨goL 60 [] [.code (bodyOf Tryz.f34)], ⟨0, [], []⟩⟩
noncomputable def trS (R : Rd) (g : Nat) (rv : Int) (k bb ty : Int) (wa da : Option Addr) (wl wc dl dc : Nat) (sa : Option Addr) (sl sc : Nat) : SS := ⟨(cfg0 Tryz.f34 #[.pointer (some ⟨g, 0, none⟩), R.L.v, .int .i64 R.me, .agg #[.int .i64 k, .int .i64 R.a, .int .i64 bb, .int .i64 ty, .int .i64 R.m.s, .int .i64 R.m.k, .int .i64 R.m.a, .slice sa sl sc, .slice wa wl wc, .slice da dl dc]]).s.n, [(0, .v (.pointer (some ⟨g, 0, none⟩))), (2, .v (.int .i64 R.me)), (5, .p 0 0), (7, .p 1 0), (8, .p 2 0), (9, .v (.int .i64 rv))], [⟨25, [.int .i64 R.L.c.t, .int .i64 R.L.c.l, .int .i64 R.L.c.k, .int .i64 R.L.c.s, .int .i64 R.L.c.m, .int .i64 R.L.clock, .int .i64 R.L.stamps, .int .i64 R.L.log, .int .i64 R.L.fin, .int .i64 R.L.thread, .int .i64 R.L.lock, .int .i64 R.L.loc, .int .i64 R.L.size]⟩, ⟨32, [.int .i64 k, .int .i64 R.a, .int .i64 bb, .int .i64 ty, .int .i64 R.m.s, .int .i64 R.m.k, .int .i64 R.m.a, .slice sa sl sc, .slice wa wl wc, .slice da dl dc]⟩, ⟨42, [.int .i64 0, .int .i64 0, .int .i64 0, .int .i64 0, .bool false, .bool false, .int .i64 0]⟩]⟩
noncomputable def trE (R : Rd) (g : Nat) (rv e : Int) (j : Nat) (k bb ty : Int) (wa da : Option Addr) (wl wc dl dc : Nat) (sa : Option Addr) (sl sc : Nat) : SS := ⟨(cfg0 Tryz.f34 #[.pointer (some ⟨g, 0, none⟩), R.L.v, .int .i64 R.me, .agg #[.int .i64 k, .int .i64 R.a, .int .i64 bb, .int .i64 ty, .int .i64 R.m.s, .int .i64 R.m.k, .int .i64 R.m.a, .slice sa sl sc, .slice wa wl wc, .slice da dl dc]]).s.n, [(0, .v (.pointer (some ⟨g, 0, none⟩))), (2, .v (.int .i64 R.me)), (5, .p 0 0), (7, .p 1 0), (8, .p 2 0), (9, .v (.int .i64 rv)), (16, .v (.int .i64 e)), (17, .v (.int .i64 (j : Int)))], [⟨25, [.int .i64 R.L.c.t, .int .i64 R.L.c.l, .int .i64 R.L.c.k, .int .i64 R.L.c.s, .int .i64 R.L.c.m, .int .i64 R.L.clock, .int .i64 R.L.stamps, .int .i64 R.L.log, .int .i64 R.L.fin, .int .i64 R.L.thread, .int .i64 R.L.lock, .int .i64 R.L.loc, .int .i64 R.L.size]⟩, ⟨32, [.int .i64 k, .int .i64 R.a, .int .i64 bb, .int .i64 ty, .int .i64 R.m.s, .int .i64 R.m.k, .int .i64 R.m.a, .slice sa sl sc, .slice wa wl wc, .slice da dl dc]⟩, ⟨42, [.int .i64 0, .int .i64 0, .int .i64 0, .int .i64 0, .bool false, .bool false, .int .i64 0]⟩]⟩
section
variable (w0 : World) (g : Nat) (R : Rd) (hok : R.L.ok) (k bb ty : Int) (wa da : Option Addr) (wl wc dl dc : Nat) (sa : Option Addr) (sl sc : Nat) (b o : Nat) (hQ : R.Q.length = sl) (hsa : sl = 0 ∨ sa = some ⟨b, o, none⟩) (hsg : ¬ (rfSeen b o R.Q).bl g) (n : Nat) (rv : Int)
include w0 g R hok k bb ty wa da wl wc dl dc sa sl sc b o hQ hsa hsg n rv
set_option maxHeartbeats 8000000 in
theorem tr_stop (l : List (Int × Bool)) (q : Ask) (bs : List Nat) (aa : Act) (w : World) (S : Sy w0 (some g) bs (trS R g rv k bb ty wa da wl wc dl dc sa sl sc) [rfCur g (l, some q), rfSeen b o R.Q] aa w) : post Tryz.prog (.rnd (n + 1) (bodyL trC) :: trC.k.tail) (bodyPost Tryz.prog Tryz.f34 (fun e w' => e = .returned ((({} : OutD), ((l, some q) : CSt))).1.v ∧ CurAt w' g ((({} : OutD), ((l, some q) : CSt))).2 ∧ w0.grownBy w' (some g))) .normal aa w := by
  refine sy_run (c := ⟨(.rnd (n + 1) (bodyL trC) :: trC.k.tail), trS R g rv k bb ty wa da wl wc dl dc sa sl sc⟩) ⟨0, []⟩ 60 S fun bs aa w S => ?_
  refine sy_ldf S (curAt_stop S.cur) (by kernel_rfl) fun aa S => ?_
  refine sy_run ⟨0, []⟩ 60 S fun bs aa w S => ?_
  exact sy_ret S (by kernel_rfl) (by kernel_rfl) fun hg => ⟨rfl, S.cur, hg⟩
section
variable (q : Ask) (l l1 : List (Int × Bool)) (hI0 : I64 (cdo (l, none) ⟨1, atWord R.L R.a, 0, 0⟩).1.1) (v ver who : Int)
include q l l1 hI0 v ver who
set_option maxHeartbeats 8000000 in
theorem tr_qt (hX : rd16 R.L R.a (l, none) = ((v, ver, who, true), (l1, some q))) (bs : List Nat) (aa : Act) (w : World) (S : Sy w0 (some g) bs (trS R g rv k bb ty wa da wl wc dl dc sa sl sc) [rfCur g (l, none), rfSeen b o R.Q] aa w) : post Tryz.prog (.rnd (n + 1) (bodyL trC) :: trC.k.tail) (bodyPost Tryz.prog Tryz.f34 (fun e w' => e = .returned ((({} : OutD), ((l1, some q) : CSt))).1.v ∧ CurAt w' g ((({} : OutD), ((l1, some q) : CSt))).2 ∧ w0.grownBy w' (some g))) .normal aa w := by
  refine sy_run (c := ⟨(.rnd (n + 1) (bodyL trC) :: trC.k.tail), trS R g rv k bb ty wa da wl wc dl dc sa sl sc⟩) ⟨0, []⟩ 60 S fun bs aa w S => ?_
  refine sy_ldf S (curAt_stop S.cur) (by kernel_rfl) fun aa S => ?_
  refine sy_run ⟨0, []⟩ 60 S fun bs aa w S => ?_
  have hC := r16_any w g R.L hok R.a (l, none) hI0 S.cur
  rw [hX] at hC
  refine sy_cur (x' := (l1, some q)) (v := .tuple #[.int .i64 v, .int .i64 ver, .int .i64 who, .bool true]) S (Or.inl rfl) hC (by kernel_rfl) (by intro f hf; simp at hf; subst hf; exact hsg) fun aa w S => ?_
  refine sy_run ⟨0, []⟩ 60 S fun bs aa w S => ?_
  refine sy_ldf S (curAt_stop S.cur) (by kernel_rfl) fun aa S => ?_
  refine sy_run ⟨0, []⟩ 60 S fun bs aa w S => ?_
  exact sy_ret S (by kernel_rfl) (by kernel_rfl) fun hg => ⟨rfl, S.cur, hg⟩
set_option maxHeartbeats 8000000 in
theorem tr_qf (hX : rd16 R.L R.a (l, none) = ((v, ver, who, false), (l1, some q))) (bs : List Nat) (aa : Act) (w : World) (S : Sy w0 (some g) bs (trS R g rv k bb ty wa da wl wc dl dc sa sl sc) [rfCur g (l, none), rfSeen b o R.Q] aa w) : post Tryz.prog (.rnd (n + 1) (bodyL trC) :: trC.k.tail) (bodyPost Tryz.prog Tryz.f34 (fun e w' => e = .returned ((({} : OutD), ((l1, some q) : CSt))).1.v ∧ CurAt w' g ((({} : OutD), ((l1, some q) : CSt))).2 ∧ w0.grownBy w' (some g))) .normal aa w := by
  refine sy_run (c := ⟨(.rnd (n + 1) (bodyL trC) :: trC.k.tail), trS R g rv k bb ty wa da wl wc dl dc sa sl sc⟩) ⟨0, []⟩ 60 S fun bs aa w S => ?_
  refine sy_ldf S (curAt_stop S.cur) (by kernel_rfl) fun aa S => ?_
  refine sy_run ⟨0, []⟩ 60 S fun bs aa w S => ?_
  have hC := r16_any w g R.L hok R.a (l, none) hI0 S.cur
  rw [hX] at hC
  refine sy_cur (x' := (l1, some q)) (v := .tuple #[.int .i64 v, .int .i64 ver, .int .i64 who, .bool false]) S (Or.inl rfl) hC (by kernel_rfl) (by intro f hf; simp at hf; subst hf; exact hsg) fun aa w S => ?_
  refine sy_run ⟨0, []⟩ 60 S fun bs aa w S => ?_
  refine sy_ldf S (curAt_stop S.cur) (by kernel_rfl) fun aa S => ?_
  refine sy_run ⟨0, []⟩ 60 S fun bs aa w S => ?_
  exact sy_ret S (by kernel_rfl) (by kernel_rfl) fun hg => ⟨rfl, S.cur, hg⟩
end
section
variable (l l1 : List (Int × Bool)) (hI0 : I64 (cdo (l, none) ⟨1, atWord R.L R.a, 0, 0⟩).1.1) (v ver who : Int)
include l l1 hI0 v ver who
section
variable (hX : rd16 R.L R.a (l, none) = ((v, ver, who, false), (l1, none)))
include hX
set_option maxHeartbeats 8000000 in
theorem tr_no (hw : ¬ who ≥ 0) (y : OutD × CSt) (ih : ∀ (bs : List Nat) (aa : Act) (w : World) (S : Sy w0 (some g) bs (trS R g rv k bb ty wa da wl wc dl dc sa sl sc) [rfCur g (l1, none), rfSeen b o R.Q] aa w), post Tryz.prog (.rnd (n) (bodyL trC) :: trC.k.tail) (bodyPost Tryz.prog Tryz.f34 (fun e w' => e = .returned (y).1.v ∧ CurAt w' g (y).2 ∧ w0.grownBy w' (some g))) .normal aa w) (bs : List Nat) (aa : Act) (w : World) (S : Sy w0 (some g) bs (trS R g rv k bb ty wa da wl wc dl dc sa sl sc) [rfCur g (l, none), rfSeen b o R.Q] aa w) : post Tryz.prog (.rnd (n + 1) (bodyL trC) :: trC.k.tail) (bodyPost Tryz.prog Tryz.f34 (fun e w' => e = .returned (y).1.v ∧ CurAt w' g (y).2 ∧ w0.grownBy w' (some g))) .normal aa w := by
  refine sy_run (c := ⟨(.rnd (n + 1) (bodyL trC) :: trC.k.tail), trS R g rv k bb ty wa da wl wc dl dc sa sl sc⟩) ⟨0, []⟩ 60 S fun bs aa w S => ?_
  refine sy_ldf S (curAt_stop S.cur) (by kernel_rfl) fun aa S => ?_
  refine sy_run ⟨0, []⟩ 60 S fun bs aa w S => ?_
  have hC := r16_any w g R.L hok R.a (l, none) hI0 S.cur
  rw [hX] at hC
  refine sy_cur (x' := (l1, none)) (v := .tuple #[.int .i64 v, .int .i64 ver, .int .i64 who, .bool false]) S (Or.inl rfl) hC (by kernel_rfl) (by intro f hf; simp at hf; subst hf; exact hsg) fun aa w S => ?_
  refine sy_run ⟨0, []⟩ 60 S fun bs aa w S => ?_
  refine sy_ldf S (curAt_stop S.cur) (by kernel_rfl) fun aa S => ?_
  refine sy_run ⟨0, [6]⟩ 60 S fun bs aa w S => ?_
  refine sy_reg S fun S => ?_
  refine sy_ops 5 S fun bs aa w S => ?_
  refine sy_cast 46 S (congrArg Value.bool (decide_eq_false hw : decide (who ≥ 0) = false)) (by kernel_rfl) fun S => ?_
  refine sy_run ⟨0, [999]⟩ 60 S fun bs aa w S => ?_
  have S' := S.to [0, 1, 2] (trS R g rv k bb ty wa da wl wc dl dc sa sl sc) (by kernel_rfl) (by kernel_rfl) (by kernel_rfl) (by kernel_rfl) (by kernel_rfl)
  refine sy_at (k := (.rnd (n) (bodyL trC) :: trC.k.tail)) (by kernel_rfl) ?_
  exact ih _ aa w S'
set_option maxHeartbeats 8000000 in
theorem tr_lost (hw : who ≥ 0) (hI1 : ∀ y ∈ l1, I64 y.1) (v2 : Int) (x' : CSt) (hY : askS R who (l1, none) = ({ val := v2, lost := true }, x')) (bs : List Nat) (aa : Act) (w : World) (S : Sy w0 (some g) bs (trS R g rv k bb ty wa da wl wc dl dc sa sl sc) [rfCur g (l, none), rfSeen b o R.Q] aa w) : post Tryz.prog (.rnd (n + 1) (bodyL trC) :: trC.k.tail) (bodyPost Tryz.prog Tryz.f34 (fun e w' => e = .returned ((({ lost := true } : OutD), x')).1.v ∧ CurAt w' g ((({ lost := true } : OutD), x')).2 ∧ w0.grownBy w' (some g))) .normal aa w := by
  refine sy_run (c := ⟨(.rnd (n + 1) (bodyL trC) :: trC.k.tail), trS R g rv k bb ty wa da wl wc dl dc sa sl sc⟩) ⟨0, []⟩ 60 S fun bs aa w S => ?_
  refine sy_ldf S (curAt_stop S.cur) (by kernel_rfl) fun aa S => ?_
  refine sy_run ⟨0, []⟩ 60 S fun bs aa w S => ?_
  have hC := r16_any w g R.L hok R.a (l, none) hI0 S.cur
  rw [hX] at hC
  refine sy_cur (x' := (l1, none)) (v := .tuple #[.int .i64 v, .int .i64 ver, .int .i64 who, .bool false]) S (Or.inl rfl) hC (by kernel_rfl) (by intro f hf; simp at hf; subst hf; exact hsg) fun aa w S => ?_
  refine sy_run ⟨0, []⟩ 60 S fun bs aa w S => ?_
  refine sy_ldf S (curAt_stop S.cur) (by kernel_rfl) fun aa S => ?_
  refine sy_run ⟨0, [6]⟩ 60 S fun bs aa w S => ?_
  refine sy_reg S fun S => ?_
  refine sy_ops 5 S fun bs aa w S => ?_
  refine sy_cast 46 S (congrArg Value.bool (decide_eq_true hw : decide (who ≥ 0) = true)) (by kernel_rfl) fun S => ?_
  refine sy_run ⟨0, []⟩ 60 S fun bs aa w S => ?_
  have hA := ra_any w g R hok who (l1, none) hI1 (ask_form R _ _) S.cur
  rw [hY] at hA
  refine sy_cur (x' := x') (v := .tuple #[.int .i64 v2, .bool true]) S (Or.inl rfl) hA (by kernel_rfl) (by intro f hf; simp at hf; subst hf; exact hsg) fun aa w S => ?_
  refine sy_run ⟨0, []⟩ 60 S fun bs aa w S => ?_
  exact sy_ret S (by kernel_rfl) (by kernel_rfl) fun hg => ⟨rfl, S.cur, hg⟩
set_option maxHeartbeats 8000000 in
theorem tr_go (hw : who ≥ 0) (hI1 : ∀ y ∈ l1, I64 y.1) (v2 : Int) (x' : CSt) (hY : askS R who (l1, none) = ({ val := v2, lost := false }, x')) (y : OutD × CSt) (ih : ∀ (bs : List Nat) (aa : Act) (w : World) (S : Sy w0 (some g) bs (trS R g rv k bb ty wa da wl wc dl dc sa sl sc) [rfCur g (x'), rfSeen b o R.Q] aa w), post Tryz.prog (.rnd (n) (bodyL trC) :: trC.k.tail) (bodyPost Tryz.prog Tryz.f34 (fun e w' => e = .returned (y).1.v ∧ CurAt w' g (y).2 ∧ w0.grownBy w' (some g))) .normal aa w) (bs : List Nat) (aa : Act) (w : World) (S : Sy w0 (some g) bs (trS R g rv k bb ty wa da wl wc dl dc sa sl sc) [rfCur g (l, none), rfSeen b o R.Q] aa w) : post Tryz.prog (.rnd (n + 1) (bodyL trC) :: trC.k.tail) (bodyPost Tryz.prog Tryz.f34 (fun e w' => e = .returned (y).1.v ∧ CurAt w' g (y).2 ∧ w0.grownBy w' (some g))) .normal aa w := by
  refine sy_run (c := ⟨(.rnd (n + 1) (bodyL trC) :: trC.k.tail), trS R g rv k bb ty wa da wl wc dl dc sa sl sc⟩) ⟨0, []⟩ 60 S fun bs aa w S => ?_
  refine sy_ldf S (curAt_stop S.cur) (by kernel_rfl) fun aa S => ?_
  refine sy_run ⟨0, []⟩ 60 S fun bs aa w S => ?_
  have hC := r16_any w g R.L hok R.a (l, none) hI0 S.cur
  rw [hX] at hC
  refine sy_cur (x' := (l1, none)) (v := .tuple #[.int .i64 v, .int .i64 ver, .int .i64 who, .bool false]) S (Or.inl rfl) hC (by kernel_rfl) (by intro f hf; simp at hf; subst hf; exact hsg) fun aa w S => ?_
  refine sy_run ⟨0, []⟩ 60 S fun bs aa w S => ?_
  refine sy_ldf S (curAt_stop S.cur) (by kernel_rfl) fun aa S => ?_
  refine sy_run ⟨0, [6]⟩ 60 S fun bs aa w S => ?_
  refine sy_reg S fun S => ?_
  refine sy_ops 5 S fun bs aa w S => ?_
  refine sy_cast 46 S (congrArg Value.bool (decide_eq_true hw : decide (who ≥ 0) = true)) (by kernel_rfl) fun S => ?_
  refine sy_run ⟨0, []⟩ 60 S fun bs aa w S => ?_
  have hA := ra_any w g R hok who (l1, none) hI1 (ask_form R _ _) S.cur
  rw [hY] at hA
  refine sy_cur (x' := x') (v := .tuple #[.int .i64 v2, .bool false]) S (Or.inl rfl) hA (by kernel_rfl) (by intro f hf; simp at hf; subst hf; exact hsg) fun aa w S => ?_
  refine sy_run ⟨0, [999]⟩ 60 S fun bs aa w S => ?_
  have S' := S.to [0, 1, 2] (trS R g rv k bb ty wa da wl wc dl dc sa sl sc) (by kernel_rfl) (by kernel_rfl) (by kernel_rfl) (by kernel_rfl) (by kernel_rfl)
  refine sy_at (k := (.rnd (n) (bodyL trC) :: trC.k.tail)) (by kernel_rfl) ?_
  exact ih _ aa w S'
end
section
variable (hX : rd16 R.L R.a (l, none) = ((v, ver, who, true), (l1, none))) (hv : ¬ ver > rv) (m : Int) (y3 : Bool) (x3 : CSt) (hZ : cdo (l1, none) ⟨1, atStatus R.L R.me, 0, 0⟩ = ((m, y3), x3))
include hX hv m y3 x3 hZ
set_option maxHeartbeats 8000000 in
theorem tr_doom (hk : m % 4 = 3) (bs : List Nat) (aa : Act) (w : World) (S : Sy w0 (some g) bs (trS R g rv k bb ty wa da wl wc dl dc sa sl sc) [rfCur g (l, none), rfSeen b o R.Q] aa w) : post Tryz.prog (.rnd (n + 1) (bodyL trC) :: trC.k.tail) (bodyPost Tryz.prog Tryz.f34 (fun e w' => e = .returned ((({ lost := true } : OutD), x3)).1.v ∧ CurAt w' g ((({ lost := true } : OutD), x3)).2 ∧ w0.grownBy w' (some g))) .normal aa w := by
  refine sy_run (c := ⟨(.rnd (n + 1) (bodyL trC) :: trC.k.tail), trS R g rv k bb ty wa da wl wc dl dc sa sl sc⟩) ⟨0, []⟩ 60 S fun bs aa w S => ?_
  refine sy_ldf S (curAt_stop S.cur) (by kernel_rfl) fun aa S => ?_
  refine sy_run ⟨0, []⟩ 60 S fun bs aa w S => ?_
  have hC := r16_any w g R.L hok R.a (l, none) hI0 S.cur
  rw [hX] at hC
  refine sy_cur (x' := (l1, none)) (v := .tuple #[.int .i64 v, .int .i64 ver, .int .i64 who, .bool true]) S (Or.inl rfl) hC (by kernel_rfl) (by intro f hf; simp at hf; subst hf; exact hsg) fun aa w S => ?_
  refine sy_run ⟨0, []⟩ 60 S fun bs aa w S => ?_
  refine sy_ldf S (curAt_stop S.cur) (by kernel_rfl) fun aa S => ?_
  refine sy_run ⟨0, [11]⟩ 60 S fun bs aa w S => ?_
  refine sy_reg S fun S => ?_
  refine sy_ops 4 S fun bs aa w S => ?_
  refine sy_cond false S (decide_eq_false hv : decide (ver > rv) = false) (by kernel_rfl) fun S => ?_
  refine sy_run ⟨0, []⟩ 60 S fun bs aa w S => ?_
  refine sy_call1 S (rstatus_any R.L R.me w hok) (by kernel_rfl) fun aa w hb S => ?_
  refine sy_run ⟨0, []⟩ 60 S fun bs aa w S => ?_
  have hL := fun w hc => rload_any02 w g (l1, none) (atStatus R.L R.me) hc
  rw [hZ] at hL
  refine sy_cur (x' := x3) (v := .int .i64 m) S (Or.inl rfl) (hL w S.cur) (by kernel_rfl) (by intro f hf; simp at hf; subst hf; exact hsg) fun aa w S => ?_
  refine sy_run ⟨0, [21]⟩ 60 S fun bs aa w S => ?_
  refine sy_reg S fun S => ?_
  refine sy_ops 1 S fun bs aa w S => ?_
  refine sy_call1 S (toBelow (rkind_any m w)) (by kernel_rfl) fun aa w hb S => ?_
  refine sy_ops 2 S fun bs aa w S => ?_
  refine sy_cond true S (decide_eq_true hk : decide (m % 4 = 3) = true) (by kernel_rfl) fun S => ?_
  refine sy_run ⟨0, []⟩ 60 S fun bs aa w S => ?_
  exact sy_ret S (by kernel_rfl) (by kernel_rfl) fun hg => ⟨rfl, S.cur, hg⟩
set_option maxHeartbeats 8000000 in
theorem tr_done (hk : ¬ m % 4 = 3) (bs : List Nat) (aa : Act) (w : World) (S : Sy w0 (some g) bs (trS R g rv k bb ty wa da wl wc dl dc sa sl sc) [rfCur g (l, none), rfSeen b o R.Q] aa w) : post Tryz.prog (.rnd (n + 1) (bodyL trC) :: trC.k.tail) (bodyPost Tryz.prog Tryz.f34 (fun e w' => e = .returned ((({ val := v, ver := ver, rv := rv, ok := true } : OutD), x3)).1.v ∧ CurAt w' g ((({ val := v, ver := ver, rv := rv, ok := true } : OutD), x3)).2 ∧ w0.grownBy w' (some g))) .normal aa w := by
  refine sy_run (c := ⟨(.rnd (n + 1) (bodyL trC) :: trC.k.tail), trS R g rv k bb ty wa da wl wc dl dc sa sl sc⟩) ⟨0, []⟩ 60 S fun bs aa w S => ?_
  refine sy_ldf S (curAt_stop S.cur) (by kernel_rfl) fun aa S => ?_
  refine sy_run ⟨0, []⟩ 60 S fun bs aa w S => ?_
  have hC := r16_any w g R.L hok R.a (l, none) hI0 S.cur
  rw [hX] at hC
  refine sy_cur (x' := (l1, none)) (v := .tuple #[.int .i64 v, .int .i64 ver, .int .i64 who, .bool true]) S (Or.inl rfl) hC (by kernel_rfl) (by intro f hf; simp at hf; subst hf; exact hsg) fun aa w S => ?_
  refine sy_run ⟨0, []⟩ 60 S fun bs aa w S => ?_
  refine sy_ldf S (curAt_stop S.cur) (by kernel_rfl) fun aa S => ?_
  refine sy_run ⟨0, [11]⟩ 60 S fun bs aa w S => ?_
  refine sy_reg S fun S => ?_
  refine sy_ops 4 S fun bs aa w S => ?_
  refine sy_cond false S (decide_eq_false hv : decide (ver > rv) = false) (by kernel_rfl) fun S => ?_
  refine sy_run ⟨0, []⟩ 60 S fun bs aa w S => ?_
  refine sy_call1 S (rstatus_any R.L R.me w hok) (by kernel_rfl) fun aa w hb S => ?_
  refine sy_run ⟨0, []⟩ 60 S fun bs aa w S => ?_
  have hL := fun w hc => rload_any02 w g (l1, none) (atStatus R.L R.me) hc
  rw [hZ] at hL
  refine sy_cur (x' := x3) (v := .int .i64 m) S (Or.inl rfl) (hL w S.cur) (by kernel_rfl) (by intro f hf; simp at hf; subst hf; exact hsg) fun aa w S => ?_
  refine sy_run ⟨0, [21]⟩ 60 S fun bs aa w S => ?_
  refine sy_reg S fun S => ?_
  refine sy_ops 1 S fun bs aa w S => ?_
  refine sy_call1 S (toBelow (rkind_any m w)) (by kernel_rfl) fun aa w hb S => ?_
  refine sy_ops 2 S fun bs aa w S => ?_
  refine sy_cond false S (decide_eq_false hk : decide (m % 4 = 3) = false) (by kernel_rfl) fun S => ?_
  refine sy_run ⟨0, []⟩ 60 S fun bs aa w S => ?_
  exact sy_ret S (by kernel_rfl) (by kernel_rfl) fun hg => ⟨rfl, S.cur, hg⟩
end
end
end
noncomputable def exC (n : Nat) : Cfg := ⟨goL 200 [1, 0, 0, 0, 1] (.code (bodyL trC) :: .rnd n (bodyL trC) :: trC.k.tail), ⟨0, [], []⟩⟩
section
variable (w0 : World) (g : Nat) (R : Rd) (hok : R.L.ok) (k bb ty : Int) (wa da : Option Addr) (wl wc dl dc : Nat) (sa : Option Addr) (sl sc : Nat) (b o : Nat) (hQ : R.Q.length = sl) (hsa : sl = 0 ∨ sa = some ⟨b, o, none⟩) (hsg : ¬ (rfSeen b o R.Q).bl g)
include w0 g R hok k bb ty wa da wl wc dl dc sa sl sc b o hQ hsa hsg
set_option maxHeartbeats 8000000 in
theorem ex_end (n r : Nat) (rv e : Int) (x : CSt) (y : OutD × CSt) (ih : ∀ (bs : List Nat) (aa : Act) (w : World) (S : Sy w0 (some g) bs (trS R g e k bb ty wa da wl wc dl dc sa sl sc) [rfCur g (x), rfSeen b o R.Q] aa w), post Tryz.prog (.rnd (n) (bodyL trC) :: trC.k.tail) (bodyPost Tryz.prog Tryz.f34 (fun e w' => e = .returned (y).1.v ∧ CurAt w' g (y).2 ∧ w0.grownBy w' (some g))) .normal aa w) (bs : List Nat) (aa : Act) (w : World) (S : Sy w0 (some g) bs (trE R g rv e sl k bb ty wa da wl wc dl dc sa sl sc) [rfCur g (x), rfSeen b o R.Q] aa w) : post Tryz.prog (.rnd (r + 1) (bodyL (exC n)) :: (exC n).k.tail) (bodyPost Tryz.prog Tryz.f34 (fun e w' => e = .returned (y).1.v ∧ CurAt w' g (y).2 ∧ w0.grownBy w' (some g))) .normal aa w := by
  refine sy_run (c := ⟨(.rnd (r + 1) (bodyL (exC n)) :: (exC n).k.tail), trE R g rv e sl k bb ty wa da wl wc dl dc sa sl sc⟩) ⟨0, [14]⟩ 60 S fun bs aa w S => ?_
  refine sy_reg S fun S => ?_
  refine sy_ops 6 S fun bs aa w S => ?_
  refine sy_cond false S (by simp : decide ((sl : Int) < (sl : Int)) = false) (by kernel_rfl) fun S => ?_
  refine sy_run ⟨0, [999]⟩ 60 S fun bs aa w S => ?_
  have S' := S.to [0, 1, 2] (trS R g e k bb ty wa da wl wc dl dc sa sl sc) (by kernel_rfl) (by kernel_rfl) (by kernel_rfl) (by kernel_rfl) (by kernel_rfl)
  refine sy_at (k := (.rnd (n) (bodyL trC) :: trC.k.tail)) (by kernel_rfl) ?_
  exact ih _ aa w S'
set_option maxHeartbeats 8000000 in
theorem ex_lost (n r j : Nat) (hj : j < sl) (rv e : Int) (x x' : CSt) (hI : ∀ y ∈ x.1, I64 y.1) (hX : keepsS R (R.Q.getD j (0, 0, 0)) (x.1.length + 1) x = (false, x')) (bs : List Nat) (aa : Act) (w : World) (S : Sy w0 (some g) bs (trE R g rv e j k bb ty wa da wl wc dl dc sa sl sc) [rfCur g (x), rfSeen b o R.Q] aa w) : post Tryz.prog (.rnd (r + 1) (bodyL (exC n)) :: (exC n).k.tail) (bodyPost Tryz.prog Tryz.f34 (fun e w' => e = .returned ((({ lost := true } : OutD), x')).1.v ∧ CurAt w' g ((({ lost := true } : OutD), x')).2 ∧ w0.grownBy w' (some g))) .normal aa w := by
  refine sy_run (c := ⟨(.rnd (r + 1) (bodyL (exC n)) :: (exC n).k.tail), trE R g rv e j k bb ty wa da wl wc dl dc sa sl sc⟩) ⟨0, [14]⟩ 60 S fun bs aa w S => ?_
  refine sy_reg S fun S => ?_
  refine sy_ops 6 S fun bs aa w S => ?_
  refine sy_cond true S (by simp; omega : decide ((j : Int) < (sl : Int)) = true) (by kernel_rfl) fun S => ?_
  refine sy_run ⟨0, []⟩ 60 S fun bs aa w S => ?_
  refine dr_enter [0, 1] (by kernel_rfl) (by kernel_rfl) S (by kernel_rfl) fun aa w D => ?_
  refine dr_ix 6 (b := b) (off := o) (len := sl) (n := j) (size := 3) (ix := (j : Int)) D (by kernel_rfl) (by kernel_rfl) (by kernel_rfl) (by rw [← hsa.resolve_left (by omega)]; kernel_rfl) rfl hj fun aa D => ?_
  refine dr_ldo 7 D (by kernel_rfl) (by kernel_rfl) (by kernel_rfl) (ld_seen (j := j) (D.S.fact (f := rfSeen b o R.Q) (by simp)) (by omega)) (by kernel_rfl) fun aa D => ?_
  have hC := keeps_any w g R hok (R.Q.getD j (0, 0, 0)) x hI (D.S.fact (f := rfCur g x) (by simp))
  rw [hX] at hC
  have hap := (D.S.fs (rfCur g x) (by simp)).2
  refine dr_callG 10 D (Or.inl rfl) (by kernel_rfl) (by kernel_rfl) (by kernel_rfl) (v := .bool false) (C := fun w' => CurAt w' g x') hC (by kernel_rfl) (F' := [rfSeen b o R.Q]) (by intro f hf; simp at hf; subst hf; exact ⟨by simp, hsg⟩) (fun i hi he => hap i hi (by show _ ≤ g; omega)) fun aa w hR D => ?_
  have D := D.addF (rfCur g x') hR hap
  refine dr_end D (by kernel_rfl) fun S => ?_
  refine sy_run ⟨0, []⟩ 60 S fun bs aa w S => ?_
  exact sy_ret S (by kernel_rfl) (by kernel_rfl) fun hg => ⟨rfl, S.cur, hg⟩
set_option maxHeartbeats 8000000 in
theorem ex_go (hsl : sl ≤ 1000000) (n r j : Nat) (hj : j < sl) (rv e : Int) (x x' : CSt) (hI : ∀ y ∈ x.1, I64 y.1) (hX : keepsS R (R.Q.getD j (0, 0, 0)) (x.1.length + 1) x = (true, x')) (y : OutD × CSt) (ih : ∀ (bs : List Nat) (aa : Act) (w : World) (S : Sy w0 (some g) bs (trE R g rv e (j + 1) k bb ty wa da wl wc dl dc sa sl sc) [rfCur g (x'), rfSeen b o R.Q] aa w), post Tryz.prog (.rnd (r) (bodyL (exC n)) :: (exC n).k.tail) (bodyPost Tryz.prog Tryz.f34 (fun e w' => e = .returned (y).1.v ∧ CurAt w' g (y).2 ∧ w0.grownBy w' (some g))) .normal aa w) (bs : List Nat) (aa : Act) (w : World) (S : Sy w0 (some g) bs (trE R g rv e j k bb ty wa da wl wc dl dc sa sl sc) [rfCur g (x), rfSeen b o R.Q] aa w) : post Tryz.prog (.rnd (r + 1) (bodyL (exC n)) :: (exC n).k.tail) (bodyPost Tryz.prog Tryz.f34 (fun e w' => e = .returned (y).1.v ∧ CurAt w' g (y).2 ∧ w0.grownBy w' (some g))) .normal aa w := by
  refine sy_run (c := ⟨(.rnd (r + 1) (bodyL (exC n)) :: (exC n).k.tail), trE R g rv e j k bb ty wa da wl wc dl dc sa sl sc⟩) ⟨0, [14]⟩ 60 S fun bs aa w S => ?_
  refine sy_reg S fun S => ?_
  refine sy_ops 6 S fun bs aa w S => ?_
  refine sy_cond true S (by simp; omega : decide ((j : Int) < (sl : Int)) = true) (by kernel_rfl) fun S => ?_
  refine sy_run ⟨0, []⟩ 60 S fun bs aa w S => ?_
  refine dr_enter [0, 1] (by kernel_rfl) (by kernel_rfl) S (by kernel_rfl) fun aa w D => ?_
  refine dr_ix 6 (b := b) (off := o) (len := sl) (n := j) (size := 3) (ix := (j : Int)) D (by kernel_rfl) (by kernel_rfl) (by kernel_rfl) (by rw [← hsa.resolve_left (by omega)]; kernel_rfl) rfl hj fun aa D => ?_
  refine dr_ldo 7 D (by kernel_rfl) (by kernel_rfl) (by kernel_rfl) (ld_seen (j := j) (D.S.fact (f := rfSeen b o R.Q) (by simp)) (by omega)) (by kernel_rfl) fun aa D => ?_
  have hC := keeps_any w g R hok (R.Q.getD j (0, 0, 0)) x hI (D.S.fact (f := rfCur g x) (by simp))
  rw [hX] at hC
  have hap := (D.S.fs (rfCur g x) (by simp)).2
  refine dr_callG 10 D (Or.inl rfl) (by kernel_rfl) (by kernel_rfl) (by kernel_rfl) (v := .bool true) (C := fun w' => CurAt w' g x') hC (by kernel_rfl) (F' := [rfSeen b o R.Q]) (by intro f hf; simp at hf; subst hf; exact ⟨by simp, hsg⟩) (fun i hi he => hap i hi (by show _ ≤ g; omega)) fun aa w hR D => ?_
  have D := D.addF (rfCur g x') hR hap
  refine dr_end D (by kernel_rfl) fun S => ?_
  refine sy_run ⟨0, [15]⟩ 60 S fun bs aa w S => ?_
  refine sy_reg S fun S => ?_
  refine sy_ops 2 S fun bs aa w S => ?_
  refine sy_cast 75 S (congrArg (Value.int .i64) (by rw [IntKind.wrap_i64]; omega : IntKind.i64.wrap ((j : Int) + 1) = ((j + 1 : Nat) : Int))) (by kernel_rfl) fun S => ?_
  refine sy_run ⟨0, [999]⟩ 60 S fun bs aa w S => ?_
  have S' := S.to [0, 1, 2] (trE R g rv e (j + 1) k bb ty wa da wl wc dl dc sa sl sc) (by kernel_rfl) (by kernel_rfl) (by kernel_rfl) (by kernel_rfl) (by kernel_rfl)
  refine sy_at (k := (.rnd (r) (bodyL (exC n)) :: (exC n).k.tail)) (by kernel_rfl) ?_
  exact ih _ aa w S'
theorem ex_all (hsl : sl ≤ 1000000) (n : Nat) (rv e : Int) (F : CSt → OutD × CSt) : ∀ (r j : Nat), j + r = sl → ∀ (x : CSt) (hI : ∀ y ∈ x.1, I64 y.1) (ih : ∀ y, allK R (R.Q.drop j) x = (true, y) → ∀ (bs : List Nat) (aa : Act) (w : World) (S : Sy w0 (some g) bs (trS R g e k bb ty wa da wl wc dl dc sa sl sc) [rfCur g (y), rfSeen b o R.Q] aa w), post Tryz.prog (.rnd (n) (bodyL trC) :: trC.k.tail) (bodyPost Tryz.prog Tryz.f34 (fun e w' => e = .returned (F y).1.v ∧ CurAt w' g (F y).2 ∧ w0.grownBy w' (some g))) .normal aa w) (bs : List Nat) (aa : Act) (w : World) (S : Sy w0 (some g) bs (trE R g rv e j k bb ty wa da wl wc dl dc sa sl sc) [rfCur g (x), rfSeen b o R.Q] aa w), post Tryz.prog (.rnd (r + 1) (bodyL (exC n)) :: (exC n).k.tail) (bodyPost Tryz.prog Tryz.f34 (fun e w' => e = .returned (match allK R (R.Q.drop j) x with | (false, y) => (({ lost := true } : OutD), y) | (true, y) => F y).1.v ∧ CurAt w' g (match allK R (R.Q.drop j) x with | (false, y) => (({ lost := true } : OutD), y) | (true, y) => F y).2 ∧ w0.grownBy w' (some g))) .normal aa w := by
  intro r
  induction r with
  | zero =>
    intro j hj x hI ih bs aa w S
    obtain rfl : j = sl := by omega
    rw [List.drop_of_length_le (by omega)] at ih ⊢
    exact ex_end w0 g R hok k bb ty wa da wl wc dl dc sa j sc b o hQ hsa hsg n 0 rv e x (F x) (ih x rfl) bs aa w S
  | succ r ihr =>
    intro j hj x hI ih bs aa w S
    rw [drop_at (by omega)] at ih ⊢
    have hr := keepsS_rest R (R.Q.getD j (0, 0, 0)) (x.1.length + 1) x
    obtain ⟨⟨kb, x'⟩, hX⟩ : ∃ X, keepsS R (R.Q.getD j (0, 0, 0)) (x.1.length + 1) x = X := ⟨_, rfl⟩
    rw [hX] at hr
    simp only [allK, hX] at ih ⊢
    cases kb with
    | false => exact ex_lost w0 g R hok k bb ty wa da wl wc dl dc sa sl sc b o hQ hsa hsg n (r + 1) j (by omega) rv e x x' hI hX bs aa w S
    | true => exact ex_go w0 g R hok k bb ty wa da wl wc dl dc sa sl sc b o hQ hsa hsg hsl n (r + 1) j (by omega) rv e x x' hI hX _ (fun bs aa w S => ihr (j + 1) (by omega) x' (fun y hy => hI y (hr.1 y hy)) ih bs aa w S) bs aa w S
set_option maxHeartbeats 8000000 in
theorem tr_ext (hsl : sl ≤ 1000000) (n : Nat) (rv : Int) (l l1 : List (Int × Bool)) (hI0 : I64 (cdo (l, none) ⟨1, atWord R.L R.a, 0, 0⟩).1.1) (v ver who : Int) (hX : rd16 R.L R.a (l, none) = ((v, ver, who, true), (l1, none))) (hv : ver > rv) (m : Int) (y3 : Bool) (x3 : CSt) (hZ : cdo (l1, none) ⟨1, R.L.clock, 0, 0⟩ = ((m, y3), x3)) (hI3 : ∀ y ∈ x3.1, I64 y.1) (F : CSt → OutD × CSt) (ih : ∀ y, allK R R.Q x3 = (true, y) → ∀ (bs : List Nat) (aa : Act) (w : World) (S : Sy w0 (some g) bs (trS R g m k bb ty wa da wl wc dl dc sa sl sc) [rfCur g (y), rfSeen b o R.Q] aa w), post Tryz.prog (.rnd (n) (bodyL trC) :: trC.k.tail) (bodyPost Tryz.prog Tryz.f34 (fun e w' => e = .returned (F y).1.v ∧ CurAt w' g (F y).2 ∧ w0.grownBy w' (some g))) .normal aa w) (bs : List Nat) (aa : Act) (w : World) (S : Sy w0 (some g) bs (trS R g rv k bb ty wa da wl wc dl dc sa sl sc) [rfCur g (l, none), rfSeen b o R.Q] aa w) : post Tryz.prog (.rnd (n + 1) (bodyL trC) :: trC.k.tail) (bodyPost Tryz.prog Tryz.f34 (fun e w' => e = .returned (match allK R R.Q x3 with | (false, y) => (({ lost := true } : OutD), y) | (true, y) => F y).1.v ∧ CurAt w' g (match allK R R.Q x3 with | (false, y) => (({ lost := true } : OutD), y) | (true, y) => F y).2 ∧ w0.grownBy w' (some g))) .normal aa w := by
  refine sy_run (c := ⟨(.rnd (n + 1) (bodyL trC) :: trC.k.tail), trS R g rv k bb ty wa da wl wc dl dc sa sl sc⟩) ⟨0, []⟩ 60 S fun bs aa w S => ?_
  refine sy_ldf S (curAt_stop S.cur) (by kernel_rfl) fun aa S => ?_
  refine sy_run ⟨0, []⟩ 60 S fun bs aa w S => ?_
  have hC := r16_any w g R.L hok R.a (l, none) hI0 S.cur
  rw [hX] at hC
  refine sy_cur (x' := (l1, none)) (v := .tuple #[.int .i64 v, .int .i64 ver, .int .i64 who, .bool true]) S (Or.inl rfl) hC (by kernel_rfl) (by intro f hf; simp at hf; subst hf; exact hsg) fun aa w S => ?_
  refine sy_run ⟨0, []⟩ 60 S fun bs aa w S => ?_
  refine sy_ldf S (curAt_stop S.cur) (by kernel_rfl) fun aa S => ?_
  refine sy_run ⟨0, [11]⟩ 60 S fun bs aa w S => ?_
  refine sy_reg S fun S => ?_
  refine sy_ops 4 S fun bs aa w S => ?_
  refine sy_cond true S (decide_eq_true hv : decide (ver > rv) = true) (by kernel_rfl) fun S => ?_
  refine sy_run ⟨0, []⟩ 60 S fun bs aa w S => ?_
  have hL := fun w hc => rload_any02 w g (l1, none) (R.L.clock) hc
  rw [hZ] at hL
  refine sy_cur (x' := x3) (v := .int .i64 m) S (Or.inl rfl) (hL w S.cur) (by kernel_rfl) (by intro f hf; simp at hf; subst hf; exact hsg) fun aa w S => ?_
  refine sy_run ⟨0, []⟩ 60 S fun bs aa w S => ?_
  have S' := S.to [0, 1, 2] (trE R g rv m 0 k bb ty wa da wl wc dl dc sa sl sc) (by kernel_rfl) (by kernel_rfl) (by kernel_rfl) (by kernel_rfl) (by kernel_rfl)
  refine sy_loop (sl + 1) (by kernel_rfl) ?_
  refine post_at (k' := (.rnd (sl + 1) (bodyL (exC n)) :: (exC n).k.tail)) (by kernel_rfl) ?_
  exact ex_all w0 g R hok k bb ty wa da wl wc dl dc sa sl sc b o hQ hsa hsg hsl n rv m F sl 0 (by omega) x3 hI3 ih _ aa w S'
end
theorem triedS_stop (R : Rd) (n : Nat) (rv : Int) (l : List (Int × Bool)) (q : Ask) : triedS R n rv (l, some q) = ({}, (l, some q)) := by cases n <;> rfl
section
variable (w0 : World) (g : Nat) (R : Rd) (hok : R.L.ok) (k bb ty : Int) (wa da : Option Addr) (wl wc dl dc : Nat) (sa : Option Addr) (sl sc : Nat) (b o : Nat) (hQ : R.Q.length = sl) (hsa : sl = 0 ∨ sa = some ⟨b, o, none⟩) (hsg : ¬ (rfSeen b o R.Q).bl g) (hsl : sl ≤ 1000000)
include w0 g R hok k bb ty wa da wl wc dl dc sa sl sc b o hQ hsa hsg hsl
theorem tr_all : ∀ (n : Nat) (rv : Int) (x : CSt), x.1.length < n → (∀ y ∈ x.1, I64 y.1) → ∀ (bs : List Nat) (aa : Act) (w : World) (S : Sy w0 (some g) bs (trS R g rv k bb ty wa da wl wc dl dc sa sl sc) [rfCur g (x), rfSeen b o R.Q] aa w), post Tryz.prog (.rnd (n) (bodyL trC) :: trC.k.tail) (bodyPost Tryz.prog Tryz.f34 (fun e w' => e = .returned (triedS R n rv x).1.v ∧ CurAt w' g (triedS R n rv x).2 ∧ w0.grownBy w' (some g))) .normal aa w := by
  intro n
  induction n with
  | zero => intro rv x h; omega
  | succ n ih =>
    intro rv x hx hI bs aa w S
    obtain ⟨l, oq⟩ := x
    cases oq with
    | some q => exact tr_stop w0 g R hok k bb ty wa da wl wc dl dc sa sl sc b o hQ hsa hsg n rv l q bs aa w S
    | none =>
      have hI0 : I64 (cdo (l, none) ⟨1, atWord R.L R.a, 0, 0⟩).1.1 := by
        rcases l with _ | ⟨r, l⟩
        · show I64 0; unfold I64; omega
        · exact hI r (by simp)
      have hrest : (∀ y ∈ (rd16 R.L R.a (l, none)).2.1, y ∈ l) ∧ ((rd16 R.L R.a (l, none)).2.2 = none → (rd16 R.L R.a (l, none)).2.1.length < l.length) := by
        rcases l with _ | ⟨r, l⟩
        · obtain ⟨X, e⟩ := rd16_nil R.L R.a
          rw [e]
          exact ⟨fun y h => h, fun h => by cases h⟩
        · have h := rd16_rest R.L R.a r l
          exact ⟨fun y hy => List.mem_cons_of_mem _ (h.1 y hy), fun _ => by have := h.2; simp; omega⟩
      obtain ⟨⟨⟨v, ver, who, ok⟩, l1, q1⟩, hX⟩ : ∃ X, rd16 R.L R.a (l, none) = X := ⟨_, rfl⟩
      rw [hX] at hrest
      have e : triedS R (n + 1) rv (l, none) = (match rd16 R.L R.a (l, none) with
          | (_, (l1, some q)) => ({}, (l1, some q))
          | ((v, ver, who, ok), (l1, none)) => match ok with
            | false => if who ≥ 0 then (match (askS R who (l1, none)).1.lost with
                | true => ({ lost := true }, (askS R who (l1, none)).2)
                | false => triedS R n rv (askS R who (l1, none)).2) else triedS R n rv (l1, none)
            | true => if ver > rv then (match allK R R.Q (cdo (l1, none) ⟨1, R.L.clock, 0, 0⟩).2 with
                | (false, y) => ({ lost := true }, y)
                | (true, y) => triedS R n (cdo (l1, none) ⟨1, R.L.clock, 0, 0⟩).1.1 y)
              else if (cdo (l1, none) ⟨1, atStatus R.L R.me, 0, 0⟩).1.1 % 4 = 3 then ({ lost := true }, (cdo (l1, none) ⟨1, atStatus R.L R.me, 0, 0⟩).2)
              else ({ val := v, ver := ver, rv := rv, ok := true }, (cdo (l1, none) ⟨1, atStatus R.L R.me, 0, 0⟩).2)) := rfl
      rw [e, hX]
      have hlt : l.length ≤ n := by simp at hx; omega
      cases q1 with
      | some q =>
        cases ok with
        | true => exact tr_qt w0 g R hok k bb ty wa da wl wc dl dc sa sl sc b o hQ hsa hsg n rv q l l1 hI0 v ver who hX bs aa w S
        | false => exact tr_qf w0 g R hok k bb ty wa da wl wc dl dc sa sl sc b o hQ hsa hsg n rv q l l1 hI0 v ver who hX bs aa w S
      | none =>
        have h1l := hrest.2 rfl
        simp only at h1l
        have hI1 : ∀ y ∈ l1, I64 y.1 := fun y hy => hI y (hrest.1 y hy)
        cases ok with
        | false =>
          by_cases hw : who ≥ 0
          · simp only [if_pos hw]
            have hr := askS_rest R who (l1, none)
            obtain ⟨v2, b2, hv2⟩ : ∃ v b, (askS R who (l1, none)).1 = { val := v, lost := b } := by
              unfold askS
              by_cases hc : who = R.me ∨ atStatus R.L who < 0
              · rw [if_pos hc]; exact ⟨_, _, rfl⟩
              · rw [if_neg hc]; exact ⟨_, _, rfl⟩
            obtain ⟨⟨o2, x'⟩, hY⟩ : ∃ X, askS R who (l1, none) = X := ⟨_, rfl⟩
            rw [hY] at hv2 hr ⊢
            simp only at hv2 hr ⊢
            subst hv2
            cases b2 with
            | true => exact tr_lost w0 g R hok k bb ty wa da wl wc dl dc sa sl sc b o hQ hsa hsg n rv l l1 hI0 v ver who hX hw hI1 v2 x' hY bs aa w S
            | false => exact tr_go w0 g R hok k bb ty wa da wl wc dl dc sa sl sc b o hQ hsa hsg n rv l l1 hI0 v ver who hX hw hI1 v2 x' hY _ (fun bs aa w S => ih rv x' (by have := hr.2; omega) (fun y hy => hI1 y (hr.1 y hy)) bs aa w S) bs aa w S
          · simp only [if_neg hw]
            exact tr_no w0 g R hok k bb ty wa da wl wc dl dc sa sl sc b o hQ hsa hsg n rv l l1 hI0 v ver who hX hw _ (fun bs aa w S => ih rv (l1, none) (by simp; omega) hI1 bs aa w S) bs aa w S
        | true =>
          by_cases hv : ver > rv
          · simp only [if_pos hv]
            have hr := cdo_rest (l1, none) ⟨1, R.L.clock, 0, 0⟩
            obtain ⟨⟨⟨m, y3⟩, x3⟩, hZ⟩ : ∃ X, cdo (l1, none) ⟨1, R.L.clock, 0, 0⟩ = X := ⟨_, rfl⟩
            rw [hZ] at hr ⊢
            simp only at hr ⊢
            have ha := allK_rest R R.Q x3
            exact tr_ext w0 g R hok k bb ty wa da wl wc dl dc sa sl sc b o hQ hsa hsg hsl n rv l l1 hI0 v ver who hX hv m y3 x3 hZ (fun y hy => hI1 y (hr.1 y hy)) (fun y => triedS R n m y) (fun y hy bs aa w S => by
              rw [hy] at ha
              exact ih m y (by have := ha.2; have := hr.2; simp at *; omega) (fun z hz => hI1 z (hr.1 z (ha.1 z hz))) bs aa w S) bs aa w S
          · simp only [if_neg hv]
            obtain ⟨⟨⟨m, y3⟩, x3⟩, hZ⟩ : ∃ X, cdo (l1, none) ⟨1, atStatus R.L R.me, 0, 0⟩ = X := ⟨_, rfl⟩
            rw [hZ]
            by_cases hk : m % 4 = 3
            · simp only [if_pos hk]
              exact tr_doom w0 g R hok k bb ty wa da wl wc dl dc sa sl sc b o hQ hsa hsg n rv l l1 hI0 v ver who hX hv m y3 x3 hZ hk bs aa w S
            · simp only [if_neg hk]
              exact tr_done w0 g R hok k bb ty wa da wl wc dl dc sa sl sc b o hQ hsa hsg n rv l l1 hI0 v ver who hX hv m y3 x3 hZ hk bs aa w S
set_option maxHeartbeats 8000000 in
theorem tried_any (x : CSt) (hI : ∀ y ∈ x.1, I64 y.1) (hR : CurAt w0 g x) (hA : SeenAt w0 b o R.Q) : Calls Tryz.prog 34 #[.pointer (some ⟨g, 0, none⟩), R.L.v, .int .i64 R.me, .agg #[.int .i64 k, .int .i64 R.a, .int .i64 bb, .int .i64 ty, .int .i64 R.m.s, .int .i64 R.m.k, .int .i64 R.m.a, .slice sa sl sc, .slice wa wl wc, .slice da dl dc]] w0 (fun e w' => e = .returned (triedS R (x.1.length + 1) bb x).1.v ∧ CurAt w' g (triedS R (x.1.length + 1) bb x).2 ∧ w0.grownBy w' (some g)) := by
  refine sy_enterF (some g) [rfCur g (x), rfSeen b o R.Q] (by
    intro f hf
    simp only [List.mem_cons, List.not_mem_nil, or_false] at hf
    rcases hf with rfl | rfl
    · exact hR
    · exact hA) Tryz.func34 rfl fun aa S => ?_
  refine sy_run ⟨0, []⟩ 60 S fun bs aa w S => ?_
  have S' := S.to [0, 1, 2] (trS R g bb k bb ty wa da wl wc dl dc sa sl sc) (by kernel_rfl) (by kernel_rfl) (by kernel_rfl) (by kernel_rfl) (by kernel_rfl)
  refine sy_loop (x.1.length + 1) (by kernel_rfl) ?_
  refine post_at (k' := (.rnd (x.1.length + 1) (bodyL trC) :: trC.k.tail)) (by kernel_rfl) ?_
  exact tr_all w0 g R hok k bb ty wa da wl wc dl dc sa sl sc b o hQ hsa hsg hsl (x.1.length + 1) bb x (by omega) hI _ aa w S'
end
end Go.Proofs.YtfahnmpcclhjlaaGreat

namespace Go.Proofs.YtfahnmpcclhjlaaGreat
open Go Go.RowKit SX
set_option linter.unusedVariables false
set_option linter.unusedSectionVars false
set_option linter.unusedSimpArgs false
set_option maxRecDepth 100000
attribute [local irreducible] post GD
def outX (R : Rd) : CSt → CSt
  | (l, some q) => (l, some q)
  | (l, none) => (runP (fun m => !isIn m R.me) (fun m => sansT m R.me) (atReaders R.L R.a) l).2
def showX (R : Rd) (nd : Bool) (l : List (Int × Bool)) : Bool × CSt := match nd with
  | true => runP (fun m => isIn m R.me) (fun m => withT m R.me) (atReaders R.L R.a) l
  | false => (false, (l, none))
def readS (R : Rd) (rv : Int) (nd : Bool) (l : List (Int × Bool)) : OutD × CSt :=
  match (triedS R ((showX R nd l).2.1.length + 1) rv (showX R nd l).2).1.lost && (showX R nd l).1 with
  | true => ((triedS R ((showX R nd l).2.1.length + 1) rv (showX R nd l).2).1, outX R (triedS R ((showX R nd l).2.1.length + 1) rv (showX R nd l).2).2)
  | false => triedS R ((showX R nd l).2.1.length + 1) rv (showX R nd l).2
theorem runP_rest {has : Int → Bool} {ap : Int → Int} (cell : Int) (N : Nat) : ∀ l : List (Int × Bool), l.length < N → (∀ x ∈ (runP has ap cell l).2.1, x ∈ l) ∧ (runP has ap cell l).2.1.length ≤ l.length := by
  induction N with
  | zero => intro l h; omega
  | succ N ih =>
    intro l hl
    rcases l with _ | ⟨r, l⟩
    · exact ⟨fun x hx => hx, Nat.le_refl _⟩
    · by_cases h2 : has r.1 = true
      · have e1 : runP has ap cell (r :: l) = (false, (l, none)) := by unfold runP; rw [if_pos h2]
        rw [e1]
        exact ⟨fun x hx => List.mem_cons_of_mem _ hx, by simp⟩
      · rcases l with _ | ⟨⟨y, b⟩, l⟩
        · have e1 : runP has ap cell [r] = (false, ([], some ⟨3, cell, r.1, ap r.1⟩)) := by unfold runP; rw [if_neg h2]
          rw [e1]
          exact ⟨fun x hx => by simp at hx, by simp⟩
        · cases b with
          | true =>
            have e1 : runP has ap cell (r :: (y, true) :: l) = (true, (l, none)) := by unfold runP; rw [if_neg h2]
            rw [e1]
            exact ⟨fun x hx => by simp [show x ∈ l from hx], by simp; omega⟩
          | false =>
            have e1 : runP has ap cell (r :: (y, false) :: l) = runP has ap cell l := by conv => lhs; unfold runP; rw [if_neg h2]
            rw [e1]
            obtain ⟨i1, i2⟩ := ih l (by simp at hl; omega)
            exact ⟨fun x hx => by simp [i1 x hx], by simp; omega⟩
theorem showX_rest (R : Rd) (nd : Bool) (l : List (Int × Bool)) : ∀ y ∈ (showX R nd l).2.1, y ∈ l := by
  cases nd with
  | false => exact fun y h => h
  | true => exact (runP_rest (atReaders R.L R.a) (l.length + 1) l (by omega)).1
theorem triedS_rest (R : Rd) : ∀ (n : Nat) (rv : Int) (x : CSt), ∀ y ∈ (triedS R n rv x).2.1, y ∈ x.1
  | 0, _, x, y, h => h
  | n + 1, rv, (l, some q), y, h => h
  | n + 1, rv, (l, none), y, h => by
    have hrest : ∀ y ∈ (rd16 R.L R.a (l, none)).2.1, y ∈ l := by
      rcases l with _ | ⟨r, l⟩
      · obtain ⟨X, e⟩ := rd16_nil R.L R.a
        rw [e]
        exact fun y h => h
      · exact fun y hy => List.mem_cons_of_mem _ ((rd16_rest R.L R.a r l).1 y hy)
    simp only [triedS] at h
    obtain ⟨⟨⟨v, ver, who, ok⟩, l1, q1⟩, hX⟩ : ∃ X, rd16 R.L R.a (l, none) = X := ⟨_, rfl⟩
    rw [hX] at hrest h
    refine hrest y ?_
    cases q1 with
    | some q => exact h
    | none =>
      cases ok with
      | false =>
        simp only at h
        split at h
        · split at h
          · exact (askS_rest R who (l1, none)).1 y h
          · exact (askS_rest R who (l1, none)).1 y (triedS_rest R n rv _ y h)
        · exact triedS_rest R n rv _ y h
      | true =>
        simp only at h
        split at h
        · have hk := (allK_rest R R.Q (cdo (l1, none) ⟨1, R.L.clock, 0, 0⟩).2).1
          have hc := (cdo_rest (l1, none) ⟨1, R.L.clock, 0, 0⟩).1
          split at h
          · rename_i y' e
            rw [e] at hk
            exact hc y (hk y h)
          · rename_i y' e
            rw [e] at hk
            exact hc y (hk y (triedS_rest R n _ y' y h))
        · split at h
          · exact (cdo_rest (l1, none) ⟨1, atStatus R.L R.me, 0, 0⟩).1 y h
          · exact (cdo_rest (l1, none) ⟨1, atStatus R.L R.me, 0, 0⟩).1 y h
set_option maxHeartbeats 8000000 in
theorem pout_stop (cell me : Int) (g : Nat) (l : List (Int × Bool)) (q : Ask) (w0 : World) (hR : CurAt w0 g (l, some q)) : Calls Tryz.prog 35 #[.pointer (some ⟨g, 0, none⟩), .int .i64 cell, .int .i64 me] w0 fun e w' => e = .returned (.bool false) ∧ CurAt w' g (l, some q) ∧ w0.grownBy w' (some g) := by
  refine sy_enterF (some g) [rfCur g (l, some q)] (by intro f hf; simp at hf; subst hf; exact hR) Tryz.func35 rfl fun aa S => ?_
  refine sy_run ⟨0, []⟩ 60 S fun bs aa w S => ?_
  refine sy_loop 1 (by kernel_rfl) ?_
  refine sy_run (c := ⟨.rnd 1 (bodyL _) :: (Cfg.k _).tail, _⟩) ⟨0, []⟩ 60 S fun bs aa w S => ?_
  refine sy_ldf S (curAt_stop S.cur) (by kernel_rfl) fun aa S => ?_
  refine sy_run ⟨0, []⟩ 60 S fun bs aa w S => ?_
  exact sy_ret S (by kernel_rfl) (by kernel_rfl) fun hg => ⟨rfl, S.cur, hg⟩
theorem outX_any (R : Rd) (g : Nat) (x : CSt) (hI : ∀ y ∈ x.1, I64 y.1) (w0 : World) (hR : CurAt w0 g x) : ∃ b, Calls Tryz.prog 35 #[.pointer (some ⟨g, 0, none⟩), .int .i64 (atReaders R.L R.a), .int .i64 R.me] w0 fun e w' => e = .returned (.bool b) ∧ CurAt w' g (outX R x) ∧ w0.grownBy w' (some g) := by
  obtain ⟨l, oq⟩ := x
  cases oq with
  | some q => exact ⟨_, pout_stop _ _ g l q w0 hR⟩
  | none => exact ⟨_, pout_any (atReaders R.L R.a) R.me g l hI w0 hR⟩
section
variable (w0 : World) (g : Nat) (R : Rd) (hok : R.L.ok) (k bb ty : Int) (wa da : Option Addr) (wl wc dl dc : Nat) (sa : Option Addr) (sl sc : Nat) (b o : Nat) (hQ : R.Q.length = sl) (hsa : sl = 0 ∨ sa = some ⟨b, o, none⟩) (hsg : ¬ (rfSeen b o R.Q).bl g) (hsl : sl ≤ 1000000)
include w0 g R hok k bb ty wa da wl wc dl dc sa sl sc b o hQ hsa hsg hsl
section
variable (hnd : needsV R.L.c.m R.m.a = true) (l : List (Int × Bool)) (hI : ∀ y ∈ l, I64 y.1) (hR : CurAt w0 g (l, none)) (hA : SeenAt w0 b o R.Q) (x1 : CSt)
include hnd l hI hR hA x1
section
variable (hP : runP (fun m => isIn m R.me) (fun m => withT m R.me) (atReaders R.L R.a) l = (true, x1)) (hI1 : ∀ y ∈ x1.1, I64 y.1) (x2 : CSt) (hI2 : ∀ y ∈ x2.1, I64 y.1) (val ver rv st : Int) (ok : Bool) (err : Int)
include hP hI1 x2 hI2 val ver rv st ok err
set_option maxHeartbeats 8000000 in
theorem rr_stt (hX : triedS R (x1.1.length + 1) bb x1 = (⟨val, ver, rv, st, ok, true, err⟩, x2)) : Calls Tryz.prog 21 #[.pointer (some ⟨g, 0, none⟩), R.L.v, .int .i64 R.me, .agg #[.int .i64 k, .int .i64 R.a, .int .i64 bb, .int .i64 ty, .int .i64 R.m.s, .int .i64 R.m.k, .int .i64 R.m.a, .slice sa sl sc, .slice wa wl wc, .slice da dl dc]] w0 (fun e w' => e = .returned (((⟨val, ver, rv, st, ok, true, err⟩ : OutD), outX R x2)).1.v ∧ CurAt w' g (((⟨val, ver, rv, st, ok, true, err⟩ : OutD), outX R x2)).2 ∧ w0.grownBy w' (some g)) := by
  refine sy_enterF (some g) [rfCur g (l, none), rfSeen b o R.Q] (by
    intro f hf
    simp only [List.mem_cons, List.not_mem_nil, or_false] at hf
    rcases hf with rfl | rfl
    · exact hR
    · exact hA) Tryz.func21 rfl fun aa S => ?_
  refine sy_run ⟨0, []⟩ 60 S fun bs aa w S => ?_
  have hN := rneeds_any w R.L R.m.s R.m.k R.m.a
  rw [hnd] at hN
  refine sy_call1 S hN (by kernel_rfl) fun aa w hb S => ?_
  refine sy_run ⟨0, []⟩ 60 S fun bs aa w S => ?_
  refine sy_call1 S (rreaders_any R.L R.a w hok) (by kernel_rfl) fun aa w hb S => ?_
  refine sy_run ⟨0, []⟩ 60 S fun bs aa w S => ?_
  have hC := pput_any (atReaders R.L R.a) R.me g l hI w S.cur
  rw [hP] at hC
  refine sy_cur (x' := x1) (v := .bool true) S (Or.inl rfl) hC (by kernel_rfl) (by intro f hf; simp at hf; subst hf; exact hsg) fun aa w S => ?_
  refine sy_run ⟨0, []⟩ 60 S fun bs aa w S => ?_
  have hT := tried_any w g R hok k bb ty wa da wl wc dl dc sa sl sc b o hQ hsa hsg hsl x1 hI1 S.cur (S.fact (f := rfSeen b o R.Q) (by simp))
  rw [hX] at hT
  refine sy_cur (x' := x2) (v := OutD.v ⟨val, ver, rv, st, ok, true, err⟩) S (Or.inl rfl) hT (by kernel_rfl) (by intro f hf; simp at hf; subst hf; exact hsg) fun aa w S => ?_
  refine sy_run ⟨0, []⟩ 60 S fun bs aa w S => ?_
  refine sy_call1 S (rreaders_any R.L R.a w hok) (by kernel_rfl) fun aa w hb S => ?_
  refine sy_run ⟨0, []⟩ 60 S fun bs aa w S => ?_
  obtain ⟨ob, hO⟩ := outX_any R g x2 hI2 w S.cur
  refine sy_cur (x' := outX R x2) (v := .bool ob) S (Or.inl rfl) hO (by kernel_rfl) (by intro f hf; simp at hf; subst hf; exact hsg) fun aa w S => ?_
  refine sy_run ⟨0, []⟩ 60 S fun bs aa w S => ?_
  exact sy_ret S (by kernel_rfl) (by kernel_rfl) fun hg => ⟨rfl, S.cur, hg⟩
set_option maxHeartbeats 8000000 in
theorem rr_stf (hX : triedS R (x1.1.length + 1) bb x1 = (⟨val, ver, rv, st, ok, false, err⟩, x2)) : Calls Tryz.prog 21 #[.pointer (some ⟨g, 0, none⟩), R.L.v, .int .i64 R.me, .agg #[.int .i64 k, .int .i64 R.a, .int .i64 bb, .int .i64 ty, .int .i64 R.m.s, .int .i64 R.m.k, .int .i64 R.m.a, .slice sa sl sc, .slice wa wl wc, .slice da dl dc]] w0 (fun e w' => e = .returned (((⟨val, ver, rv, st, ok, false, err⟩ : OutD), x2)).1.v ∧ CurAt w' g (((⟨val, ver, rv, st, ok, false, err⟩ : OutD), x2)).2 ∧ w0.grownBy w' (some g)) := by
  refine sy_enterF (some g) [rfCur g (l, none), rfSeen b o R.Q] (by
    intro f hf
    simp only [List.mem_cons, List.not_mem_nil, or_false] at hf
    rcases hf with rfl | rfl
    · exact hR
    · exact hA) Tryz.func21 rfl fun aa S => ?_
  refine sy_run ⟨0, []⟩ 60 S fun bs aa w S => ?_
  have hN := rneeds_any w R.L R.m.s R.m.k R.m.a
  rw [hnd] at hN
  refine sy_call1 S hN (by kernel_rfl) fun aa w hb S => ?_
  refine sy_run ⟨0, []⟩ 60 S fun bs aa w S => ?_
  refine sy_call1 S (rreaders_any R.L R.a w hok) (by kernel_rfl) fun aa w hb S => ?_
  refine sy_run ⟨0, []⟩ 60 S fun bs aa w S => ?_
  have hC := pput_any (atReaders R.L R.a) R.me g l hI w S.cur
  rw [hP] at hC
  refine sy_cur (x' := x1) (v := .bool true) S (Or.inl rfl) hC (by kernel_rfl) (by intro f hf; simp at hf; subst hf; exact hsg) fun aa w S => ?_
  refine sy_run ⟨0, []⟩ 60 S fun bs aa w S => ?_
  have hT := tried_any w g R hok k bb ty wa da wl wc dl dc sa sl sc b o hQ hsa hsg hsl x1 hI1 S.cur (S.fact (f := rfSeen b o R.Q) (by simp))
  rw [hX] at hT
  refine sy_cur (x' := x2) (v := OutD.v ⟨val, ver, rv, st, ok, false, err⟩) S (Or.inl rfl) hT (by kernel_rfl) (by intro f hf; simp at hf; subst hf; exact hsg) fun aa w S => ?_
  refine sy_run ⟨0, []⟩ 60 S fun bs aa w S => ?_
  exact sy_ret S (by kernel_rfl) (by kernel_rfl) fun hg => ⟨rfl, S.cur, hg⟩
end
section
variable (hP : runP (fun m => isIn m R.me) (fun m => withT m R.me) (atReaders R.L R.a) l = (false, x1)) (hI1 : ∀ y ∈ x1.1, I64 y.1) (x2 : CSt) (hI2 : ∀ y ∈ x2.1, I64 y.1) (val ver rv st : Int) (ok : Bool) (err : Int)
include hP hI1 x2 hI2 val ver rv st ok err
set_option maxHeartbeats 8000000 in
theorem rr_sft (hX : triedS R (x1.1.length + 1) bb x1 = (⟨val, ver, rv, st, ok, true, err⟩, x2)) : Calls Tryz.prog 21 #[.pointer (some ⟨g, 0, none⟩), R.L.v, .int .i64 R.me, .agg #[.int .i64 k, .int .i64 R.a, .int .i64 bb, .int .i64 ty, .int .i64 R.m.s, .int .i64 R.m.k, .int .i64 R.m.a, .slice sa sl sc, .slice wa wl wc, .slice da dl dc]] w0 (fun e w' => e = .returned (((⟨val, ver, rv, st, ok, true, err⟩ : OutD), x2)).1.v ∧ CurAt w' g (((⟨val, ver, rv, st, ok, true, err⟩ : OutD), x2)).2 ∧ w0.grownBy w' (some g)) := by
  refine sy_enterF (some g) [rfCur g (l, none), rfSeen b o R.Q] (by
    intro f hf
    simp only [List.mem_cons, List.not_mem_nil, or_false] at hf
    rcases hf with rfl | rfl
    · exact hR
    · exact hA) Tryz.func21 rfl fun aa S => ?_
  refine sy_run ⟨0, []⟩ 60 S fun bs aa w S => ?_
  have hN := rneeds_any w R.L R.m.s R.m.k R.m.a
  rw [hnd] at hN
  refine sy_call1 S hN (by kernel_rfl) fun aa w hb S => ?_
  refine sy_run ⟨0, []⟩ 60 S fun bs aa w S => ?_
  refine sy_call1 S (rreaders_any R.L R.a w hok) (by kernel_rfl) fun aa w hb S => ?_
  refine sy_run ⟨0, []⟩ 60 S fun bs aa w S => ?_
  have hC := pput_any (atReaders R.L R.a) R.me g l hI w S.cur
  rw [hP] at hC
  refine sy_cur (x' := x1) (v := .bool false) S (Or.inl rfl) hC (by kernel_rfl) (by intro f hf; simp at hf; subst hf; exact hsg) fun aa w S => ?_
  refine sy_run ⟨0, []⟩ 60 S fun bs aa w S => ?_
  have hT := tried_any w g R hok k bb ty wa da wl wc dl dc sa sl sc b o hQ hsa hsg hsl x1 hI1 S.cur (S.fact (f := rfSeen b o R.Q) (by simp))
  rw [hX] at hT
  refine sy_cur (x' := x2) (v := OutD.v ⟨val, ver, rv, st, ok, true, err⟩) S (Or.inl rfl) hT (by kernel_rfl) (by intro f hf; simp at hf; subst hf; exact hsg) fun aa w S => ?_
  refine sy_run ⟨0, []⟩ 60 S fun bs aa w S => ?_
  exact sy_ret S (by kernel_rfl) (by kernel_rfl) fun hg => ⟨rfl, S.cur, hg⟩
set_option maxHeartbeats 8000000 in
theorem rr_sff (hX : triedS R (x1.1.length + 1) bb x1 = (⟨val, ver, rv, st, ok, false, err⟩, x2)) : Calls Tryz.prog 21 #[.pointer (some ⟨g, 0, none⟩), R.L.v, .int .i64 R.me, .agg #[.int .i64 k, .int .i64 R.a, .int .i64 bb, .int .i64 ty, .int .i64 R.m.s, .int .i64 R.m.k, .int .i64 R.m.a, .slice sa sl sc, .slice wa wl wc, .slice da dl dc]] w0 (fun e w' => e = .returned (((⟨val, ver, rv, st, ok, false, err⟩ : OutD), x2)).1.v ∧ CurAt w' g (((⟨val, ver, rv, st, ok, false, err⟩ : OutD), x2)).2 ∧ w0.grownBy w' (some g)) := by
  refine sy_enterF (some g) [rfCur g (l, none), rfSeen b o R.Q] (by
    intro f hf
    simp only [List.mem_cons, List.not_mem_nil, or_false] at hf
    rcases hf with rfl | rfl
    · exact hR
    · exact hA) Tryz.func21 rfl fun aa S => ?_
  refine sy_run ⟨0, []⟩ 60 S fun bs aa w S => ?_
  have hN := rneeds_any w R.L R.m.s R.m.k R.m.a
  rw [hnd] at hN
  refine sy_call1 S hN (by kernel_rfl) fun aa w hb S => ?_
  refine sy_run ⟨0, []⟩ 60 S fun bs aa w S => ?_
  refine sy_call1 S (rreaders_any R.L R.a w hok) (by kernel_rfl) fun aa w hb S => ?_
  refine sy_run ⟨0, []⟩ 60 S fun bs aa w S => ?_
  have hC := pput_any (atReaders R.L R.a) R.me g l hI w S.cur
  rw [hP] at hC
  refine sy_cur (x' := x1) (v := .bool false) S (Or.inl rfl) hC (by kernel_rfl) (by intro f hf; simp at hf; subst hf; exact hsg) fun aa w S => ?_
  refine sy_run ⟨0, []⟩ 60 S fun bs aa w S => ?_
  have hT := tried_any w g R hok k bb ty wa da wl wc dl dc sa sl sc b o hQ hsa hsg hsl x1 hI1 S.cur (S.fact (f := rfSeen b o R.Q) (by simp))
  rw [hX] at hT
  refine sy_cur (x' := x2) (v := OutD.v ⟨val, ver, rv, st, ok, false, err⟩) S (Or.inl rfl) hT (by kernel_rfl) (by intro f hf; simp at hf; subst hf; exact hsg) fun aa w S => ?_
  refine sy_run ⟨0, []⟩ 60 S fun bs aa w S => ?_
  exact sy_ret S (by kernel_rfl) (by kernel_rfl) fun hg => ⟨rfl, S.cur, hg⟩
end
end
section
variable (hnd : needsV R.L.c.m R.m.a = false) (l : List (Int × Bool)) (hI : ∀ y ∈ l, I64 y.1) (hR : CurAt w0 g (l, none)) (hA : SeenAt w0 b o R.Q) (hI1 : ∀ y ∈ ((l, none) : CSt).1, I64 y.1) (x2 : CSt) (hI2 : ∀ y ∈ x2.1, I64 y.1) (val ver rv st : Int) (ok : Bool) (err : Int)
include hnd l hI hR hA hI1 x2 hI2 val ver rv st ok err
set_option maxHeartbeats 8000000 in
theorem rr_nft (hX : triedS R (((l, none) : CSt).1.length + 1) bb ((l, none) : CSt) = (⟨val, ver, rv, st, ok, true, err⟩, x2)) : Calls Tryz.prog 21 #[.pointer (some ⟨g, 0, none⟩), R.L.v, .int .i64 R.me, .agg #[.int .i64 k, .int .i64 R.a, .int .i64 bb, .int .i64 ty, .int .i64 R.m.s, .int .i64 R.m.k, .int .i64 R.m.a, .slice sa sl sc, .slice wa wl wc, .slice da dl dc]] w0 (fun e w' => e = .returned (((⟨val, ver, rv, st, ok, true, err⟩ : OutD), x2)).1.v ∧ CurAt w' g (((⟨val, ver, rv, st, ok, true, err⟩ : OutD), x2)).2 ∧ w0.grownBy w' (some g)) := by
  refine sy_enterF (some g) [rfCur g (l, none), rfSeen b o R.Q] (by
    intro f hf
    simp only [List.mem_cons, List.not_mem_nil, or_false] at hf
    rcases hf with rfl | rfl
    · exact hR
    · exact hA) Tryz.func21 rfl fun aa S => ?_
  refine sy_run ⟨0, []⟩ 60 S fun bs aa w S => ?_
  have hN := rneeds_any w R.L R.m.s R.m.k R.m.a
  rw [hnd] at hN
  refine sy_call1 S hN (by kernel_rfl) fun aa w hb S => ?_
  refine sy_run ⟨0, []⟩ 60 S fun bs aa w S => ?_
  have hT := tried_any w g R hok k bb ty wa da wl wc dl dc sa sl sc b o hQ hsa hsg hsl (l, none) hI1 S.cur (S.fact (f := rfSeen b o R.Q) (by simp))
  rw [hX] at hT
  refine sy_cur (x' := x2) (v := OutD.v ⟨val, ver, rv, st, ok, true, err⟩) S (Or.inl rfl) hT (by kernel_rfl) (by intro f hf; simp at hf; subst hf; exact hsg) fun aa w S => ?_
  refine sy_run ⟨0, []⟩ 60 S fun bs aa w S => ?_
  exact sy_ret S (by kernel_rfl) (by kernel_rfl) fun hg => ⟨rfl, S.cur, hg⟩
set_option maxHeartbeats 8000000 in
theorem rr_nff (hX : triedS R (((l, none) : CSt).1.length + 1) bb ((l, none) : CSt) = (⟨val, ver, rv, st, ok, false, err⟩, x2)) : Calls Tryz.prog 21 #[.pointer (some ⟨g, 0, none⟩), R.L.v, .int .i64 R.me, .agg #[.int .i64 k, .int .i64 R.a, .int .i64 bb, .int .i64 ty, .int .i64 R.m.s, .int .i64 R.m.k, .int .i64 R.m.a, .slice sa sl sc, .slice wa wl wc, .slice da dl dc]] w0 (fun e w' => e = .returned (((⟨val, ver, rv, st, ok, false, err⟩ : OutD), x2)).1.v ∧ CurAt w' g (((⟨val, ver, rv, st, ok, false, err⟩ : OutD), x2)).2 ∧ w0.grownBy w' (some g)) := by
  refine sy_enterF (some g) [rfCur g (l, none), rfSeen b o R.Q] (by
    intro f hf
    simp only [List.mem_cons, List.not_mem_nil, or_false] at hf
    rcases hf with rfl | rfl
    · exact hR
    · exact hA) Tryz.func21 rfl fun aa S => ?_
  refine sy_run ⟨0, []⟩ 60 S fun bs aa w S => ?_
  have hN := rneeds_any w R.L R.m.s R.m.k R.m.a
  rw [hnd] at hN
  refine sy_call1 S hN (by kernel_rfl) fun aa w hb S => ?_
  refine sy_run ⟨0, []⟩ 60 S fun bs aa w S => ?_
  have hT := tried_any w g R hok k bb ty wa da wl wc dl dc sa sl sc b o hQ hsa hsg hsl (l, none) hI1 S.cur (S.fact (f := rfSeen b o R.Q) (by simp))
  rw [hX] at hT
  refine sy_cur (x' := x2) (v := OutD.v ⟨val, ver, rv, st, ok, false, err⟩) S (Or.inl rfl) hT (by kernel_rfl) (by intro f hf; simp at hf; subst hf; exact hsg) fun aa w S => ?_
  refine sy_run ⟨0, []⟩ 60 S fun bs aa w S => ?_
  exact sy_ret S (by kernel_rfl) (by kernel_rfl) fun hg => ⟨rfl, S.cur, hg⟩
end
theorem read_any (l : List (Int × Bool)) (hI : ∀ y ∈ l, I64 y.1) (hR : CurAt w0 g (l, none)) (hA : SeenAt w0 b o R.Q) : Calls Tryz.prog 21 #[.pointer (some ⟨g, 0, none⟩), R.L.v, .int .i64 R.me, .agg #[.int .i64 k, .int .i64 R.a, .int .i64 bb, .int .i64 ty, .int .i64 R.m.s, .int .i64 R.m.k, .int .i64 R.m.a, .slice sa sl sc, .slice wa wl wc, .slice da dl dc]] w0 (fun e w' => e = .returned (readS R bb (needsV R.L.c.m R.m.a) l).1.v ∧ CurAt w' g (readS R bb (needsV R.L.c.m R.m.a) l).2 ∧ w0.grownBy w' (some g)) := by
  have hs := showX_rest R (needsV R.L.c.m R.m.a) l
  have hr := triedS_rest R ((showX R (needsV R.L.c.m R.m.a) l).2.1.length + 1) bb (showX R (needsV R.L.c.m R.m.a) l).2
  unfold readS
  cases hnd : needsV R.L.c.m R.m.a with
  | false =>
    rw [hnd] at hs hr
    rw [show showX R false l = (false, (l, none)) from rfl] at hs hr ⊢
    obtain ⟨⟨⟨val, ver, rv, st, ok, lost, err⟩, x2⟩, hX⟩ : ∃ X, triedS R (((false, ((l, none) : CSt)) : Bool × CSt).2.1.length + 1) bb ((false, ((l, none) : CSt)) : Bool × CSt).2 = X := ⟨_, rfl⟩
    rw [hX] at hr ⊢
    cases lost with
    | true => exact rr_nft w0 g R hok k bb ty wa da wl wc dl dc sa sl sc b o hQ hsa hsg hsl hnd l hI hR hA hI x2 (fun y hy => hI y (hr y hy)) val ver rv st ok err hX
    | false => exact rr_nff w0 g R hok k bb ty wa da wl wc dl dc sa sl sc b o hQ hsa hsg hsl hnd l hI hR hA hI x2 (fun y hy => hI y (hr y hy)) val ver rv st ok err hX
  | true =>
    rw [hnd] at hs hr
    obtain ⟨⟨sh, x1⟩, hP⟩ : ∃ X, showX R true l = X := ⟨_, rfl⟩
    rw [hP] at hs hr ⊢
    obtain ⟨⟨⟨val, ver, rv, st, ok, lost, err⟩, x2⟩, hX⟩ : ∃ X, triedS R (((sh, x1) : Bool × CSt).2.1.length + 1) bb ((sh, x1) : Bool × CSt).2 = X := ⟨_, rfl⟩
    rw [hX] at hr ⊢
    have hI1 : ∀ y ∈ x1.1, I64 y.1 := fun y hy => hI y (hs y hy)
    have hI2 : ∀ y ∈ x2.1, I64 y.1 := fun y hy => hI1 y (hr y hy)
    cases sh with
    | true =>
      cases lost with
      | true => exact rr_stt w0 g R hok k bb ty wa da wl wc dl dc sa sl sc b o hQ hsa hsg hsl hnd l hI hR hA x1 hP hI1 x2 hI2 val ver rv st ok err hX
      | false => exact rr_stf w0 g R hok k bb ty wa da wl wc dl dc sa sl sc b o hQ hsa hsg hsl hnd l hI hR hA x1 hP hI1 x2 hI2 val ver rv st ok err hX
    | false =>
      cases lost with
      | true => exact rr_sft w0 g R hok k bb ty wa da wl wc dl dc sa sl sc b o hQ hsa hsg hsl hnd l hI hR hA x1 hP hI1 x2 hI2 val ver rv st ok err hX
      | false => exact rr_sff w0 g R hok k bb ty wa da wl wc dl dc sa sl sc b o hQ hsa hsg hsl hnd l hI hR hA x1 hP hI1 x2 hI2 val ver rv st ok err hX
end
section
variable (w0 : World) (R : Rd) (hok : R.L.ok)
include w0 R hok
set_option maxHeartbeats 8000000 in
theorem rvn_no (k bb ty : Int) (wa da : Option Addr) (wl wc dl dc : Nat) (sa : Option Addr) (sl sc : Nat) (b o : Nat) (hQ : R.Q.length = sl) (hsa : sl = 0 ∨ sa = some ⟨b, o, none⟩) (hsl : sl ≤ 1000000) (la : Option Addr) (lc : Nat) (l : List (Int × Bool)) (hv : LogOf w0 (.slice la l.length lc) l) (hA : SeenAt w0 b o R.Q) (h2 : (!decide (k = 2)) = true) : Calls Tryz.prog 7 #[R.L.v, .int .i64 R.me, .agg #[.int .i64 k, .int .i64 R.a, .int .i64 bb, .int .i64 ty, .int .i64 R.m.s, .int .i64 R.m.k, .int .i64 R.m.a, .slice sa sl sc, .slice wa wl wc, .slice da dl dc], (.slice la l.length lc)] w0 fun e w' => e = .returned (nextV (.inr { err := 1 })) ∧ Below w0.heap.size w0 w' := by
  refine sy_enterF none [rfLog (.slice la l.length lc) l, rfSeen b o R.Q] (by
    intro f hf
    simp only [List.mem_cons, List.not_mem_nil, or_false] at hf
    rcases hf with rfl | rfl
    · exact hv
    · exact hA) Tryz.func7 rfl fun aa S => ?_
  refine sy_run ⟨0, [1]⟩ 60 S fun bs aa w S => ?_
  refine sy_reg S fun S => ?_
  refine sy_ops 3 S fun bs aa w S => ?_
  refine sy_cast 14 S (congrArg Value.bool h2) (by kernel_rfl) fun S => ?_
  refine sy_run ⟨0, []⟩ 80 S fun bs aa w S => ?_
  exact sy_ret S (by kernel_rfl) (by kernel_rfl) fun g => ⟨rfl, below_of_gr g⟩
section
variable (bb ty : Int) (wa da : Option Addr) (wl wc dl dc : Nat) (sa : Option Addr) (sl sc : Nat) (b o : Nat) (hQ : R.Q.length = sl) (hsa : sl = 0 ∨ sa = some ⟨b, o, none⟩) (hsl : sl ≤ 1000000) (la : Option Addr) (lc : Nat) (l : List (Int × Bool)) (hv : LogOf w0 (.slice la l.length lc) l) (hA : SeenAt w0 b o R.Q)
include bb ty wa da wl wc dl dc sa sl sc b o hQ hsa hsl la lc l hv hA
set_option maxHeartbeats 8000000 in
theorem rvn_word (h : atWord R.L R.a < 0) : Calls Tryz.prog 7 #[R.L.v, .int .i64 R.me, .agg #[.int .i64 2, .int .i64 R.a, .int .i64 bb, .int .i64 ty, .int .i64 R.m.s, .int .i64 R.m.k, .int .i64 R.m.a, .slice sa sl sc, .slice wa wl wc, .slice da dl dc], (.slice la l.length lc)] w0 fun e w' => e = .returned (nextV (.inr { err := 1 })) ∧ Below w0.heap.size w0 w' := by
  refine sy_enterF none [rfLog (.slice la l.length lc) l, rfSeen b o R.Q] (by
    intro f hf
    simp only [List.mem_cons, List.not_mem_nil, or_false] at hf
    rcases hf with rfl | rfl
    · exact hv
    · exact hA) Tryz.func7 rfl fun aa S => ?_
  refine sy_run ⟨0, []⟩ 60 S fun bs aa w S => ?_
  refine sy_call1 S (rword_any R.L R.a w hok) (by kernel_rfl) fun aa w hb S => ?_
  refine sy_ops 1 S fun bs aa w S => ?_
  refine sy_cast 20 S (congrArg Value.bool (decide_eq_true h : decide (atWord R.L R.a < 0) = true)) (by kernel_rfl) fun S => ?_
  refine sy_run ⟨0, []⟩ 80 S fun bs aa w S => ?_
  exact sy_ret S (by kernel_rfl) (by kernel_rfl) fun g => ⟨rfl, below_of_gr g⟩
set_option maxHeartbeats 8000000 in
theorem rvn_stat (h : ¬ atWord R.L R.a < 0) (h2 : atStatus R.L R.me < 0) : Calls Tryz.prog 7 #[R.L.v, .int .i64 R.me, .agg #[.int .i64 2, .int .i64 R.a, .int .i64 bb, .int .i64 ty, .int .i64 R.m.s, .int .i64 R.m.k, .int .i64 R.m.a, .slice sa sl sc, .slice wa wl wc, .slice da dl dc], (.slice la l.length lc)] w0 fun e w' => e = .returned (nextV (.inr { err := 1 })) ∧ Below w0.heap.size w0 w' := by
  refine sy_enterF none [rfLog (.slice la l.length lc) l, rfSeen b o R.Q] (by
    intro f hf
    simp only [List.mem_cons, List.not_mem_nil, or_false] at hf
    rcases hf with rfl | rfl
    · exact hv
    · exact hA) Tryz.func7 rfl fun aa S => ?_
  refine sy_run ⟨0, []⟩ 60 S fun bs aa w S => ?_
  refine sy_call1 S (rword_any R.L R.a w hok) (by kernel_rfl) fun aa w hb S => ?_
  refine sy_ops 1 S fun bs aa w S => ?_
  refine sy_cast 20 S (congrArg Value.bool (decide_eq_false h : decide (atWord R.L R.a < 0) = false)) (by kernel_rfl) fun S => ?_
  refine sy_run ⟨0, []⟩ 60 S fun bs aa w S => ?_
  refine sy_call1 S (rstatus_any R.L R.me w hok) (by kernel_rfl) fun aa w hb S => ?_
  refine sy_ops 1 S fun bs aa w S => ?_
  refine sy_cast 26 S (congrArg Value.bool (decide_eq_true h2 : decide (atStatus R.L R.me < 0) = true)) (by kernel_rfl) fun S => ?_
  refine sy_run ⟨0, []⟩ 80 S fun bs aa w S => ?_
  exact sy_ret S (by kernel_rfl) (by kernel_rfl) fun g => ⟨rfl, below_of_gr g⟩
set_option maxHeartbeats 8000000 in
theorem rvn_ok (hl : l.length ≤ 1000000) (hI : ∀ x ∈ l, I64 x.1) (h : ¬ atWord R.L R.a < 0) (h2 : ¬ atStatus R.L R.me < 0) : Calls Tryz.prog 7 #[R.L.v, .int .i64 R.me, .agg #[.int .i64 2, .int .i64 R.a, .int .i64 bb, .int .i64 ty, .int .i64 R.m.s, .int .i64 R.m.k, .int .i64 R.m.a, .slice sa sl sc, .slice wa wl wc, .slice da dl dc], (.slice la l.length lc)] w0 fun e w' => e = .returned (nextV (toldX (readS R bb (needsV R.L.c.m R.m.a) l))) ∧ Below w0.heap.size w0 w' := by
  refine sy_enterF none [rfLog (.slice la l.length lc) l, rfSeen b o R.Q] (by
    intro f hf
    simp only [List.mem_cons, List.not_mem_nil, or_false] at hf
    rcases hf with rfl | rfl
    · exact hv
    · exact hA) Tryz.func7 rfl fun aa S => ?_
  refine sy_run ⟨0, []⟩ 60 S fun bs aa w S => ?_
  refine sy_call1 S (rword_any R.L R.a w hok) (by kernel_rfl) fun aa w hb S => ?_
  refine sy_ops 1 S fun bs aa w S => ?_
  refine sy_cast 20 S (congrArg Value.bool (decide_eq_false h : decide (atWord R.L R.a < 0) = false)) (by kernel_rfl) fun S => ?_
  refine sy_run ⟨0, []⟩ 60 S fun bs aa w S => ?_
  refine sy_call1 S (rstatus_any R.L R.me w hok) (by kernel_rfl) fun aa w hb S => ?_
  refine sy_ops 1 S fun bs aa w S => ?_
  refine sy_cast 26 S (congrArg Value.bool (decide_eq_false h2 : decide (atStatus R.L R.me < 0) = false)) (by kernel_rfl) fun S => ?_
  refine sy_run ⟨0, []⟩ 80 S fun bs aa w S => ?_
  generalize hBS : (_ ++ bs : List Nat) = BS at S
  have hC0 := cur_box S 4 (by kernel_rfl) hv (S.fact (f := rfLog (.slice la l.length lc) l) (by simp)) hl
  have hA1 : SeenAt w b o R.Q := S.fact (f := rfSeen b o R.Q) (by simp)
  have hg := own_ge4 S (by kernel_rfl)
  have hnd := own_ne4 S (by kernel_rfl)
  refine sy_reify 11 4 0 S (by kernel_rfl) fun S => ?_
  refine sy_reify 32 4 0 S (by kernel_rfl) fun S => ?_
  refine sy_reify 33 4 0 S (by kernel_rfl) fun S => ?_
  refine sy_reify 34 4 0 S (by kernel_rfl) fun S => ?_
  refine sy_less [0, 1, 2, 3] S (by kernel_rfl) (by kernel_rfl) (by kernel_rfl) (by kernel_rfl) fun S => ?_
  have hRd := read_any w (BS.getD 4 0) R hok 2 bb ty wa da wl wc dl dc sa sl sc b o hQ hsa (fun h => by
    have h1 : BS.getD 4 0 = b := h.1
    have := World.block_lt_of_cell? w0 _ (hA 0 (Nat.pos_of_ne_zero h.2)).1
    simp only at this
    omega) hsl l hI hC0 hA1
  obtain ⟨⟨ov, l2, q2⟩, hX⟩ : ∃ X, readS R bb (needsV R.L.c.m R.m.a) l = X := ⟨_, rfl⟩
  rw [hX] at hRd ⊢
  refine sy_callG S (Or.inr hg) (X := Unit) (val := fun _ => ov.v) (C := fun _ w' => CurAt w' (BS.getD 4 0) (l2, q2)) (hRd.mono fun e w' h => ⟨(), h⟩) (by kernel_rfl) [] (by simp) (by
    intro i hi he
    have hi4 : i < 4 := by simpa using hi
    refine hnd i hi4 ?_
    rw [← he]
    match i, hi4 with
    | 0, _ => rfl
    | 1, _ => rfl
    | 2, _ => rfl
    | 3, _ => rfl) fun _ aa w hC hgr S => ?_
  cases q2 with
  | none =>
    refine sy_call1 S (rtold_any w (BS.getD 4 0) (l2, none) ov hC : Calls Tryz.prog 20 #[.pointer (some ⟨BS.getD 4 0, 0, none⟩), OutD.v ov] w fun e w' => e = .returned (nextV (toldX (ov, (l2, none)))) ∧ Below w.heap.size w w') (by kernel_rfl) fun aa w hb S => ?_
    refine sy_run ⟨0, []⟩ 80 S fun bs aa w S => ?_
    exact sy_ret S (by kernel_rfl) (by kernel_rfl) fun g => ⟨rfl, below_of_gr g⟩
  | some q =>
    refine sy_call1 S (rtold_any w (BS.getD 4 0) (l2, some q) ov hC : Calls Tryz.prog 20 #[.pointer (some ⟨BS.getD 4 0, 0, none⟩), OutD.v ov] w fun e w' => e = .returned (nextV (toldX (ov, (l2, some q)))) ∧ Below w.heap.size w w') (by kernel_rfl) fun aa w hb S => ?_
    refine sy_run ⟨0, []⟩ 80 S fun bs aa w S => ?_
    exact sy_ret S (by kernel_rfl) (by kernel_rfl) fun g => ⟨rfl, below_of_gr g⟩
end
end
def viewS (R : Rd) (k rv : Int) (l : List (Int × Bool)) : Ask ⊕ OutD := if k = 2 ∧ ¬ atWord R.L R.a < 0 ∧ ¬ atStatus R.L R.me < 0 then toldX (readS R rv (needsV R.L.c.m R.m.a) l) else .inr { err := 1 }
theorem rvnext_any (w0 : World) (R : Rd) (hok : R.L.ok) (k bb ty : Int) (wa da : Option Addr) (wl wc dl dc : Nat) (sa : Option Addr) (sl sc : Nat) (b o : Nat) (hQ : R.Q.length = sl) (hsa : sl = 0 ∨ sa = some ⟨b, o, none⟩) (hsl : sl ≤ 1000000) (la : Option Addr) (lc : Nat) (l : List (Int × Bool)) (hv : LogOf w0 (.slice la l.length lc) l) (hA : SeenAt w0 b o R.Q) (hl : l.length ≤ 1000000) (hI : ∀ x ∈ l, I64 x.1) : Calls Tryz.prog 7 #[R.L.v, .int .i64 R.me, .agg #[.int .i64 k, .int .i64 R.a, .int .i64 bb, .int .i64 ty, .int .i64 R.m.s, .int .i64 R.m.k, .int .i64 R.m.a, .slice sa sl sc, .slice wa wl wc, .slice da dl dc], (.slice la l.length lc)] w0 fun e w' => e = .returned (nextV (viewS R k bb l)) ∧ Below w0.heap.size w0 w' := by
  unfold viewS
  by_cases hk : k = 2
  · subst hk
    by_cases h : atWord R.L R.a < 0
    · rw [if_neg (by simp [h])]; exact rvn_word w0 R hok bb ty wa da wl wc dl dc sa sl sc b o hQ hsa hsl la lc l hv hA h
    · by_cases h2 : atStatus R.L R.me < 0
      · rw [if_neg (by simp [h2])]; exact rvn_stat w0 R hok bb ty wa da wl wc dl dc sa sl sc b o hQ hsa hsl la lc l hv hA h h2
      · rw [if_pos ⟨rfl, h, h2⟩]; exact rvn_ok w0 R hok bb ty wa da wl wc dl dc sa sl sc b o hQ hsa hsl la lc l hv hA hl hI h h2
  · rw [if_neg (by simp [hk])]; exact rvn_no w0 R hok k bb ty wa da wl wc dl dc sa sl sc b o hQ hsa hsl la lc l hv hA (by simpa using hk)
end Go.Proofs.YtfahnmpcclhjlaaGreat

namespace Go.Proofs.YtfahnmpcclhjlaaGreat.SZ
open Go Go.RowKit
set_option linter.unusedVariables false
set_option linter.unusedSectionVars false
set_option maxRecDepth 10000
theorem runAt_le {w w' : World} {g : Nat} {l : List (Int × Bool)} (h : RunAt w g l) (hb : ∀ b, b ≤ g → w'.heap[b]? = w.heap[b]?) : RunAt w' g l := by
  obtain ⟨a, c, h1, h2, h3, h4, h5⟩ := h
  refine ⟨a, c, (World.cell?_of_block (a := ⟨g, 0, none⟩) (hb g (Nat.le_refl _))).trans h1, (World.frozen?_of_block (a := ⟨g, 0, none⟩) (hb g (Nat.le_refl _))).trans h2, h3, h4, ?_⟩
  rcases h5 with h5 | ⟨b, o, rfl, h5, h6⟩
  · exact Or.inl h5
  · exact Or.inr ⟨b, o, rfl, h5, fun j hj => ⟨(World.cell?_of_block (a := ⟨b, o + j * 2, none⟩) (hb b (by omega))).trans (h6 j hj).1, (World.cell?_of_block (a := ⟨b, o + j * 2 + 1, none⟩) (hb b (by omega))).trans (h6 j hj).2⟩⟩
def rfRun (g : Nat) (l : List (Int × Bool)) : RF := ⟨fun b => b ≤ g, fun w => RunAt w g l, fun w h b hb => Nat.lt_of_le_of_lt hb (runAt_lt h), fun w w' h hb => runAt_le h hb⟩
theorem curAt_le {w w' : World} {g : Nat} {s : CSt} (h : CurAt w g s) (hb : ∀ b, b ≤ g → w'.heap[b]? = w.heap[b]?) : CurAt w' g s := by
  obtain ⟨a, c, at_, all, h0, h1, h2, h3, h4, h5, h6, h7, h8, h9, h10, h11, h12⟩ := h
  have k : ∀ o v, w.cell? ⟨g, o, none⟩ = some v → w'.cell? ⟨g, o, none⟩ = some v := fun o v h => (World.cell?_of_block (a := ⟨g, o, none⟩) (hb g (Nat.le_refl _))).trans h
  refine ⟨a, c, at_, all, k _ _ h0, k _ _ h1, k _ _ h2, k _ _ h3, k _ _ h4, k _ _ h5, k _ _ h6, k _ _ h7, fun o => (World.frozen?_of_block (a := ⟨g, o, none⟩) (hb g (Nat.le_refl _))).trans (h8 o), h9, h10, h11, ?_⟩
  rcases h12 with h12 | ⟨b, o, rfl, h13, h14⟩
  · exact Or.inl h12
  · exact Or.inr ⟨b, o, rfl, h13, fun j hj => ⟨(World.cell?_of_block (a := ⟨b, o + j * 2, none⟩) (hb b (by omega))).trans (h14 j hj).1, (World.cell?_of_block (a := ⟨b, o + j * 2 + 1, none⟩) (hb b (by omega))).trans (h14 j hj).2⟩⟩
def rfCur (g : Nat) (x : CSt) : RF := ⟨fun b => b ≤ g, fun w => CurAt w g x, fun w h b hb => Nat.lt_of_le_of_lt hb (curAt_lt h), fun w w' h hb => curAt_le h hb⟩
theorem logOf_st {w w' : World} {v : Value} {l : List (Int × Bool)} (h : LogOf w v l) (hb : ∀ b, v.ownBlock = some b → w'.heap[b]? = w.heap[b]?) : LogOf w' v l := by
  obtain ⟨a, c, rfl, h1, h2, h3⟩ := h
  refine ⟨a, c, rfl, h1, h2, ?_⟩
  rcases h3 with h3 | ⟨b, o, rfl, h3⟩
  · exact Or.inl h3
  · have hb' := hb b rfl
    exact Or.inr ⟨b, o, rfl, fun j hj => ⟨(World.cell?_of_block (a := ⟨b, o + j * 2, none⟩) hb').trans (h3 j hj).1, (World.cell?_of_block (a := ⟨b, o + j * 2 + 1, none⟩) hb').trans (h3 j hj).2⟩⟩
def rfLog (v : Value) (l : List (Int × Bool)) : RF := ⟨fun b => v.ownBlock = some b ∧ l.length ≠ 0, fun w => LogOf w v l, fun w h b hb => by
  obtain ⟨a, c, rfl, h1, h2, h3⟩ := h
  rcases h3 with h3 | ⟨b', o, rfl, h3⟩
  · exact absurd h3 hb.2
  · have := World.block_lt_of_cell? w _ (h3 0 (by omega)).1
    have e : some b' = some b := hb.1
    cases e
    exact this, fun w w' h hb => by
  by_cases h0 : l.length = 0
  · obtain ⟨a, c, rfl, h1, h2, _⟩ := h
    exact ⟨a, c, rfl, h1, h2, Or.inl h0⟩
  · exact logOf_st h (fun b he => hb b ⟨he, h0⟩)⟩
section
variable [DF] [KP]
variable {P : Program} {w0 : World} {r : List Nat} {bs : List Nat} {s : SS} {F : List RF} {a : Act} {w : World}
theorem Sy.run {g : Nat} {l : List (Int × Bool)} (S : Sy w0 r bs s (rfRun g l :: F) a w) : RunAt w g l := S.fact (f := rfRun g l) (by simp)
theorem Sy.cur {g : Nat} {x : CSt} (S : Sy w0 r bs s (rfCur g x :: F) a w) : CurAt w g x := S.fact (f := rfCur g x) (by simp)
theorem sy_acc {g : Nat} {l l' : List (Int × Bool)} {c : Cfg} (S : Sy w0 r bs c.s (rfRun g l :: F) a w) (h0 : g ∈ r ∨ w0.heap.size ≤ g) {v : Value} {f : FuncId} {args : Array Value} {Q : Exit → Act → World → Prop}
    (hC : Calls P f args w fun e w' => e = .returned v ∧ RunAt w' g l' ∧ w.grownBy w' (some g))
    (hh : (headC P c).map (fun q => (q.1, q.2.map (den bs))) = some (f, args.toList)) (hF : ∀ f ∈ F, ¬f.bl g)
    (h : ∀ a' w', Sy w0 r bs (aftC c (.v v)).s (rfRun g l' :: F) a' w' → post P (aftC c (.v v)).k Q .normal a' w') : post P c.k Q .normal a w := by
  have hap := (S.fs _ (by simp : rfRun g l ∈ rfRun g l :: F)).2
  refine sy_callG S h0 (X := Unit) (val := fun _ => v) (C := fun _ w' => RunAt w' g l') (hC.mono fun e w' h => ⟨(), h.1, h.2⟩) hh F (fun f hf => ⟨List.mem_cons_of_mem _ hf, hF f hf⟩) (fun i hi he => hap i hi (by show _ ≤ g; rw [he]; exact Nat.le_refl _)) ?_
  intro _ a' w' hR _ S'
  exact h a' w' (S'.add (rfRun g l') hR hap)
theorem sy_cur {g : Nat} {x x' : CSt} {c : Cfg} (S : Sy w0 r bs c.s (rfCur g x :: F) a w) (h0 : g ∈ r ∨ w0.heap.size ≤ g) {v : Value} {f : FuncId} {args : Array Value} {Q : Exit → Act → World → Prop}
    (hC : Calls P f args w fun e w' => e = .returned v ∧ CurAt w' g x' ∧ w.grownBy w' (some g))
    (hh : (headC P c).map (fun q => (q.1, q.2.map (den bs))) = some (f, args.toList)) (hF : ∀ f ∈ F, ¬f.bl g)
    (h : ∀ a' w', Sy w0 r bs (aftC c (.v v)).s (rfCur g x' :: F) a' w' → post P (aftC c (.v v)).k Q .normal a' w') : post P c.k Q .normal a w := by
  have hap := (S.fs _ (by simp : rfCur g x ∈ rfCur g x :: F)).2
  refine sy_callG S h0 (X := Unit) (val := fun _ => v) (C := fun _ w' => CurAt w' g x') (hC.mono fun e w' h => ⟨(), h.1, h.2⟩) hh F (fun f hf => ⟨List.mem_cons_of_mem _ hf, hF f hf⟩) (fun i hi he => hap i hi (by show _ ≤ g; rw [he]; exact Nat.le_refl _)) ?_
  intro _ a' w' hR _ S'
  exact h a' w' (S'.add (rfCur g x') hR hap)
end
def rfSeen (b o : Nat) (S : List (Int × Int × Int)) : RF := ⟨fun b' => b' = b ∧ S.length ≠ 0, fun w => SeenAt w b o S, fun w h b' hb => by
  obtain ⟨rfl, hl⟩ := hb
  exact World.block_lt_of_cell? w _ (h 0 (by omega)).1, fun w w' h hb => by
  by_cases h0 : S.length = 0
  · intro j hj; omega
  · exact seenAt_st h (hb b ⟨rfl, h0⟩)⟩
section
variable {P : Program} {ops : Array Oper} {Q : Exit → Act → World → Prop} {S : World → Prop} {m : Nat} {listed : Array Bool} {a : Act} {w : World} {i j k l : Nat}
theorem na1 (h1 : Nxt P ops Q S m listed a w i) : NxtAll P ops Q S m listed a w [i] := ⟨h1, trivial⟩
theorem na2 (h1 : Nxt P ops Q S m listed a w i) (h2 : Nxt P ops Q S m listed a w j) : NxtAll P ops Q S m listed a w [i, j] := ⟨h1, h2, trivial⟩
theorem na3 (h1 : Nxt P ops Q S m listed a w i) (h2 : Nxt P ops Q S m listed a w j) (h3 : Nxt P ops Q S m listed a w k) : NxtAll P ops Q S m listed a w [i, j, k] := ⟨h1, h2, h3, trivial⟩
end
section
variable [DF] [KP]
variable {P : Program} {w0 : World} {r : List Nat} {B : List Nat} {ro bs : List Nat} {QQ : Exit → Act → World → Prop} [PInv QQ] {c : Cfg} {d : DC} {F : List RF} {a : Act} {w : World}
section
variable (i : Nat) (D : Sd w0 r B c.s.K ro bs d.s F a w) (hs : Region.noSelect (opsD c) = true)
include i D hs
theorem nx_ld {ty : TypeId} {ad : Addr} {v : Value} (hl : (loadVar ty ad).run P w = .ok v w) (hh : (((opsD c)[i]?).bind fun o => headO P ⟨[.ops (opsD c) [o]], d.s⟩) = some (ty, ad)) (h : ∀ a', Sd w0 r B c.s.K ro bs (dV P c ro d i (.v v)).s F a' w → GD P c QQ B ro (dV P c ro d i (.v v)) a' w) : Nxt P (opsD c) (PQ P (kD c) QQ) (HoldS B c.s.K ro) d.pred d.lst a w i := by
  obtain ⟨o, ho, hh⟩ : ∃ o, (opsD c)[i]? = some o ∧ headO P ⟨[.ops (opsD c) [o]], d.s⟩ = some (ty, ad) := by
    cases ho : (opsD c)[i]? with
    | none => rw [ho] at hh; cases hh
    | some o => rw [ho] at hh; exact ⟨o, rfl, hh⟩
  exact nxt_val D ho (x := .v v) trivial (ldo_run D.S hl hh) fun a' D' => drq_sound (d := ⟨d.m - 1, d.lst.setIfInBounds i true, d.s.put (((opsD c)[i]?).bind (·.dst)) (.v v)⟩) hs D' fun a'' D'' => h a'' D''
theorem nx_call1 {v : Value} {f : FuncId} {args : Array Value} (hC : Calls P f args w fun e w' => e = .returned v ∧ Below w.heap.size w w') (hh : (((opsD c)[i]?).bind fun o => headC P ⟨[.ops (opsD c) [o]], d.s⟩).map (fun q => (q.1, q.2.map (den bs))) = some (f, args.toList)) (h : ∀ a' w', Sd w0 r B c.s.K ro bs (dV P c ro d i (.v v)).s F a' w' → GD P c QQ B ro (dV P c ro d i (.v v)) a' w') : Nxt P (opsD c) (PQ P (kD c) QQ) (HoldS B c.s.K ro) d.pred d.lst a w i :=
  nx_call i D hs (X := Unit) (val := fun _ => v) (C := fun _ _ => True) (hC.mono fun e w' h => ⟨(), h.1, trivial, h.2⟩) hh fun _ a' w' _ hb D' => h a' w' D'
end
theorem nx_callG {g : Nat} (i : Nat) (D : Sd w0 r B c.s.K ro bs d.s F a w) (h0 : g ∈ r ∨ w0.heap.size ≤ g) (hs : Region.noSelect (opsD c) = true) {v : Value} {C : World → Prop} {f : FuncId} {args : Array Value}
    (hC : Calls P f args w fun e w' => e = .returned v ∧ C w' ∧ w.grownBy w' (some g))
    (hh : (((opsD c)[i]?).bind fun o => headC P ⟨[.ops (opsD c) [o]], d.s⟩).map (fun q => (q.1, q.2.map (den bs))) = some (f, args.toList)) {F' : List RF} (hF : ∀ f ∈ F', f ∈ F ∧ ¬f.bl g) (hnb : ∀ i, i < bs.length → bs.getD i 0 ≠ g)
    (h : ∀ a' w', C w' → Sd w0 r B c.s.K ro bs (dV P c ro d i (.v v)).s F' a' w' → GD P c QQ B ro (dV P c ro d i (.v v)) a' w') : Nxt P (opsD c) (PQ P (kD c) QQ) (HoldS B c.s.K ro) d.pred d.lst a w i :=
  nxt_callG D h0 hC hh hF hnb fun a' w' hx D' => drq_sound (d := ⟨d.m - 1, d.lst.setIfInBounds i true, d.s.put (((opsD c)[i]?).bind (·.dst)) (.v v)⟩) hs D' fun a'' D'' => h a'' w' hx D''
theorem nx_acc {g : Nat} {l l' : List (Int × Bool)} (i : Nat) (D : Sd w0 r B c.s.K ro bs d.s (rfRun g l :: F) a w) (h0 : g ∈ r ∨ w0.heap.size ≤ g) (hs : Region.noSelect (opsD c) = true) {v : Value} {f : FuncId} {args : Array Value}
    (hC : Calls P f args w fun e w' => e = .returned v ∧ RunAt w' g l' ∧ w.grownBy w' (some g))
    (hh : (((opsD c)[i]?).bind fun o => headC P ⟨[.ops (opsD c) [o]], d.s⟩).map (fun q => (q.1, q.2.map (den bs))) = some (f, args.toList)) (hF : ∀ f ∈ F, ¬f.bl g)
    (h : ∀ a' w', Sd w0 r B c.s.K ro bs (dV P c ro d i (.v v)).s (rfRun g l' :: F) a' w' → GD P c QQ B ro (dV P c ro d i (.v v)) a' w') : Nxt P (opsD c) (PQ P (kD c) QQ) (HoldS B c.s.K ro) d.pred d.lst a w i := by
  have hap := (D.S.fs _ (by simp : rfRun g l ∈ rfRun g l :: F)).2
  refine nx_callG i D h0 hs (C := fun w' => RunAt w' g l') hC hh (F' := F) (fun f hf => ⟨List.mem_cons_of_mem _ hf, hF f hf⟩) (fun i hi he => hap i hi (by show _ ≤ g; rw [he]; exact Nat.le_refl _)) ?_
  intro a' w' hR D'
  exact h a' w' (D'.addF (rfRun g l') hR hap)
theorem nx_pan (i : Nat) (D : Sd w0 r B c.s.K ro bs d.s F a w) {ch : List PanicEntry} {f : FuncId} {args : Array Value} {G : List Nat}
    (hC : Calls P f args w fun e w' => e = .panicked ch ∧ Gr w w' G)
    (hh : (((opsD c)[i]?).bind fun o => headC P ⟨[.ops (opsD c) [o]], d.s⟩).map (fun q => (q.1, q.2.map (den bs))) = some (f, args.toList))
    (h : ∀ w', Gr w w' G → QQ (.panic ch) a w') : Nxt P (opsD c) (PQ P (kD c) QQ) (HoldS B c.s.K ro) d.pred d.lst a w i := nxt_panic D hC hh h
theorem gr_gb' {w w' : World} {g : Nat} (h : w.grownBy w' (some g)) : Gr w w' [g] := gr_gb h (by simp)
end
end Go.Proofs.YtfahnmpcclhjlaaGreat.SZ

namespace Go.Proofs.YtfahnmpcclhjlaaGreat
open Go Go.RowKit SZ
set_option linter.unusedVariables false
set_option linter.unusedSectionVars false
set_option linter.unusedSimpArgs false
set_option maxRecDepth 100000
structure Oq where
  k : Int
  bb : Int
  ty : Int
  wa : Option Addr
  da : Option Addr
  wl : Nat
  wc : Nat
  dl : Nat
  dc : Nat
  sa : Option Addr
  sl : Nat
  sc : Nat
def rdC (g : Nat) (R : Rd) (q : Oq) (clk : Int) (sh : Bool) : List Value := [.pointer (some ⟨g, 0, none⟩), .int .i64 R.L.c.t, .int .i64 R.L.c.l, .int .i64 R.L.c.k, .int .i64 R.L.c.s, .int .i64 R.L.c.m, .int .i64 R.L.clock, .int .i64 R.L.stamps, .int .i64 R.L.log, .int .i64 R.L.fin, .int .i64 R.L.thread, .int .i64 R.L.lock, .int .i64 R.L.loc, .int .i64 R.L.size, .int .i64 R.me, .int .i64 q.k, .int .i64 R.a, .int .i64 q.bb, .int .i64 q.ty, .int .i64 R.m.s, .int .i64 R.m.k, .int .i64 R.m.a, .slice q.sa q.sl q.sc, .slice q.wa q.wl q.wc, .slice q.da q.dl q.dc, .int .i64 clk, .bool sh]
def CsPost (s : CSt) (v : Value) (g : Nat) (w : World) (e : Ending) (w' : World) : Prop := match s with
  | (_, some q) => e = .panicked [{ v := .iface 78 q.v, recovered := false }] ∧ w.grownBy w' (some g)
  | (l', none) => e = .returned v ∧ RunAt w' g l' ∧ w.grownBy w' (some g)
theorem heap_gb {w w' : World} {g b : Nat} {o : Obj} (hg : w.grownBy w' (some g)) (h : w.heap[b]? = some o) (hne : b ≠ g) : w'.heap[b]? = some o := (hg.block b (Array.getElem?_eq_some_iff.1 h).1 (by simpa using hne)).trans h
theorem below_same {w w' : World} {r : List Nat} (h : Gr w w' r) (hs : ∀ b ∈ r, w'.heap[b]? = w.heap[b]?) : Below w.heap.size w w' := ⟨h.os, h.tape, h.output, h.size, fun k hk => by
  by_cases hm : k ∈ r
  · exact hs k hm
  · exact h.block k hk hm⟩
theorem below_two {w w' : World} {c0 c1 : Nat} (h : Gr w w' [c0, c1]) (h0 : w'.heap[c0]? = w.heap[c0]?) (h1 : w'.heap[c1]? = w.heap[c1]?) : Below w.heap.size w w' := below_same h fun b hb => by
  simp only [List.mem_cons, List.not_mem_nil, or_false] at hb
  rcases hb with rfl | rfl
  · exact h0
  · exact h1
theorem two_get (c0 c1 : Nat) {i : Nat} (hi : i < [c0, c1].length) : [c0, c1].getD i 0 = c0 ∨ [c0, c1].getD i 0 = c1 := by
  have : i = 0 ∨ i = 1 := by simp at hi; omega
  rcases this with rfl | rfl
  · exact Or.inl rfl
  · exact Or.inr rfl
theorem two_mem {c0 c1 : Nat} : ∀ i, i < [c0, c1].length → [c0, c1].getD i 0 ∈ [c0, c1] := fun i hi => by
  rcases two_get c0 c1 hi with e | e <;> rw [e] <;> simp
theorem two_nd {c0 c1 : Nat} (h : c0 ≠ c1) : ∀ i j, i < [c0, c1].length → j < [c0, c1].length → [c0, c1].getD i 0 = [c0, c1].getD j 0 → i = j := fun i j hi hj he => by
  have h1 : i = 0 ∨ i = 1 := by simp at hi; omega
  have h2 : j = 0 ∨ j = 1 := by simp at hj; omega
  rcases h1 with rfl | rfl <;> rcases h2 with rfl | rfl
  · rfl
  · exact absurd he h
  · exact absurd he.symm h
  · rfl
attribute [local irreducible] post GD Nxt NxtAll
section
variable (w : World) (g c0 c1 h : Nat) (R : Rd) (hok : R.L.ok) (q0 : Oq) (clk : Int) (sh : Bool) (v : Value) (l : List (Int × Bool)) (hv : LogOf w v l) (hvb : ∀ b, v.ownBlock = some b → l.length ≠ 0 → b < g) (hc0 : g < c0) (hc1 : g < c1) (h01 : c0 ≠ c1) (h0h : c0 ≠ h) (h1h : c1 ≠ h) (hI : ∀ x ∈ l, I64 x.1) (h0 : w.heap[c0]? = some (.cells ([.pointer (some ⟨h, 0, none⟩)] : List Value).toArray 60 (0, 0)))
include w g c0 c1 h R hok q0 clk sh v l hv hvb hc0 hc1 h01 h0h h1h hI h0
section
variable (h1 : w.heap[c1]? = some (.cells ([.int .i64 1] : List Value).toArray 3 (0, 0))) (hh : w.heap[h]? = some (.cells (rdC g R q0 clk sh).toArray 62 (0, 0))) (hc : decide (atReaders R.L R.a < 0) = false) (hs : decide (atStatus R.L R.me < 0) = false)
include h1 hh hc hs
set_option maxHeartbeats 8000000 in
theorem mka_1 (q : Ask) (hx : runV (fun m => withT m R.me) (atReaders R.L R.a) l = .inl q) :
    Calls Tryz.prog 39 #[v, .pointer (some ⟨c0, 0, none⟩), .pointer (some ⟨c1, 0, none⟩)] w fun e w' => e = .returned (nextV (.inl q)) ∧ Below w.heap.size w w' := by
  refine sy_enterR [c0, c1] [c0, c1] [⟨60, [.pointer (some ⟨h, 0, none⟩)]⟩, ⟨3, [.int .i64 1]⟩] [.v v, .p 0 0, .p 1 0] [rfLog v l, rfBox h 62 (rdC g R q0 clk sh)] rfl ?_ ?_ ?_ ?_ ?_ Tryz.func39 rfl rfl fun aa S => ?_
  · intro i k hk
    match i, hk with
    | 0, hk => simp at hk; subst hk; exact h0
    | 1, hk => simp at hk; subst hk; exact h1
    | i + 2, hk => simp at hk
  · exact two_nd h01
  · exact two_mem
  · intro x hx
    simp only [List.mem_cons, List.not_mem_nil, or_false] at hx
    rcases hx with rfl | rfl | rfl
    · trivial
    · exact Nat.succ_pos _
    · exact Nat.succ_lt_succ (Nat.succ_pos _)
  · intro f hf
    simp only [List.mem_cons, List.not_mem_nil, or_false] at hf
    rcases hf with rfl | rfl
    · refine ⟨hv, fun i hi hb => ?_⟩
      have := hvb _ hb.1 hb.2
      rcases two_get c0 c1 hi with e | e <;> rw [e] at this <;> omega
    · refine ⟨hh, fun i hi hb => ?_⟩
      have hb : _ = h := hb
      rcases two_get c0 c1 hi with e | e <;> rw [e] at hb
      · exact h0h hb
      · exact h1h hb
  refine sy_run ⟨0, []⟩ 60 S fun bs aa w S => ?_
  refine dr_enter [0, 1] (by kernel_rfl) (by kernel_rfl) S (by kernel_rfl) fun aa w D => ?_
  refine dr_any [3, 7, 13] (by kernel_rfl) (by kernel_rfl) rfl (na3 ?_ ?_ ?_)
  · refine nx_ld 3 D (by kernel_rfl) (D.S.ldBox (b := h) (ty' := 62) (cs := rdC g R q0 clk sh) (o := 1) (ty := 25) (v := R.L.v) (by simp) (by kernel_rfl)) (by kernel_rfl) fun aa D => ?_
    refine dr_any [7, 13] (by kernel_rfl) (by kernel_rfl) rfl (na2 ?_ ?_)
    · refine nx_ld 7 D (by kernel_rfl) (D.S.ldBox (b := h) (ty' := 62) (cs := rdC g R q0 clk sh) (o := 14) (ty := 3) (v := .int .i64 R.me) (by simp) (by kernel_rfl)) (by kernel_rfl) fun aa D => ?_
      refine dr_any [13] (by kernel_rfl) (by kernel_rfl) rfl (na1 ?_)
      · refine nx_ld 13 D (by kernel_rfl) (D.S.ldBox (b := h) (ty' := 62) (cs := rdC g R q0 clk sh) (o := 16) (ty := 3) (v := .int .i64 R.a) (by simp) (by kernel_rfl)) (by kernel_rfl) fun aa D => ?_
        refine dr_any [16] (by kernel_rfl) (by kernel_rfl) rfl (na1 ?_)
        · refine nx_call1 16 D (by kernel_rfl) (nxtc_1 w R.L hok R.me R.a 0 0 0 0 0 none none none 0 0 0 0 0 0 v l (D.S.fact (f := rfLog v l) (by simp)) hI hc hs _ hx) (by kernel_rfl) fun aa w D => ?_
          refine dr_any [20] (by kernel_rfl) (by kernel_rfl) rfl (na1 ?_)
          · refine nx_op 20 D (by kernel_rfl) (Nat.le_refl _) (by kernel_rfl) (by kernel_rfl) fun bs aa w D hl => ?_
            refine dr_any [21] (by kernel_rfl) (by kernel_rfl) rfl (na1 ?_)
            · refine nx_op 21 D (by kernel_rfl) hl (by kernel_rfl) (by kernel_rfl) fun bs aa w D hl => ?_
              refine dr_end D (by kernel_rfl) fun S => ?_
              refine sy_run ⟨0, []⟩ 60 S fun bs aa w S => ?_
              have e0 := S.bx 0 ⟨60, [.pointer (some ⟨h, 0, none⟩)]⟩ (by kernel_rfl)
              have e1 := S.bx 1 ⟨3, [.int .i64 1]⟩ (by kernel_rfl)
              exact sy_ret S (by kernel_rfl) (by kernel_rfl) fun hg => ⟨rfl, below_two hg (e0.trans h0.symm) (e1.trans h1.symm)⟩
    · refine nx_ld 13 D (by kernel_rfl) (D.S.ldBox (b := h) (ty' := 62) (cs := rdC g R q0 clk sh) (o := 16) (ty := 3) (v := .int .i64 R.a) (by simp) (by kernel_rfl)) (by kernel_rfl) fun aa D => ?_
      refine dr_any [7] (by kernel_rfl) (by kernel_rfl) rfl (na1 ?_)
      · refine nx_ld 7 D (by kernel_rfl) (D.S.ldBox (b := h) (ty' := 62) (cs := rdC g R q0 clk sh) (o := 14) (ty := 3) (v := .int .i64 R.me) (by simp) (by kernel_rfl)) (by kernel_rfl) fun aa D => ?_
        refine dr_any [16] (by kernel_rfl) (by kernel_rfl) rfl (na1 ?_)
        · refine nx_call1 16 D (by kernel_rfl) (nxtc_1 w R.L hok R.me R.a 0 0 0 0 0 none none none 0 0 0 0 0 0 v l (D.S.fact (f := rfLog v l) (by simp)) hI hc hs _ hx) (by kernel_rfl) fun aa w D => ?_
          refine dr_any [20] (by kernel_rfl) (by kernel_rfl) rfl (na1 ?_)
          · refine nx_op 20 D (by kernel_rfl) (Nat.le_refl _) (by kernel_rfl) (by kernel_rfl) fun bs aa w D hl => ?_
            refine dr_any [21] (by kernel_rfl) (by kernel_rfl) rfl (na1 ?_)
            · refine nx_op 21 D (by kernel_rfl) hl (by kernel_rfl) (by kernel_rfl) fun bs aa w D hl => ?_
              refine dr_end D (by kernel_rfl) fun S => ?_
              refine sy_run ⟨0, []⟩ 60 S fun bs aa w S => ?_
              have e0 := S.bx 0 ⟨60, [.pointer (some ⟨h, 0, none⟩)]⟩ (by kernel_rfl)
              have e1 := S.bx 1 ⟨3, [.int .i64 1]⟩ (by kernel_rfl)
              exact sy_ret S (by kernel_rfl) (by kernel_rfl) fun hg => ⟨rfl, below_two hg (e0.trans h0.symm) (e1.trans h1.symm)⟩
  · refine nx_ld 7 D (by kernel_rfl) (D.S.ldBox (b := h) (ty' := 62) (cs := rdC g R q0 clk sh) (o := 14) (ty := 3) (v := .int .i64 R.me) (by simp) (by kernel_rfl)) (by kernel_rfl) fun aa D => ?_
    refine dr_any [3, 13] (by kernel_rfl) (by kernel_rfl) rfl (na2 ?_ ?_)
    · refine nx_ld 3 D (by kernel_rfl) (D.S.ldBox (b := h) (ty' := 62) (cs := rdC g R q0 clk sh) (o := 1) (ty := 25) (v := R.L.v) (by simp) (by kernel_rfl)) (by kernel_rfl) fun aa D => ?_
      refine dr_any [13] (by kernel_rfl) (by kernel_rfl) rfl (na1 ?_)
      · refine nx_ld 13 D (by kernel_rfl) (D.S.ldBox (b := h) (ty' := 62) (cs := rdC g R q0 clk sh) (o := 16) (ty := 3) (v := .int .i64 R.a) (by simp) (by kernel_rfl)) (by kernel_rfl) fun aa D => ?_
        refine dr_any [16] (by kernel_rfl) (by kernel_rfl) rfl (na1 ?_)
        · refine nx_call1 16 D (by kernel_rfl) (nxtc_1 w R.L hok R.me R.a 0 0 0 0 0 none none none 0 0 0 0 0 0 v l (D.S.fact (f := rfLog v l) (by simp)) hI hc hs _ hx) (by kernel_rfl) fun aa w D => ?_
          refine dr_any [20] (by kernel_rfl) (by kernel_rfl) rfl (na1 ?_)
          · refine nx_op 20 D (by kernel_rfl) (Nat.le_refl _) (by kernel_rfl) (by kernel_rfl) fun bs aa w D hl => ?_
            refine dr_any [21] (by kernel_rfl) (by kernel_rfl) rfl (na1 ?_)
            · refine nx_op 21 D (by kernel_rfl) hl (by kernel_rfl) (by kernel_rfl) fun bs aa w D hl => ?_
              refine dr_end D (by kernel_rfl) fun S => ?_
              refine sy_run ⟨0, []⟩ 60 S fun bs aa w S => ?_
              have e0 := S.bx 0 ⟨60, [.pointer (some ⟨h, 0, none⟩)]⟩ (by kernel_rfl)
              have e1 := S.bx 1 ⟨3, [.int .i64 1]⟩ (by kernel_rfl)
              exact sy_ret S (by kernel_rfl) (by kernel_rfl) fun hg => ⟨rfl, below_two hg (e0.trans h0.symm) (e1.trans h1.symm)⟩
    · refine nx_ld 13 D (by kernel_rfl) (D.S.ldBox (b := h) (ty' := 62) (cs := rdC g R q0 clk sh) (o := 16) (ty := 3) (v := .int .i64 R.a) (by simp) (by kernel_rfl)) (by kernel_rfl) fun aa D => ?_
      refine dr_any [3] (by kernel_rfl) (by kernel_rfl) rfl (na1 ?_)
      · refine nx_ld 3 D (by kernel_rfl) (D.S.ldBox (b := h) (ty' := 62) (cs := rdC g R q0 clk sh) (o := 1) (ty := 25) (v := R.L.v) (by simp) (by kernel_rfl)) (by kernel_rfl) fun aa D => ?_
        refine dr_any [16] (by kernel_rfl) (by kernel_rfl) rfl (na1 ?_)
        · refine nx_call1 16 D (by kernel_rfl) (nxtc_1 w R.L hok R.me R.a 0 0 0 0 0 none none none 0 0 0 0 0 0 v l (D.S.fact (f := rfLog v l) (by simp)) hI hc hs _ hx) (by kernel_rfl) fun aa w D => ?_
          refine dr_any [20] (by kernel_rfl) (by kernel_rfl) rfl (na1 ?_)
          · refine nx_op 20 D (by kernel_rfl) (Nat.le_refl _) (by kernel_rfl) (by kernel_rfl) fun bs aa w D hl => ?_
            refine dr_any [21] (by kernel_rfl) (by kernel_rfl) rfl (na1 ?_)
            · refine nx_op 21 D (by kernel_rfl) hl (by kernel_rfl) (by kernel_rfl) fun bs aa w D hl => ?_
              refine dr_end D (by kernel_rfl) fun S => ?_
              refine sy_run ⟨0, []⟩ 60 S fun bs aa w S => ?_
              have e0 := S.bx 0 ⟨60, [.pointer (some ⟨h, 0, none⟩)]⟩ (by kernel_rfl)
              have e1 := S.bx 1 ⟨3, [.int .i64 1]⟩ (by kernel_rfl)
              exact sy_ret S (by kernel_rfl) (by kernel_rfl) fun hg => ⟨rfl, below_two hg (e0.trans h0.symm) (e1.trans h1.symm)⟩
  · refine nx_ld 13 D (by kernel_rfl) (D.S.ldBox (b := h) (ty' := 62) (cs := rdC g R q0 clk sh) (o := 16) (ty := 3) (v := .int .i64 R.a) (by simp) (by kernel_rfl)) (by kernel_rfl) fun aa D => ?_
    refine dr_any [3, 7] (by kernel_rfl) (by kernel_rfl) rfl (na2 ?_ ?_)
    · refine nx_ld 3 D (by kernel_rfl) (D.S.ldBox (b := h) (ty' := 62) (cs := rdC g R q0 clk sh) (o := 1) (ty := 25) (v := R.L.v) (by simp) (by kernel_rfl)) (by kernel_rfl) fun aa D => ?_
      refine dr_any [7] (by kernel_rfl) (by kernel_rfl) rfl (na1 ?_)
      · refine nx_ld 7 D (by kernel_rfl) (D.S.ldBox (b := h) (ty' := 62) (cs := rdC g R q0 clk sh) (o := 14) (ty := 3) (v := .int .i64 R.me) (by simp) (by kernel_rfl)) (by kernel_rfl) fun aa D => ?_
        refine dr_any [16] (by kernel_rfl) (by kernel_rfl) rfl (na1 ?_)
        · refine nx_call1 16 D (by kernel_rfl) (nxtc_1 w R.L hok R.me R.a 0 0 0 0 0 none none none 0 0 0 0 0 0 v l (D.S.fact (f := rfLog v l) (by simp)) hI hc hs _ hx) (by kernel_rfl) fun aa w D => ?_
          refine dr_any [20] (by kernel_rfl) (by kernel_rfl) rfl (na1 ?_)
          · refine nx_op 20 D (by kernel_rfl) (Nat.le_refl _) (by kernel_rfl) (by kernel_rfl) fun bs aa w D hl => ?_
            refine dr_any [21] (by kernel_rfl) (by kernel_rfl) rfl (na1 ?_)
            · refine nx_op 21 D (by kernel_rfl) hl (by kernel_rfl) (by kernel_rfl) fun bs aa w D hl => ?_
              refine dr_end D (by kernel_rfl) fun S => ?_
              refine sy_run ⟨0, []⟩ 60 S fun bs aa w S => ?_
              have e0 := S.bx 0 ⟨60, [.pointer (some ⟨h, 0, none⟩)]⟩ (by kernel_rfl)
              have e1 := S.bx 1 ⟨3, [.int .i64 1]⟩ (by kernel_rfl)
              exact sy_ret S (by kernel_rfl) (by kernel_rfl) fun hg => ⟨rfl, below_two hg (e0.trans h0.symm) (e1.trans h1.symm)⟩
    · refine nx_ld 7 D (by kernel_rfl) (D.S.ldBox (b := h) (ty' := 62) (cs := rdC g R q0 clk sh) (o := 14) (ty := 3) (v := .int .i64 R.me) (by simp) (by kernel_rfl)) (by kernel_rfl) fun aa D => ?_
      refine dr_any [3] (by kernel_rfl) (by kernel_rfl) rfl (na1 ?_)
      · refine nx_ld 3 D (by kernel_rfl) (D.S.ldBox (b := h) (ty' := 62) (cs := rdC g R q0 clk sh) (o := 1) (ty := 25) (v := R.L.v) (by simp) (by kernel_rfl)) (by kernel_rfl) fun aa D => ?_
        refine dr_any [16] (by kernel_rfl) (by kernel_rfl) rfl (na1 ?_)
        · refine nx_call1 16 D (by kernel_rfl) (nxtc_1 w R.L hok R.me R.a 0 0 0 0 0 none none none 0 0 0 0 0 0 v l (D.S.fact (f := rfLog v l) (by simp)) hI hc hs _ hx) (by kernel_rfl) fun aa w D => ?_
          refine dr_any [20] (by kernel_rfl) (by kernel_rfl) rfl (na1 ?_)
          · refine nx_op 20 D (by kernel_rfl) (Nat.le_refl _) (by kernel_rfl) (by kernel_rfl) fun bs aa w D hl => ?_
            refine dr_any [21] (by kernel_rfl) (by kernel_rfl) rfl (na1 ?_)
            · refine nx_op 21 D (by kernel_rfl) hl (by kernel_rfl) (by kernel_rfl) fun bs aa w D hl => ?_
              refine dr_end D (by kernel_rfl) fun S => ?_
              refine sy_run ⟨0, []⟩ 60 S fun bs aa w S => ?_
              have e0 := S.bx 0 ⟨60, [.pointer (some ⟨h, 0, none⟩)]⟩ (by kernel_rfl)
              have e1 := S.bx 1 ⟨3, [.int .i64 1]⟩ (by kernel_rfl)
              exact sy_ret S (by kernel_rfl) (by kernel_rfl) fun hg => ⟨rfl, below_two hg (e0.trans h0.symm) (e1.trans h1.symm)⟩
set_option maxHeartbeats 8000000 in
theorem mkb_1 (o : OutD) (hx : runV (fun m => withT m R.me) (atReaders R.L R.a) l = .inr o) :
    Calls Tryz.prog 39 #[v, .pointer (some ⟨c0, 0, none⟩), .pointer (some ⟨c1, 0, none⟩)] w fun e w' => e = .returned (nextV (.inr o)) ∧ Below w.heap.size w w' := by
  refine sy_enterR [c0, c1] [c0, c1] [⟨60, [.pointer (some ⟨h, 0, none⟩)]⟩, ⟨3, [.int .i64 1]⟩] [.v v, .p 0 0, .p 1 0] [rfLog v l, rfBox h 62 (rdC g R q0 clk sh)] rfl ?_ ?_ ?_ ?_ ?_ Tryz.func39 rfl rfl fun aa S => ?_
  · intro i k hk
    match i, hk with
    | 0, hk => simp at hk; subst hk; exact h0
    | 1, hk => simp at hk; subst hk; exact h1
    | i + 2, hk => simp at hk
  · exact two_nd h01
  · exact two_mem
  · intro x hx
    simp only [List.mem_cons, List.not_mem_nil, or_false] at hx
    rcases hx with rfl | rfl | rfl
    · trivial
    · exact Nat.succ_pos _
    · exact Nat.succ_lt_succ (Nat.succ_pos _)
  · intro f hf
    simp only [List.mem_cons, List.not_mem_nil, or_false] at hf
    rcases hf with rfl | rfl
    · refine ⟨hv, fun i hi hb => ?_⟩
      have := hvb _ hb.1 hb.2
      rcases two_get c0 c1 hi with e | e <;> rw [e] at this <;> omega
    · refine ⟨hh, fun i hi hb => ?_⟩
      have hb : _ = h := hb
      rcases two_get c0 c1 hi with e | e <;> rw [e] at hb
      · exact h0h hb
      · exact h1h hb
  refine sy_run ⟨0, []⟩ 60 S fun bs aa w S => ?_
  refine dr_enter [0, 1] (by kernel_rfl) (by kernel_rfl) S (by kernel_rfl) fun aa w D => ?_
  refine dr_any [3, 7, 13] (by kernel_rfl) (by kernel_rfl) rfl (na3 ?_ ?_ ?_)
  · refine nx_ld 3 D (by kernel_rfl) (D.S.ldBox (b := h) (ty' := 62) (cs := rdC g R q0 clk sh) (o := 1) (ty := 25) (v := R.L.v) (by simp) (by kernel_rfl)) (by kernel_rfl) fun aa D => ?_
    refine dr_any [7, 13] (by kernel_rfl) (by kernel_rfl) rfl (na2 ?_ ?_)
    · refine nx_ld 7 D (by kernel_rfl) (D.S.ldBox (b := h) (ty' := 62) (cs := rdC g R q0 clk sh) (o := 14) (ty := 3) (v := .int .i64 R.me) (by simp) (by kernel_rfl)) (by kernel_rfl) fun aa D => ?_
      refine dr_any [13] (by kernel_rfl) (by kernel_rfl) rfl (na1 ?_)
      · refine nx_ld 13 D (by kernel_rfl) (D.S.ldBox (b := h) (ty' := 62) (cs := rdC g R q0 clk sh) (o := 16) (ty := 3) (v := .int .i64 R.a) (by simp) (by kernel_rfl)) (by kernel_rfl) fun aa D => ?_
        refine dr_any [16] (by kernel_rfl) (by kernel_rfl) rfl (na1 ?_)
        · refine nx_call1 16 D (by kernel_rfl) (nxtc_1 w R.L hok R.me R.a 0 0 0 0 0 none none none 0 0 0 0 0 0 v l (D.S.fact (f := rfLog v l) (by simp)) hI hc hs _ hx) (by kernel_rfl) fun aa w D => ?_
          refine dr_any [20] (by kernel_rfl) (by kernel_rfl) rfl (na1 ?_)
          · refine nx_op 20 D (by kernel_rfl) (Nat.le_refl _) (by kernel_rfl) (by kernel_rfl) fun bs aa w D hl => ?_
            refine dr_any [21] (by kernel_rfl) (by kernel_rfl) rfl (na1 ?_)
            · refine nx_op 21 D (by kernel_rfl) hl (by kernel_rfl) (by kernel_rfl) fun bs aa w D hl => ?_
              refine dr_end D (by kernel_rfl) fun S => ?_
              refine sy_run ⟨0, []⟩ 60 S fun bs aa w S => ?_
              have e0 := S.bx 0 ⟨60, [.pointer (some ⟨h, 0, none⟩)]⟩ (by kernel_rfl)
              have e1 := S.bx 1 ⟨3, [.int .i64 1]⟩ (by kernel_rfl)
              exact sy_ret S (by kernel_rfl) (by kernel_rfl) fun hg => ⟨rfl, below_two hg (e0.trans h0.symm) (e1.trans h1.symm)⟩
    · refine nx_ld 13 D (by kernel_rfl) (D.S.ldBox (b := h) (ty' := 62) (cs := rdC g R q0 clk sh) (o := 16) (ty := 3) (v := .int .i64 R.a) (by simp) (by kernel_rfl)) (by kernel_rfl) fun aa D => ?_
      refine dr_any [7] (by kernel_rfl) (by kernel_rfl) rfl (na1 ?_)
      · refine nx_ld 7 D (by kernel_rfl) (D.S.ldBox (b := h) (ty' := 62) (cs := rdC g R q0 clk sh) (o := 14) (ty := 3) (v := .int .i64 R.me) (by simp) (by kernel_rfl)) (by kernel_rfl) fun aa D => ?_
        refine dr_any [16] (by kernel_rfl) (by kernel_rfl) rfl (na1 ?_)
        · refine nx_call1 16 D (by kernel_rfl) (nxtc_1 w R.L hok R.me R.a 0 0 0 0 0 none none none 0 0 0 0 0 0 v l (D.S.fact (f := rfLog v l) (by simp)) hI hc hs _ hx) (by kernel_rfl) fun aa w D => ?_
          refine dr_any [20] (by kernel_rfl) (by kernel_rfl) rfl (na1 ?_)
          · refine nx_op 20 D (by kernel_rfl) (Nat.le_refl _) (by kernel_rfl) (by kernel_rfl) fun bs aa w D hl => ?_
            refine dr_any [21] (by kernel_rfl) (by kernel_rfl) rfl (na1 ?_)
            · refine nx_op 21 D (by kernel_rfl) hl (by kernel_rfl) (by kernel_rfl) fun bs aa w D hl => ?_
              refine dr_end D (by kernel_rfl) fun S => ?_
              refine sy_run ⟨0, []⟩ 60 S fun bs aa w S => ?_
              have e0 := S.bx 0 ⟨60, [.pointer (some ⟨h, 0, none⟩)]⟩ (by kernel_rfl)
              have e1 := S.bx 1 ⟨3, [.int .i64 1]⟩ (by kernel_rfl)
              exact sy_ret S (by kernel_rfl) (by kernel_rfl) fun hg => ⟨rfl, below_two hg (e0.trans h0.symm) (e1.trans h1.symm)⟩
  · refine nx_ld 7 D (by kernel_rfl) (D.S.ldBox (b := h) (ty' := 62) (cs := rdC g R q0 clk sh) (o := 14) (ty := 3) (v := .int .i64 R.me) (by simp) (by kernel_rfl)) (by kernel_rfl) fun aa D => ?_
    refine dr_any [3, 13] (by kernel_rfl) (by kernel_rfl) rfl (na2 ?_ ?_)
    · refine nx_ld 3 D (by kernel_rfl) (D.S.ldBox (b := h) (ty' := 62) (cs := rdC g R q0 clk sh) (o := 1) (ty := 25) (v := R.L.v) (by simp) (by kernel_rfl)) (by kernel_rfl) fun aa D => ?_
      refine dr_any [13] (by kernel_rfl) (by kernel_rfl) rfl (na1 ?_)
      · refine nx_ld 13 D (by kernel_rfl) (D.S.ldBox (b := h) (ty' := 62) (cs := rdC g R q0 clk sh) (o := 16) (ty := 3) (v := .int .i64 R.a) (by simp) (by kernel_rfl)) (by kernel_rfl) fun aa D => ?_
        refine dr_any [16] (by kernel_rfl) (by kernel_rfl) rfl (na1 ?_)
        · refine nx_call1 16 D (by kernel_rfl) (nxtc_1 w R.L hok R.me R.a 0 0 0 0 0 none none none 0 0 0 0 0 0 v l (D.S.fact (f := rfLog v l) (by simp)) hI hc hs _ hx) (by kernel_rfl) fun aa w D => ?_
          refine dr_any [20] (by kernel_rfl) (by kernel_rfl) rfl (na1 ?_)
          · refine nx_op 20 D (by kernel_rfl) (Nat.le_refl _) (by kernel_rfl) (by kernel_rfl) fun bs aa w D hl => ?_
            refine dr_any [21] (by kernel_rfl) (by kernel_rfl) rfl (na1 ?_)
            · refine nx_op 21 D (by kernel_rfl) hl (by kernel_rfl) (by kernel_rfl) fun bs aa w D hl => ?_
              refine dr_end D (by kernel_rfl) fun S => ?_
              refine sy_run ⟨0, []⟩ 60 S fun bs aa w S => ?_
              have e0 := S.bx 0 ⟨60, [.pointer (some ⟨h, 0, none⟩)]⟩ (by kernel_rfl)
              have e1 := S.bx 1 ⟨3, [.int .i64 1]⟩ (by kernel_rfl)
              exact sy_ret S (by kernel_rfl) (by kernel_rfl) fun hg => ⟨rfl, below_two hg (e0.trans h0.symm) (e1.trans h1.symm)⟩
    · refine nx_ld 13 D (by kernel_rfl) (D.S.ldBox (b := h) (ty' := 62) (cs := rdC g R q0 clk sh) (o := 16) (ty := 3) (v := .int .i64 R.a) (by simp) (by kernel_rfl)) (by kernel_rfl) fun aa D => ?_
      refine dr_any [3] (by kernel_rfl) (by kernel_rfl) rfl (na1 ?_)
      · refine nx_ld 3 D (by kernel_rfl) (D.S.ldBox (b := h) (ty' := 62) (cs := rdC g R q0 clk sh) (o := 1) (ty := 25) (v := R.L.v) (by simp) (by kernel_rfl)) (by kernel_rfl) fun aa D => ?_
        refine dr_any [16] (by kernel_rfl) (by kernel_rfl) rfl (na1 ?_)
        · refine nx_call1 16 D (by kernel_rfl) (nxtc_1 w R.L hok R.me R.a 0 0 0 0 0 none none none 0 0 0 0 0 0 v l (D.S.fact (f := rfLog v l) (by simp)) hI hc hs _ hx) (by kernel_rfl) fun aa w D => ?_
          refine dr_any [20] (by kernel_rfl) (by kernel_rfl) rfl (na1 ?_)
          · refine nx_op 20 D (by kernel_rfl) (Nat.le_refl _) (by kernel_rfl) (by kernel_rfl) fun bs aa w D hl => ?_
            refine dr_any [21] (by kernel_rfl) (by kernel_rfl) rfl (na1 ?_)
            · refine nx_op 21 D (by kernel_rfl) hl (by kernel_rfl) (by kernel_rfl) fun bs aa w D hl => ?_
              refine dr_end D (by kernel_rfl) fun S => ?_
              refine sy_run ⟨0, []⟩ 60 S fun bs aa w S => ?_
              have e0 := S.bx 0 ⟨60, [.pointer (some ⟨h, 0, none⟩)]⟩ (by kernel_rfl)
              have e1 := S.bx 1 ⟨3, [.int .i64 1]⟩ (by kernel_rfl)
              exact sy_ret S (by kernel_rfl) (by kernel_rfl) fun hg => ⟨rfl, below_two hg (e0.trans h0.symm) (e1.trans h1.symm)⟩
  · refine nx_ld 13 D (by kernel_rfl) (D.S.ldBox (b := h) (ty' := 62) (cs := rdC g R q0 clk sh) (o := 16) (ty := 3) (v := .int .i64 R.a) (by simp) (by kernel_rfl)) (by kernel_rfl) fun aa D => ?_
    refine dr_any [3, 7] (by kernel_rfl) (by kernel_rfl) rfl (na2 ?_ ?_)
    · refine nx_ld 3 D (by kernel_rfl) (D.S.ldBox (b := h) (ty' := 62) (cs := rdC g R q0 clk sh) (o := 1) (ty := 25) (v := R.L.v) (by simp) (by kernel_rfl)) (by kernel_rfl) fun aa D => ?_
      refine dr_any [7] (by kernel_rfl) (by kernel_rfl) rfl (na1 ?_)
      · refine nx_ld 7 D (by kernel_rfl) (D.S.ldBox (b := h) (ty' := 62) (cs := rdC g R q0 clk sh) (o := 14) (ty := 3) (v := .int .i64 R.me) (by simp) (by kernel_rfl)) (by kernel_rfl) fun aa D => ?_
        refine dr_any [16] (by kernel_rfl) (by kernel_rfl) rfl (na1 ?_)
        · refine nx_call1 16 D (by kernel_rfl) (nxtc_1 w R.L hok R.me R.a 0 0 0 0 0 none none none 0 0 0 0 0 0 v l (D.S.fact (f := rfLog v l) (by simp)) hI hc hs _ hx) (by kernel_rfl) fun aa w D => ?_
          refine dr_any [20] (by kernel_rfl) (by kernel_rfl) rfl (na1 ?_)
          · refine nx_op 20 D (by kernel_rfl) (Nat.le_refl _) (by kernel_rfl) (by kernel_rfl) fun bs aa w D hl => ?_
            refine dr_any [21] (by kernel_rfl) (by kernel_rfl) rfl (na1 ?_)
            · refine nx_op 21 D (by kernel_rfl) hl (by kernel_rfl) (by kernel_rfl) fun bs aa w D hl => ?_
              refine dr_end D (by kernel_rfl) fun S => ?_
              refine sy_run ⟨0, []⟩ 60 S fun bs aa w S => ?_
              have e0 := S.bx 0 ⟨60, [.pointer (some ⟨h, 0, none⟩)]⟩ (by kernel_rfl)
              have e1 := S.bx 1 ⟨3, [.int .i64 1]⟩ (by kernel_rfl)
              exact sy_ret S (by kernel_rfl) (by kernel_rfl) fun hg => ⟨rfl, below_two hg (e0.trans h0.symm) (e1.trans h1.symm)⟩
    · refine nx_ld 7 D (by kernel_rfl) (D.S.ldBox (b := h) (ty' := 62) (cs := rdC g R q0 clk sh) (o := 14) (ty := 3) (v := .int .i64 R.me) (by simp) (by kernel_rfl)) (by kernel_rfl) fun aa D => ?_
      refine dr_any [3] (by kernel_rfl) (by kernel_rfl) rfl (na1 ?_)
      · refine nx_ld 3 D (by kernel_rfl) (D.S.ldBox (b := h) (ty' := 62) (cs := rdC g R q0 clk sh) (o := 1) (ty := 25) (v := R.L.v) (by simp) (by kernel_rfl)) (by kernel_rfl) fun aa D => ?_
        refine dr_any [16] (by kernel_rfl) (by kernel_rfl) rfl (na1 ?_)
        · refine nx_call1 16 D (by kernel_rfl) (nxtc_1 w R.L hok R.me R.a 0 0 0 0 0 none none none 0 0 0 0 0 0 v l (D.S.fact (f := rfLog v l) (by simp)) hI hc hs _ hx) (by kernel_rfl) fun aa w D => ?_
          refine dr_any [20] (by kernel_rfl) (by kernel_rfl) rfl (na1 ?_)
          · refine nx_op 20 D (by kernel_rfl) (Nat.le_refl _) (by kernel_rfl) (by kernel_rfl) fun bs aa w D hl => ?_
            refine dr_any [21] (by kernel_rfl) (by kernel_rfl) rfl (na1 ?_)
            · refine nx_op 21 D (by kernel_rfl) hl (by kernel_rfl) (by kernel_rfl) fun bs aa w D hl => ?_
              refine dr_end D (by kernel_rfl) fun S => ?_
              refine sy_run ⟨0, []⟩ 60 S fun bs aa w S => ?_
              have e0 := S.bx 0 ⟨60, [.pointer (some ⟨h, 0, none⟩)]⟩ (by kernel_rfl)
              have e1 := S.bx 1 ⟨3, [.int .i64 1]⟩ (by kernel_rfl)
              exact sy_ret S (by kernel_rfl) (by kernel_rfl) fun hg => ⟨rfl, below_two hg (e0.trans h0.symm) (e1.trans h1.symm)⟩
end
section
variable (h1 : w.heap[c1]? = some (.cells ([.int .i64 2] : List Value).toArray 3 (0, 0))) (hh : w.heap[h]? = some (.cells (rdC g R q0 clk sh).toArray 62 (0, 0))) (hc : decide (atReaders R.L R.a < 0) = false) (hs : decide (atStatus R.L R.me < 0) = false)
include h1 hh hc hs
set_option maxHeartbeats 8000000 in
theorem mka_2 (q : Ask) (hx : runV (fun m => sansT m R.me) (atReaders R.L R.a) l = .inl q) :
    Calls Tryz.prog 39 #[v, .pointer (some ⟨c0, 0, none⟩), .pointer (some ⟨c1, 0, none⟩)] w fun e w' => e = .returned (nextV (.inl q)) ∧ Below w.heap.size w w' := by
  refine sy_enterR [c0, c1] [c0, c1] [⟨60, [.pointer (some ⟨h, 0, none⟩)]⟩, ⟨3, [.int .i64 2]⟩] [.v v, .p 0 0, .p 1 0] [rfLog v l, rfBox h 62 (rdC g R q0 clk sh)] rfl ?_ ?_ ?_ ?_ ?_ Tryz.func39 rfl rfl fun aa S => ?_
  · intro i k hk
    match i, hk with
    | 0, hk => simp at hk; subst hk; exact h0
    | 1, hk => simp at hk; subst hk; exact h1
    | i + 2, hk => simp at hk
  · exact two_nd h01
  · exact two_mem
  · intro x hx
    simp only [List.mem_cons, List.not_mem_nil, or_false] at hx
    rcases hx with rfl | rfl | rfl
    · trivial
    · exact Nat.succ_pos _
    · exact Nat.succ_lt_succ (Nat.succ_pos _)
  · intro f hf
    simp only [List.mem_cons, List.not_mem_nil, or_false] at hf
    rcases hf with rfl | rfl
    · refine ⟨hv, fun i hi hb => ?_⟩
      have := hvb _ hb.1 hb.2
      rcases two_get c0 c1 hi with e | e <;> rw [e] at this <;> omega
    · refine ⟨hh, fun i hi hb => ?_⟩
      have hb : _ = h := hb
      rcases two_get c0 c1 hi with e | e <;> rw [e] at hb
      · exact h0h hb
      · exact h1h hb
  refine sy_run ⟨0, []⟩ 60 S fun bs aa w S => ?_
  refine dr_enter [0, 1] (by kernel_rfl) (by kernel_rfl) S (by kernel_rfl) fun aa w D => ?_
  refine dr_any [3, 7, 13] (by kernel_rfl) (by kernel_rfl) rfl (na3 ?_ ?_ ?_)
  · refine nx_ld 3 D (by kernel_rfl) (D.S.ldBox (b := h) (ty' := 62) (cs := rdC g R q0 clk sh) (o := 1) (ty := 25) (v := R.L.v) (by simp) (by kernel_rfl)) (by kernel_rfl) fun aa D => ?_
    refine dr_any [7, 13] (by kernel_rfl) (by kernel_rfl) rfl (na2 ?_ ?_)
    · refine nx_ld 7 D (by kernel_rfl) (D.S.ldBox (b := h) (ty' := 62) (cs := rdC g R q0 clk sh) (o := 14) (ty := 3) (v := .int .i64 R.me) (by simp) (by kernel_rfl)) (by kernel_rfl) fun aa D => ?_
      refine dr_any [13] (by kernel_rfl) (by kernel_rfl) rfl (na1 ?_)
      · refine nx_ld 13 D (by kernel_rfl) (D.S.ldBox (b := h) (ty' := 62) (cs := rdC g R q0 clk sh) (o := 16) (ty := 3) (v := .int .i64 R.a) (by simp) (by kernel_rfl)) (by kernel_rfl) fun aa D => ?_
        refine dr_any [16] (by kernel_rfl) (by kernel_rfl) rfl (na1 ?_)
        · refine nx_call1 16 D (by kernel_rfl) (nxtc_2 w R.L hok R.me R.a 0 0 0 0 0 none none none 0 0 0 0 0 0 v l (D.S.fact (f := rfLog v l) (by simp)) hI hc hs _ hx) (by kernel_rfl) fun aa w D => ?_
          refine dr_any [20] (by kernel_rfl) (by kernel_rfl) rfl (na1 ?_)
          · refine nx_op 20 D (by kernel_rfl) (Nat.le_refl _) (by kernel_rfl) (by kernel_rfl) fun bs aa w D hl => ?_
            refine dr_any [21] (by kernel_rfl) (by kernel_rfl) rfl (na1 ?_)
            · refine nx_op 21 D (by kernel_rfl) hl (by kernel_rfl) (by kernel_rfl) fun bs aa w D hl => ?_
              refine dr_end D (by kernel_rfl) fun S => ?_
              refine sy_run ⟨0, []⟩ 60 S fun bs aa w S => ?_
              have e0 := S.bx 0 ⟨60, [.pointer (some ⟨h, 0, none⟩)]⟩ (by kernel_rfl)
              have e1 := S.bx 1 ⟨3, [.int .i64 2]⟩ (by kernel_rfl)
              exact sy_ret S (by kernel_rfl) (by kernel_rfl) fun hg => ⟨rfl, below_two hg (e0.trans h0.symm) (e1.trans h1.symm)⟩
    · refine nx_ld 13 D (by kernel_rfl) (D.S.ldBox (b := h) (ty' := 62) (cs := rdC g R q0 clk sh) (o := 16) (ty := 3) (v := .int .i64 R.a) (by simp) (by kernel_rfl)) (by kernel_rfl) fun aa D => ?_
      refine dr_any [7] (by kernel_rfl) (by kernel_rfl) rfl (na1 ?_)
      · refine nx_ld 7 D (by kernel_rfl) (D.S.ldBox (b := h) (ty' := 62) (cs := rdC g R q0 clk sh) (o := 14) (ty := 3) (v := .int .i64 R.me) (by simp) (by kernel_rfl)) (by kernel_rfl) fun aa D => ?_
        refine dr_any [16] (by kernel_rfl) (by kernel_rfl) rfl (na1 ?_)
        · refine nx_call1 16 D (by kernel_rfl) (nxtc_2 w R.L hok R.me R.a 0 0 0 0 0 none none none 0 0 0 0 0 0 v l (D.S.fact (f := rfLog v l) (by simp)) hI hc hs _ hx) (by kernel_rfl) fun aa w D => ?_
          refine dr_any [20] (by kernel_rfl) (by kernel_rfl) rfl (na1 ?_)
          · refine nx_op 20 D (by kernel_rfl) (Nat.le_refl _) (by kernel_rfl) (by kernel_rfl) fun bs aa w D hl => ?_
            refine dr_any [21] (by kernel_rfl) (by kernel_rfl) rfl (na1 ?_)
            · refine nx_op 21 D (by kernel_rfl) hl (by kernel_rfl) (by kernel_rfl) fun bs aa w D hl => ?_
              refine dr_end D (by kernel_rfl) fun S => ?_
              refine sy_run ⟨0, []⟩ 60 S fun bs aa w S => ?_
              have e0 := S.bx 0 ⟨60, [.pointer (some ⟨h, 0, none⟩)]⟩ (by kernel_rfl)
              have e1 := S.bx 1 ⟨3, [.int .i64 2]⟩ (by kernel_rfl)
              exact sy_ret S (by kernel_rfl) (by kernel_rfl) fun hg => ⟨rfl, below_two hg (e0.trans h0.symm) (e1.trans h1.symm)⟩
  · refine nx_ld 7 D (by kernel_rfl) (D.S.ldBox (b := h) (ty' := 62) (cs := rdC g R q0 clk sh) (o := 14) (ty := 3) (v := .int .i64 R.me) (by simp) (by kernel_rfl)) (by kernel_rfl) fun aa D => ?_
    refine dr_any [3, 13] (by kernel_rfl) (by kernel_rfl) rfl (na2 ?_ ?_)
    · refine nx_ld 3 D (by kernel_rfl) (D.S.ldBox (b := h) (ty' := 62) (cs := rdC g R q0 clk sh) (o := 1) (ty := 25) (v := R.L.v) (by simp) (by kernel_rfl)) (by kernel_rfl) fun aa D => ?_
      refine dr_any [13] (by kernel_rfl) (by kernel_rfl) rfl (na1 ?_)
      · refine nx_ld 13 D (by kernel_rfl) (D.S.ldBox (b := h) (ty' := 62) (cs := rdC g R q0 clk sh) (o := 16) (ty := 3) (v := .int .i64 R.a) (by simp) (by kernel_rfl)) (by kernel_rfl) fun aa D => ?_
        refine dr_any [16] (by kernel_rfl) (by kernel_rfl) rfl (na1 ?_)
        · refine nx_call1 16 D (by kernel_rfl) (nxtc_2 w R.L hok R.me R.a 0 0 0 0 0 none none none 0 0 0 0 0 0 v l (D.S.fact (f := rfLog v l) (by simp)) hI hc hs _ hx) (by kernel_rfl) fun aa w D => ?_
          refine dr_any [20] (by kernel_rfl) (by kernel_rfl) rfl (na1 ?_)
          · refine nx_op 20 D (by kernel_rfl) (Nat.le_refl _) (by kernel_rfl) (by kernel_rfl) fun bs aa w D hl => ?_
            refine dr_any [21] (by kernel_rfl) (by kernel_rfl) rfl (na1 ?_)
            · refine nx_op 21 D (by kernel_rfl) hl (by kernel_rfl) (by kernel_rfl) fun bs aa w D hl => ?_
              refine dr_end D (by kernel_rfl) fun S => ?_
              refine sy_run ⟨0, []⟩ 60 S fun bs aa w S => ?_
              have e0 := S.bx 0 ⟨60, [.pointer (some ⟨h, 0, none⟩)]⟩ (by kernel_rfl)
              have e1 := S.bx 1 ⟨3, [.int .i64 2]⟩ (by kernel_rfl)
              exact sy_ret S (by kernel_rfl) (by kernel_rfl) fun hg => ⟨rfl, below_two hg (e0.trans h0.symm) (e1.trans h1.symm)⟩
    · refine nx_ld 13 D (by kernel_rfl) (D.S.ldBox (b := h) (ty' := 62) (cs := rdC g R q0 clk sh) (o := 16) (ty := 3) (v := .int .i64 R.a) (by simp) (by kernel_rfl)) (by kernel_rfl) fun aa D => ?_
      refine dr_any [3] (by kernel_rfl) (by kernel_rfl) rfl (na1 ?_)
      · refine nx_ld 3 D (by kernel_rfl) (D.S.ldBox (b := h) (ty' := 62) (cs := rdC g R q0 clk sh) (o := 1) (ty := 25) (v := R.L.v) (by simp) (by kernel_rfl)) (by kernel_rfl) fun aa D => ?_
        refine dr_any [16] (by kernel_rfl) (by kernel_rfl) rfl (na1 ?_)
        · refine nx_call1 16 D (by kernel_rfl) (nxtc_2 w R.L hok R.me R.a 0 0 0 0 0 none none none 0 0 0 0 0 0 v l (D.S.fact (f := rfLog v l) (by simp)) hI hc hs _ hx) (by kernel_rfl) fun aa w D => ?_
          refine dr_any [20] (by kernel_rfl) (by kernel_rfl) rfl (na1 ?_)
          · refine nx_op 20 D (by kernel_rfl) (Nat.le_refl _) (by kernel_rfl) (by kernel_rfl) fun bs aa w D hl => ?_
            refine dr_any [21] (by kernel_rfl) (by kernel_rfl) rfl (na1 ?_)
            · refine nx_op 21 D (by kernel_rfl) hl (by kernel_rfl) (by kernel_rfl) fun bs aa w D hl => ?_
              refine dr_end D (by kernel_rfl) fun S => ?_
              refine sy_run ⟨0, []⟩ 60 S fun bs aa w S => ?_
              have e0 := S.bx 0 ⟨60, [.pointer (some ⟨h, 0, none⟩)]⟩ (by kernel_rfl)
              have e1 := S.bx 1 ⟨3, [.int .i64 2]⟩ (by kernel_rfl)
              exact sy_ret S (by kernel_rfl) (by kernel_rfl) fun hg => ⟨rfl, below_two hg (e0.trans h0.symm) (e1.trans h1.symm)⟩
  · refine nx_ld 13 D (by kernel_rfl) (D.S.ldBox (b := h) (ty' := 62) (cs := rdC g R q0 clk sh) (o := 16) (ty := 3) (v := .int .i64 R.a) (by simp) (by kernel_rfl)) (by kernel_rfl) fun aa D => ?_
    refine dr_any [3, 7] (by kernel_rfl) (by kernel_rfl) rfl (na2 ?_ ?_)
    · refine nx_ld 3 D (by kernel_rfl) (D.S.ldBox (b := h) (ty' := 62) (cs := rdC g R q0 clk sh) (o := 1) (ty := 25) (v := R.L.v) (by simp) (by kernel_rfl)) (by kernel_rfl) fun aa D => ?_
      refine dr_any [7] (by kernel_rfl) (by kernel_rfl) rfl (na1 ?_)
      · refine nx_ld 7 D (by kernel_rfl) (D.S.ldBox (b := h) (ty' := 62) (cs := rdC g R q0 clk sh) (o := 14) (ty := 3) (v := .int .i64 R.me) (by simp) (by kernel_rfl)) (by kernel_rfl) fun aa D => ?_
        refine dr_any [16] (by kernel_rfl) (by kernel_rfl) rfl (na1 ?_)
        · refine nx_call1 16 D (by kernel_rfl) (nxtc_2 w R.L hok R.me R.a 0 0 0 0 0 none none none 0 0 0 0 0 0 v l (D.S.fact (f := rfLog v l) (by simp)) hI hc hs _ hx) (by kernel_rfl) fun aa w D => ?_
          refine dr_any [20] (by kernel_rfl) (by kernel_rfl) rfl (na1 ?_)
          · refine nx_op 20 D (by kernel_rfl) (Nat.le_refl _) (by kernel_rfl) (by kernel_rfl) fun bs aa w D hl => ?_
            refine dr_any [21] (by kernel_rfl) (by kernel_rfl) rfl (na1 ?_)
            · refine nx_op 21 D (by kernel_rfl) hl (by kernel_rfl) (by kernel_rfl) fun bs aa w D hl => ?_
              refine dr_end D (by kernel_rfl) fun S => ?_
              refine sy_run ⟨0, []⟩ 60 S fun bs aa w S => ?_
              have e0 := S.bx 0 ⟨60, [.pointer (some ⟨h, 0, none⟩)]⟩ (by kernel_rfl)
              have e1 := S.bx 1 ⟨3, [.int .i64 2]⟩ (by kernel_rfl)
              exact sy_ret S (by kernel_rfl) (by kernel_rfl) fun hg => ⟨rfl, below_two hg (e0.trans h0.symm) (e1.trans h1.symm)⟩
    · refine nx_ld 7 D (by kernel_rfl) (D.S.ldBox (b := h) (ty' := 62) (cs := rdC g R q0 clk sh) (o := 14) (ty := 3) (v := .int .i64 R.me) (by simp) (by kernel_rfl)) (by kernel_rfl) fun aa D => ?_
      refine dr_any [3] (by kernel_rfl) (by kernel_rfl) rfl (na1 ?_)
      · refine nx_ld 3 D (by kernel_rfl) (D.S.ldBox (b := h) (ty' := 62) (cs := rdC g R q0 clk sh) (o := 1) (ty := 25) (v := R.L.v) (by simp) (by kernel_rfl)) (by kernel_rfl) fun aa D => ?_
        refine dr_any [16] (by kernel_rfl) (by kernel_rfl) rfl (na1 ?_)
        · refine nx_call1 16 D (by kernel_rfl) (nxtc_2 w R.L hok R.me R.a 0 0 0 0 0 none none none 0 0 0 0 0 0 v l (D.S.fact (f := rfLog v l) (by simp)) hI hc hs _ hx) (by kernel_rfl) fun aa w D => ?_
          refine dr_any [20] (by kernel_rfl) (by kernel_rfl) rfl (na1 ?_)
          · refine nx_op 20 D (by kernel_rfl) (Nat.le_refl _) (by kernel_rfl) (by kernel_rfl) fun bs aa w D hl => ?_
            refine dr_any [21] (by kernel_rfl) (by kernel_rfl) rfl (na1 ?_)
            · refine nx_op 21 D (by kernel_rfl) hl (by kernel_rfl) (by kernel_rfl) fun bs aa w D hl => ?_
              refine dr_end D (by kernel_rfl) fun S => ?_
              refine sy_run ⟨0, []⟩ 60 S fun bs aa w S => ?_
              have e0 := S.bx 0 ⟨60, [.pointer (some ⟨h, 0, none⟩)]⟩ (by kernel_rfl)
              have e1 := S.bx 1 ⟨3, [.int .i64 2]⟩ (by kernel_rfl)
              exact sy_ret S (by kernel_rfl) (by kernel_rfl) fun hg => ⟨rfl, below_two hg (e0.trans h0.symm) (e1.trans h1.symm)⟩
set_option maxHeartbeats 8000000 in
theorem mkb_2 (o : OutD) (hx : runV (fun m => sansT m R.me) (atReaders R.L R.a) l = .inr o) :
    Calls Tryz.prog 39 #[v, .pointer (some ⟨c0, 0, none⟩), .pointer (some ⟨c1, 0, none⟩)] w fun e w' => e = .returned (nextV (.inr o)) ∧ Below w.heap.size w w' := by
  refine sy_enterR [c0, c1] [c0, c1] [⟨60, [.pointer (some ⟨h, 0, none⟩)]⟩, ⟨3, [.int .i64 2]⟩] [.v v, .p 0 0, .p 1 0] [rfLog v l, rfBox h 62 (rdC g R q0 clk sh)] rfl ?_ ?_ ?_ ?_ ?_ Tryz.func39 rfl rfl fun aa S => ?_
  · intro i k hk
    match i, hk with
    | 0, hk => simp at hk; subst hk; exact h0
    | 1, hk => simp at hk; subst hk; exact h1
    | i + 2, hk => simp at hk
  · exact two_nd h01
  · exact two_mem
  · intro x hx
    simp only [List.mem_cons, List.not_mem_nil, or_false] at hx
    rcases hx with rfl | rfl | rfl
    · trivial
    · exact Nat.succ_pos _
    · exact Nat.succ_lt_succ (Nat.succ_pos _)
  · intro f hf
    simp only [List.mem_cons, List.not_mem_nil, or_false] at hf
    rcases hf with rfl | rfl
    · refine ⟨hv, fun i hi hb => ?_⟩
      have := hvb _ hb.1 hb.2
      rcases two_get c0 c1 hi with e | e <;> rw [e] at this <;> omega
    · refine ⟨hh, fun i hi hb => ?_⟩
      have hb : _ = h := hb
      rcases two_get c0 c1 hi with e | e <;> rw [e] at hb
      · exact h0h hb
      · exact h1h hb
  refine sy_run ⟨0, []⟩ 60 S fun bs aa w S => ?_
  refine dr_enter [0, 1] (by kernel_rfl) (by kernel_rfl) S (by kernel_rfl) fun aa w D => ?_
  refine dr_any [3, 7, 13] (by kernel_rfl) (by kernel_rfl) rfl (na3 ?_ ?_ ?_)
  · refine nx_ld 3 D (by kernel_rfl) (D.S.ldBox (b := h) (ty' := 62) (cs := rdC g R q0 clk sh) (o := 1) (ty := 25) (v := R.L.v) (by simp) (by kernel_rfl)) (by kernel_rfl) fun aa D => ?_
    refine dr_any [7, 13] (by kernel_rfl) (by kernel_rfl) rfl (na2 ?_ ?_)
    · refine nx_ld 7 D (by kernel_rfl) (D.S.ldBox (b := h) (ty' := 62) (cs := rdC g R q0 clk sh) (o := 14) (ty := 3) (v := .int .i64 R.me) (by simp) (by kernel_rfl)) (by kernel_rfl) fun aa D => ?_
      refine dr_any [13] (by kernel_rfl) (by kernel_rfl) rfl (na1 ?_)
      · refine nx_ld 13 D (by kernel_rfl) (D.S.ldBox (b := h) (ty' := 62) (cs := rdC g R q0 clk sh) (o := 16) (ty := 3) (v := .int .i64 R.a) (by simp) (by kernel_rfl)) (by kernel_rfl) fun aa D => ?_
        refine dr_any [16] (by kernel_rfl) (by kernel_rfl) rfl (na1 ?_)
        · refine nx_call1 16 D (by kernel_rfl) (nxtc_2 w R.L hok R.me R.a 0 0 0 0 0 none none none 0 0 0 0 0 0 v l (D.S.fact (f := rfLog v l) (by simp)) hI hc hs _ hx) (by kernel_rfl) fun aa w D => ?_
          refine dr_any [20] (by kernel_rfl) (by kernel_rfl) rfl (na1 ?_)
          · refine nx_op 20 D (by kernel_rfl) (Nat.le_refl _) (by kernel_rfl) (by kernel_rfl) fun bs aa w D hl => ?_
            refine dr_any [21] (by kernel_rfl) (by kernel_rfl) rfl (na1 ?_)
            · refine nx_op 21 D (by kernel_rfl) hl (by kernel_rfl) (by kernel_rfl) fun bs aa w D hl => ?_
              refine dr_end D (by kernel_rfl) fun S => ?_
              refine sy_run ⟨0, []⟩ 60 S fun bs aa w S => ?_
              have e0 := S.bx 0 ⟨60, [.pointer (some ⟨h, 0, none⟩)]⟩ (by kernel_rfl)
              have e1 := S.bx 1 ⟨3, [.int .i64 2]⟩ (by kernel_rfl)
              exact sy_ret S (by kernel_rfl) (by kernel_rfl) fun hg => ⟨rfl, below_two hg (e0.trans h0.symm) (e1.trans h1.symm)⟩
    · refine nx_ld 13 D (by kernel_rfl) (D.S.ldBox (b := h) (ty' := 62) (cs := rdC g R q0 clk sh) (o := 16) (ty := 3) (v := .int .i64 R.a) (by simp) (by kernel_rfl)) (by kernel_rfl) fun aa D => ?_
      refine dr_any [7] (by kernel_rfl) (by kernel_rfl) rfl (na1 ?_)
      · refine nx_ld 7 D (by kernel_rfl) (D.S.ldBox (b := h) (ty' := 62) (cs := rdC g R q0 clk sh) (o := 14) (ty := 3) (v := .int .i64 R.me) (by simp) (by kernel_rfl)) (by kernel_rfl) fun aa D => ?_
        refine dr_any [16] (by kernel_rfl) (by kernel_rfl) rfl (na1 ?_)
        · refine nx_call1 16 D (by kernel_rfl) (nxtc_2 w R.L hok R.me R.a 0 0 0 0 0 none none none 0 0 0 0 0 0 v l (D.S.fact (f := rfLog v l) (by simp)) hI hc hs _ hx) (by kernel_rfl) fun aa w D => ?_
          refine dr_any [20] (by kernel_rfl) (by kernel_rfl) rfl (na1 ?_)
          · refine nx_op 20 D (by kernel_rfl) (Nat.le_refl _) (by kernel_rfl) (by kernel_rfl) fun bs aa w D hl => ?_
            refine dr_any [21] (by kernel_rfl) (by kernel_rfl) rfl (na1 ?_)
            · refine nx_op 21 D (by kernel_rfl) hl (by kernel_rfl) (by kernel_rfl) fun bs aa w D hl => ?_
              refine dr_end D (by kernel_rfl) fun S => ?_
              refine sy_run ⟨0, []⟩ 60 S fun bs aa w S => ?_
              have e0 := S.bx 0 ⟨60, [.pointer (some ⟨h, 0, none⟩)]⟩ (by kernel_rfl)
              have e1 := S.bx 1 ⟨3, [.int .i64 2]⟩ (by kernel_rfl)
              exact sy_ret S (by kernel_rfl) (by kernel_rfl) fun hg => ⟨rfl, below_two hg (e0.trans h0.symm) (e1.trans h1.symm)⟩
  · refine nx_ld 7 D (by kernel_rfl) (D.S.ldBox (b := h) (ty' := 62) (cs := rdC g R q0 clk sh) (o := 14) (ty := 3) (v := .int .i64 R.me) (by simp) (by kernel_rfl)) (by kernel_rfl) fun aa D => ?_
    refine dr_any [3, 13] (by kernel_rfl) (by kernel_rfl) rfl (na2 ?_ ?_)
    · refine nx_ld 3 D (by kernel_rfl) (D.S.ldBox (b := h) (ty' := 62) (cs := rdC g R q0 clk sh) (o := 1) (ty := 25) (v := R.L.v) (by simp) (by kernel_rfl)) (by kernel_rfl) fun aa D => ?_
      refine dr_any [13] (by kernel_rfl) (by kernel_rfl) rfl (na1 ?_)
      · refine nx_ld 13 D (by kernel_rfl) (D.S.ldBox (b := h) (ty' := 62) (cs := rdC g R q0 clk sh) (o := 16) (ty := 3) (v := .int .i64 R.a) (by simp) (by kernel_rfl)) (by kernel_rfl) fun aa D => ?_
        refine dr_any [16] (by kernel_rfl) (by kernel_rfl) rfl (na1 ?_)
        · refine nx_call1 16 D (by kernel_rfl) (nxtc_2 w R.L hok R.me R.a 0 0 0 0 0 none none none 0 0 0 0 0 0 v l (D.S.fact (f := rfLog v l) (by simp)) hI hc hs _ hx) (by kernel_rfl) fun aa w D => ?_
          refine dr_any [20] (by kernel_rfl) (by kernel_rfl) rfl (na1 ?_)
          · refine nx_op 20 D (by kernel_rfl) (Nat.le_refl _) (by kernel_rfl) (by kernel_rfl) fun bs aa w D hl => ?_
            refine dr_any [21] (by kernel_rfl) (by kernel_rfl) rfl (na1 ?_)
            · refine nx_op 21 D (by kernel_rfl) hl (by kernel_rfl) (by kernel_rfl) fun bs aa w D hl => ?_
              refine dr_end D (by kernel_rfl) fun S => ?_
              refine sy_run ⟨0, []⟩ 60 S fun bs aa w S => ?_
              have e0 := S.bx 0 ⟨60, [.pointer (some ⟨h, 0, none⟩)]⟩ (by kernel_rfl)
              have e1 := S.bx 1 ⟨3, [.int .i64 2]⟩ (by kernel_rfl)
              exact sy_ret S (by kernel_rfl) (by kernel_rfl) fun hg => ⟨rfl, below_two hg (e0.trans h0.symm) (e1.trans h1.symm)⟩
    · refine nx_ld 13 D (by kernel_rfl) (D.S.ldBox (b := h) (ty' := 62) (cs := rdC g R q0 clk sh) (o := 16) (ty := 3) (v := .int .i64 R.a) (by simp) (by kernel_rfl)) (by kernel_rfl) fun aa D => ?_
      refine dr_any [3] (by kernel_rfl) (by kernel_rfl) rfl (na1 ?_)
      · refine nx_ld 3 D (by kernel_rfl) (D.S.ldBox (b := h) (ty' := 62) (cs := rdC g R q0 clk sh) (o := 1) (ty := 25) (v := R.L.v) (by simp) (by kernel_rfl)) (by kernel_rfl) fun aa D => ?_
        refine dr_any [16] (by kernel_rfl) (by kernel_rfl) rfl (na1 ?_)
        · refine nx_call1 16 D (by kernel_rfl) (nxtc_2 w R.L hok R.me R.a 0 0 0 0 0 none none none 0 0 0 0 0 0 v l (D.S.fact (f := rfLog v l) (by simp)) hI hc hs _ hx) (by kernel_rfl) fun aa w D => ?_
          refine dr_any [20] (by kernel_rfl) (by kernel_rfl) rfl (na1 ?_)
          · refine nx_op 20 D (by kernel_rfl) (Nat.le_refl _) (by kernel_rfl) (by kernel_rfl) fun bs aa w D hl => ?_
            refine dr_any [21] (by kernel_rfl) (by kernel_rfl) rfl (na1 ?_)
            · refine nx_op 21 D (by kernel_rfl) hl (by kernel_rfl) (by kernel_rfl) fun bs aa w D hl => ?_
              refine dr_end D (by kernel_rfl) fun S => ?_
              refine sy_run ⟨0, []⟩ 60 S fun bs aa w S => ?_
              have e0 := S.bx 0 ⟨60, [.pointer (some ⟨h, 0, none⟩)]⟩ (by kernel_rfl)
              have e1 := S.bx 1 ⟨3, [.int .i64 2]⟩ (by kernel_rfl)
              exact sy_ret S (by kernel_rfl) (by kernel_rfl) fun hg => ⟨rfl, below_two hg (e0.trans h0.symm) (e1.trans h1.symm)⟩
  · refine nx_ld 13 D (by kernel_rfl) (D.S.ldBox (b := h) (ty' := 62) (cs := rdC g R q0 clk sh) (o := 16) (ty := 3) (v := .int .i64 R.a) (by simp) (by kernel_rfl)) (by kernel_rfl) fun aa D => ?_
    refine dr_any [3, 7] (by kernel_rfl) (by kernel_rfl) rfl (na2 ?_ ?_)
    · refine nx_ld 3 D (by kernel_rfl) (D.S.ldBox (b := h) (ty' := 62) (cs := rdC g R q0 clk sh) (o := 1) (ty := 25) (v := R.L.v) (by simp) (by kernel_rfl)) (by kernel_rfl) fun aa D => ?_
      refine dr_any [7] (by kernel_rfl) (by kernel_rfl) rfl (na1 ?_)
      · refine nx_ld 7 D (by kernel_rfl) (D.S.ldBox (b := h) (ty' := 62) (cs := rdC g R q0 clk sh) (o := 14) (ty := 3) (v := .int .i64 R.me) (by simp) (by kernel_rfl)) (by kernel_rfl) fun aa D => ?_
        refine dr_any [16] (by kernel_rfl) (by kernel_rfl) rfl (na1 ?_)
        · refine nx_call1 16 D (by kernel_rfl) (nxtc_2 w R.L hok R.me R.a 0 0 0 0 0 none none none 0 0 0 0 0 0 v l (D.S.fact (f := rfLog v l) (by simp)) hI hc hs _ hx) (by kernel_rfl) fun aa w D => ?_
          refine dr_any [20] (by kernel_rfl) (by kernel_rfl) rfl (na1 ?_)
          · refine nx_op 20 D (by kernel_rfl) (Nat.le_refl _) (by kernel_rfl) (by kernel_rfl) fun bs aa w D hl => ?_
            refine dr_any [21] (by kernel_rfl) (by kernel_rfl) rfl (na1 ?_)
            · refine nx_op 21 D (by kernel_rfl) hl (by kernel_rfl) (by kernel_rfl) fun bs aa w D hl => ?_
              refine dr_end D (by kernel_rfl) fun S => ?_
              refine sy_run ⟨0, []⟩ 60 S fun bs aa w S => ?_
              have e0 := S.bx 0 ⟨60, [.pointer (some ⟨h, 0, none⟩)]⟩ (by kernel_rfl)
              have e1 := S.bx 1 ⟨3, [.int .i64 2]⟩ (by kernel_rfl)
              exact sy_ret S (by kernel_rfl) (by kernel_rfl) fun hg => ⟨rfl, below_two hg (e0.trans h0.symm) (e1.trans h1.symm)⟩
    · refine nx_ld 7 D (by kernel_rfl) (D.S.ldBox (b := h) (ty' := 62) (cs := rdC g R q0 clk sh) (o := 14) (ty := 3) (v := .int .i64 R.me) (by simp) (by kernel_rfl)) (by kernel_rfl) fun aa D => ?_
      refine dr_any [3] (by kernel_rfl) (by kernel_rfl) rfl (na1 ?_)
      · refine nx_ld 3 D (by kernel_rfl) (D.S.ldBox (b := h) (ty' := 62) (cs := rdC g R q0 clk sh) (o := 1) (ty := 25) (v := R.L.v) (by simp) (by kernel_rfl)) (by kernel_rfl) fun aa D => ?_
        refine dr_any [16] (by kernel_rfl) (by kernel_rfl) rfl (na1 ?_)
        · refine nx_call1 16 D (by kernel_rfl) (nxtc_2 w R.L hok R.me R.a 0 0 0 0 0 none none none 0 0 0 0 0 0 v l (D.S.fact (f := rfLog v l) (by simp)) hI hc hs _ hx) (by kernel_rfl) fun aa w D => ?_
          refine dr_any [20] (by kernel_rfl) (by kernel_rfl) rfl (na1 ?_)
          · refine nx_op 20 D (by kernel_rfl) (Nat.le_refl _) (by kernel_rfl) (by kernel_rfl) fun bs aa w D hl => ?_
            refine dr_any [21] (by kernel_rfl) (by kernel_rfl) rfl (na1 ?_)
            · refine nx_op 21 D (by kernel_rfl) hl (by kernel_rfl) (by kernel_rfl) fun bs aa w D hl => ?_
              refine dr_end D (by kernel_rfl) fun S => ?_
              refine sy_run ⟨0, []⟩ 60 S fun bs aa w S => ?_
              have e0 := S.bx 0 ⟨60, [.pointer (some ⟨h, 0, none⟩)]⟩ (by kernel_rfl)
              have e1 := S.bx 1 ⟨3, [.int .i64 2]⟩ (by kernel_rfl)
              exact sy_ret S (by kernel_rfl) (by kernel_rfl) fun hg => ⟨rfl, below_two hg (e0.trans h0.symm) (e1.trans h1.symm)⟩
end
end
end Go.Proofs.YtfahnmpcclhjlaaGreat

namespace Go.Proofs.YtfahnmpcclhjlaaGreat
open Go Go.RowKit SZ
set_option linter.unusedVariables false
set_option linter.unusedSectionVars false
set_option linter.unusedSimpArgs false
set_option maxRecDepth 100000
attribute [local irreducible] post GD
theorem runP_pre {has : Int → Bool} {ap : Int → Int} (cell : Int) (N : Nat) : ∀ l : List (Int × Bool), l.length < N → (∀ x ∈ l, (has x.1 = true) = (ap x.1 = x.1)) →
    (∀ q, (runP has ap cell l).2.2 = some q → runV ap cell l = .inl q ∧ ∀ j, j < l.length → ∃ q', runV ap cell (l.take j) = .inl q') ∧
    ((runP has ap cell l).2.2 = none → ∃ k, k ≤ l.length ∧ (runP has ap cell l).2.1 = l.drop k ∧ runV ap cell (l.take k) = .inr { ok := (runP has ap cell l).1 } ∧ ∀ j, j < k → ∃ q', runV ap cell (l.take j) = .inl q') := by
  induction N with
  | zero => intro l h; omega
  | succ N ih =>
    intro l hl hh
    rcases l with _ | ⟨r, l⟩
    · refine ⟨fun q hq => ?_, fun h => (by cases h)⟩
      cases hq
      exact ⟨rfl, fun j hj => by simp at hj⟩
    · have e := hh r (by simp)
      by_cases hr : ap r.1 = r.1
      · have h2 : has r.1 = true := by rw [e]; exact hr
        have e1 : runP has ap cell (r :: l) = (false, (l, none)) := by unfold runP; rw [if_pos h2]
        rw [e1]
        refine ⟨fun q hq => (by cases hq), fun _ => ⟨1, by simp, by simp, ?_, fun j hj => ?_⟩⟩
        · show runV ap cell (r :: l.take 0) = _
          unfold runV; rw [if_pos hr]
        · obtain rfl : j = 0 := by omega
          exact ⟨_, rfl⟩
      · have h2 : ¬ has r.1 = true := by rw [e]; exact hr
        rcases l with _ | ⟨⟨y, b⟩, l⟩
        · have e1 : runP has ap cell [r] = (false, ([], some ⟨3, cell, r.1, ap r.1⟩)) := by unfold runP; rw [if_neg h2]
          rw [e1]
          refine ⟨fun q hq => ?_, fun h => (by cases h)⟩
          cases hq
          refine ⟨by unfold runV; rw [if_neg hr], fun j hj => ?_⟩
          obtain rfl : j = 0 := by simpa using hj
          exact ⟨_, rfl⟩
        · have two : ∀ j, runV ap cell ((r :: (y, b) :: l).take (j + 2)) = match b with
              | true => .inr { ok := true }
              | false => runV ap cell (l.take j) := by
            intro j
            show runV ap cell (r :: (y, b) :: l.take j) = _
            conv => lhs; unfold runV
            rw [if_neg hr]
            cases b <;> rfl
          have one : ∃ q', runV ap cell ((r :: (y, b) :: l).take 1) = .inl q' := ⟨⟨3, cell, r.1, ap r.1⟩, by show runV ap cell [r] = _; unfold runV; rw [if_neg hr]⟩
          have nul : ∃ q', runV ap cell ((r :: (y, b) :: l).take 0) = .inl q' := ⟨_, rfl⟩
          cases b with
          | true =>
            have e1 : runP has ap cell (r :: (y, true) :: l) = (true, (l, none)) := by unfold runP; rw [if_neg h2]
            rw [e1]
            refine ⟨fun q hq => (by cases hq), fun _ => ⟨2, by simp, by simp, two 0, fun j hj => ?_⟩⟩
            match j, hj with
            | 0, _ => exact nul
            | 1, _ => exact one
          | false =>
            have e1 : runP has ap cell (r :: (y, false) :: l) = runP has ap cell l := by conv => lhs; unfold runP; rw [if_neg h2]
            rw [e1]
            obtain ⟨i1, i2⟩ := ih l (by simp at hl; omega) (fun x hx => hh x (by simp [hx]))
            refine ⟨fun q hq => ?_, fun h => ?_⟩
            · obtain ⟨j1, j2⟩ := i1 q hq
              refine ⟨?_, fun j hj => ?_⟩
              · have := two l.length
                simp only at this
                rw [show (r :: (y, false) :: l).take (l.length + 2) = r :: (y, false) :: l by simp, List.take_length] at this
                rw [this]; exact j1
              · match j, hj with
                | 0, _ => exact nul
                | 1, _ => exact one
                | j + 2, hj =>
                  rw [two j]
                  exact j2 j (by simp at hj; omega)
            · obtain ⟨k, k1, k2, k3, k4⟩ := i2 h
              refine ⟨k + 2, by simp; omega, by rw [k2]; simp, by rw [two k]; exact k3, fun j hj => ?_⟩
              match j, hj with
              | 0, _ => exact nul
              | 1, _ => exact one
              | j + 2, hj =>
                rw [two j]
                exact k4 j (by omega)
theorem SZ.Sy.il [DF] {w0 : World} {r : List Nat} {bs : List Nat} {s : SS} {F : List RF} {a : Act} {w : World} (S : Sy w0 r bs s F a w) (i : Nat) (k : Bx) (hk : s.K[i]? = some k) : i < bs.length := by rw [S.bl]; exact (List.getElem?_eq_some_iff.1 hk).1
section
variable (w0 : World) (g h : Nat) (R : Rd) (hok : R.L.ok) (q0 : Oq) (clk : Int) (sh : Bool) (l : List (Int × Bool)) (hl : l.length ≤ 1000000) (hgh : g < h) (hI : ∀ x ∈ l, I64 x.1) (hR : RunAt w0 g l) (hh : w0.heap[h]? = some (.cells (rdC g R q0 clk sh).toArray 62 (0, 0))) (ht : 0 ≤ R.me ∧ R.me ≤ 61) (hc : decide (atReaders R.L R.a < 0) = false) (hs : decide (atStatus R.L R.me < 0) = false)
include w0 g h R hok q0 clk sh l hl hgh hI hR hh ht hc hs
set_option maxHeartbeats 8000000 in
theorem mask_1 :
    Calls Tryz.prog 28 #[.pointer (some ⟨h, 0, none⟩), .int .i64 1] w0 (CsPost (runP (fun m => isIn m R.me) (fun m => withT m R.me) (atReaders R.L R.a) l).2 (.bool (runP (fun m => isIn m R.me) (fun m => withT m R.me) (atReaders R.L R.a) l).1) g w0) := by
  refine sy_enterF [g] [rfRun g l, rfBox h 62 (rdC g R q0 clk sh)] (by
    intro f hf
    simp only [List.mem_cons, List.not_mem_nil, or_false] at hf
    rcases hf with rfl | rfl
    · exact hR
    · exact hh) Tryz.func28 rfl rfl fun aa S => ?_
  refine sy_run ⟨0, []⟩ 60 S fun bs aa w S => ?_
  refine sy_ldo S (S.ldBox (b := h) (ty' := 62) (cs := rdC g R q0 clk sh) (o := 0) (ty := 59) (v := .pointer (some ⟨g, 0, none⟩)) (by simp) (by kernel_rfl)) (by kernel_rfl) fun aa S => ?_
  refine sy_run ⟨0, []⟩ 60 S fun bs aa w S => ?_
  generalize hBS : (_ ++ bs : List Nat) = BS at S
  have b0 := S.bx 0 ⟨60, [.pointer (some ⟨h, 0, none⟩)]⟩ (by kernel_rfl)
  have b1 := S.bx 1 ⟨3, [.int .i64 1]⟩ (by kernel_rfl)
  have i0 := S.il 0 ⟨60, [.pointer (some ⟨h, 0, none⟩)]⟩ (by kernel_rfl)
  have i1 := S.il 1 ⟨3, [.int .i64 1]⟩ (by kernel_rfl)
  have g0 : g < BS.getD 0 0 := Nat.lt_of_not_le ((S.fs (rfRun g l) (by simp)).2 0 i0)
  have g1 : g < BS.getD 1 0 := Nat.lt_of_not_le ((S.fs (rfRun g l) (by simp)).2 1 i1)
  have n01 : BS.getD 0 0 ≠ BS.getD 1 0 := fun he => absurd (S.nd 0 1 i0 i1 he) (by decide)
  have h0h : BS.getD 0 0 ≠ h := fun he => (S.fs (rfBox h 62 (rdC g R q0 clk sh)) (by simp)).2 0 i0 he
  have h1h : BS.getD 1 0 ≠ h := fun he => (S.fs (rfBox h 62 (rdC g R q0 clk sh)) (by simp)).2 1 i1 he
  have hh' : w.heap[h]? = some (.cells (rdC g R q0 clk sh).toArray 62 (0, 0)) := S.fact (f := rfBox h 62 (rdC g R q0 clk sh)) (by simp)
  have hF : CaF w g l (.pointer (some ⟨BS.getD 0 0, 0, none⟩)) (.pointer (some ⟨BS.getD 1 0, 0, none⟩)) (runV (fun m => withT m R.me) (atReaders R.L R.a)) := fun w2 v k hg hk hv hvb => by
    obtain ⟨x, hx⟩ : ∃ x, runV (fun m => withT m R.me) (atReaders R.L R.a) (l.take k) = x := ⟨_, rfl⟩
    rw [hx]
    cases x with
    | inl q => exact mka_1 w2 g _ _ h R hok q0 clk sh v (l.take k) hv hvb g0 g1 n01 h0h h1h (fun x hx => hI x (List.mem_of_mem_take hx)) (heap_gb hg b0 (by omega)) (heap_gb hg b1 (by omega)) (heap_gb hg hh' (by omega)) hc hs q hx
    | inr o => exact mkb_1 w2 g _ _ h R hok q0 clk sh v (l.take k) hv hvb g0 g1 n01 h0h h1h (fun x hx => hI x (List.mem_of_mem_take hx)) (heap_gb hg b0 (by omega)) (heap_gb hg b1 (by omega)) (heap_gb hg hh' (by omega)) hc hs o hx
  obtain ⟨p1, p2⟩ := runP_pre (has := fun m => isIn m R.me) (ap := fun m => withT m R.me) (atReaders R.L R.a) (l.length + 1) l (by omega) (fun x _ => has_with ht x.1)
  obtain ⟨⟨ob, l', oq⟩, hX⟩ : ∃ X, runP (fun m => isIn m R.me) (fun m => withT m R.me) (atReaders R.L R.a) l = X := ⟨_, rfl⟩
  rw [hX] at p1 p2 ⊢
  simp only at p1 p2 ⊢
  cases oq with
  | some q =>
    obtain ⟨q1, q2⟩ := p1 q rfl
    exact sy_panic S ((call_pan w g _ _ l hl _ hF S.run q q1 q2).mono fun e w' h => ⟨h.1, gr_gb' h.2⟩) (by kernel_rfl) fun w' hg => ⟨rfl, gb_of_gr1 hg⟩
  | none =>
    obtain ⟨k, k1, k2, k3, k4⟩ := p2 rfl
    have hC := call_ret w g _ _ l hl _ hF S.run k k1 _ k3 k4
    rw [← k2] at hC
    refine sy_acc S (Or.inl (by simp)) hC (by kernel_rfl) (by intro f hf; simp at hf; subst hf; exact fun (h : g = _) => by omega) fun aa w S => ?_
    refine sy_run ⟨0, []⟩ 60 S fun bs aa w S => ?_
    exact sy_ret S (by kernel_rfl) (by kernel_rfl) fun hg => ⟨rfl, S.run, gb_of_gr1 hg⟩
set_option maxHeartbeats 8000000 in
theorem mask_2 :
    Calls Tryz.prog 28 #[.pointer (some ⟨h, 0, none⟩), .int .i64 2] w0 (CsPost (runP (fun m => !isIn m R.me) (fun m => sansT m R.me) (atReaders R.L R.a) l).2 (.bool (runP (fun m => !isIn m R.me) (fun m => sansT m R.me) (atReaders R.L R.a) l).1) g w0) := by
  refine sy_enterF [g] [rfRun g l, rfBox h 62 (rdC g R q0 clk sh)] (by
    intro f hf
    simp only [List.mem_cons, List.not_mem_nil, or_false] at hf
    rcases hf with rfl | rfl
    · exact hR
    · exact hh) Tryz.func28 rfl rfl fun aa S => ?_
  refine sy_run ⟨0, []⟩ 60 S fun bs aa w S => ?_
  refine sy_ldo S (S.ldBox (b := h) (ty' := 62) (cs := rdC g R q0 clk sh) (o := 0) (ty := 59) (v := .pointer (some ⟨g, 0, none⟩)) (by simp) (by kernel_rfl)) (by kernel_rfl) fun aa S => ?_
  refine sy_run ⟨0, []⟩ 60 S fun bs aa w S => ?_
  generalize hBS : (_ ++ bs : List Nat) = BS at S
  have b0 := S.bx 0 ⟨60, [.pointer (some ⟨h, 0, none⟩)]⟩ (by kernel_rfl)
  have b1 := S.bx 1 ⟨3, [.int .i64 2]⟩ (by kernel_rfl)
  have i0 := S.il 0 ⟨60, [.pointer (some ⟨h, 0, none⟩)]⟩ (by kernel_rfl)
  have i1 := S.il 1 ⟨3, [.int .i64 2]⟩ (by kernel_rfl)
  have g0 : g < BS.getD 0 0 := Nat.lt_of_not_le ((S.fs (rfRun g l) (by simp)).2 0 i0)
  have g1 : g < BS.getD 1 0 := Nat.lt_of_not_le ((S.fs (rfRun g l) (by simp)).2 1 i1)
  have n01 : BS.getD 0 0 ≠ BS.getD 1 0 := fun he => absurd (S.nd 0 1 i0 i1 he) (by decide)
  have h0h : BS.getD 0 0 ≠ h := fun he => (S.fs (rfBox h 62 (rdC g R q0 clk sh)) (by simp)).2 0 i0 he
  have h1h : BS.getD 1 0 ≠ h := fun he => (S.fs (rfBox h 62 (rdC g R q0 clk sh)) (by simp)).2 1 i1 he
  have hh' : w.heap[h]? = some (.cells (rdC g R q0 clk sh).toArray 62 (0, 0)) := S.fact (f := rfBox h 62 (rdC g R q0 clk sh)) (by simp)
  have hF : CaF w g l (.pointer (some ⟨BS.getD 0 0, 0, none⟩)) (.pointer (some ⟨BS.getD 1 0, 0, none⟩)) (runV (fun m => sansT m R.me) (atReaders R.L R.a)) := fun w2 v k hg hk hv hvb => by
    obtain ⟨x, hx⟩ : ∃ x, runV (fun m => sansT m R.me) (atReaders R.L R.a) (l.take k) = x := ⟨_, rfl⟩
    rw [hx]
    cases x with
    | inl q => exact mka_2 w2 g _ _ h R hok q0 clk sh v (l.take k) hv hvb g0 g1 n01 h0h h1h (fun x hx => hI x (List.mem_of_mem_take hx)) (heap_gb hg b0 (by omega)) (heap_gb hg b1 (by omega)) (heap_gb hg hh' (by omega)) hc hs q hx
    | inr o => exact mkb_2 w2 g _ _ h R hok q0 clk sh v (l.take k) hv hvb g0 g1 n01 h0h h1h (fun x hx => hI x (List.mem_of_mem_take hx)) (heap_gb hg b0 (by omega)) (heap_gb hg b1 (by omega)) (heap_gb hg hh' (by omega)) hc hs o hx
  obtain ⟨p1, p2⟩ := runP_pre (has := fun m => !isIn m R.me) (ap := fun m => sansT m R.me) (atReaders R.L R.a) (l.length + 1) l (by omega) (fun x _ => has_sans ht x.1)
  obtain ⟨⟨ob, l', oq⟩, hX⟩ : ∃ X, runP (fun m => !isIn m R.me) (fun m => sansT m R.me) (atReaders R.L R.a) l = X := ⟨_, rfl⟩
  rw [hX] at p1 p2 ⊢
  simp only at p1 p2 ⊢
  cases oq with
  | some q =>
    obtain ⟨q1, q2⟩ := p1 q rfl
    exact sy_panic S ((call_pan w g _ _ l hl _ hF S.run q q1 q2).mono fun e w' h => ⟨h.1, gr_gb' h.2⟩) (by kernel_rfl) fun w' hg => ⟨rfl, gb_of_gr1 hg⟩
  | none =>
    obtain ⟨k, k1, k2, k3, k4⟩ := p2 rfl
    have hC := call_ret w g _ _ l hl _ hF S.run k k1 _ k3 k4
    rw [← k2] at hC
    refine sy_acc S (Or.inl (by simp)) hC (by kernel_rfl) (by intro f hf; simp at hf; subst hf; exact fun (h : g = _) => by omega) fun aa w S => ?_
    refine sy_run ⟨0, []⟩ 60 S fun bs aa w S => ?_
    exact sy_ret S (by kernel_rfl) (by kernel_rfl) fun hg => ⟨rfl, S.run, gb_of_gr1 hg⟩
end
end Go.Proofs.YtfahnmpcclhjlaaGreat
