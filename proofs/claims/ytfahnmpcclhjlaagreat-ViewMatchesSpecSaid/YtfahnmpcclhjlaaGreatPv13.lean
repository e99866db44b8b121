/-
  Merged: AbsD, AbsE, Vh3, Vh4, Vh5, Vh6, Vh7, Vh8, Vh9, Vh10, Vh14, Vh15, Vh16, Vh17, Vh18, Vh19, Vh20
-/
import Derived.Test.YtfahnmpcclhjlaaGreatRows
import Derived.Test.YtfahnmpcclhjlaaGreatPv3
import Derived.Test.YtfahnmpcclhjlaaGreatPv11
import Derived.Test.YtfahnmpcclhjlaaGreatPv5
import Derived.Test.YtfahnmpcclhjlaaGreatPv6
import Derived.Test.YtfahnmpcclhjlaaGreatPv8
import Derived.Test.YtfahnmpcclhjlaaGreatPv1
import Derived.Test.YtfahnmpcclhjlaaGreatPv12
import Derived.WalkKit
import Derived.Test.YtfahnmpcclhjlaaGreatPv4
import Derived.Defers
import Derived.Recover
namespace Go.Proofs.YtfahnmpcclhjlaaGreat
open Go Go.RowKit SX
set_option linter.unusedVariables false
set_option linter.unusedSectionVars false
set_option linter.unusedSimpArgs false
set_option maxRecDepth 100000
attribute [local irreducible] post GD
section
variable (w : World) (g : Nat) (L : Ly) (hok : L.ok) (me other : Int) (m : Ct)
include w g L hok me other m
set_option maxHeartbeats 8000000 in
theorem resR_own0 (h0 : RunAt w g []) : Calls Tryz.prog 63 #[caseV L me other true m, .pointer (some ⟨g, 0, none⟩)] w fun e w' => e = .panicked [{ v := .iface 78 (Ask.v ⟨1, atStatus L me, 0, 0⟩), recovered := false }] ∧ w.grownBy w' (some g) := by
  refine sy_enterF (some g) [rfRun g ([])] (by intro f hf; simp at hf; subst hf; exact h0) Tryz.func63 rfl fun aa S => ?_
  refine sy_run ⟨0, []⟩ 60 S fun bs aa w S => ?_
  refine sy_call1 S (status_any L me w hok) (by kernel_rfl) fun aa w hb S => ?_
  refine sy_run ⟨0, []⟩ 60 S fun bs aa w S => ?_
  exact sy_panic S ((load_none w g (atStatus L me) S.run).mono fun e w' h => ⟨h.1, gb_of_below _ h.2⟩) (by kernel_rfl) fun w' hg => ⟨rfl, hg⟩
section
variable (r : Int × Bool)
include r
set_option maxHeartbeats 8000000 in
theorem resR_own3 (l : List (Int × Bool)) (h0 : RunAt w g (r :: l)) (hr : r.1 % 4 = 3) : Calls Tryz.prog 63 #[caseV L me other true m, .pointer (some ⟨g, 0, none⟩)] w fun e w' => e = .returned (OutD.v { val := 1, lost := true }) ∧ w.grownBy w' (some g) ∧ RunAt w' g l := by
  refine sy_enterF (some g) [rfRun g (r :: l)] (by intro f hf; simp at hf; subst hf; exact h0) Tryz.func63 rfl fun aa S => ?_
  refine sy_run ⟨0, []⟩ 60 S fun bs aa w S => ?_
  refine sy_call1 S (status_any L me w hok) (by kernel_rfl) fun aa w hb S => ?_
  refine sy_run ⟨0, []⟩ 60 S fun bs aa w S => ?_
  refine sy_acc S (Or.inl rfl) (load_some w g r (l) (atStatus L me) S.run) (by kernel_rfl) (by simp) fun aa w S => ?_
  refine sy_run ⟨0, []⟩ 60 S fun bs aa w S => ?_
  refine sy_call1 S (toBelow (kind_any r.1 w)) (by kernel_rfl) fun aa w hb S => ?_
  refine sy_ops 1 S fun bs aa w S => ?_
  refine sy_cast 18 S (congrArg Value.bool (decide_eq_true hr : decide (r.1 % 4 = 3) = true)) (by kernel_rfl) fun S => ?_
  refine sy_run ⟨0, []⟩ 60 S fun bs aa w S => ?_
  exact sy_ret S (by kernel_rfl) (by kernel_rfl) fun hg => ⟨rfl, hg, S.run⟩
set_option maxHeartbeats 8000000 in
theorem resR_t0 (h0 : RunAt w g (r :: [])) (hr : ¬r.1 % 4 = 3) : Calls Tryz.prog 63 #[caseV L me other true m, .pointer (some ⟨g, 0, none⟩)] w fun e w' => e = .panicked [{ v := .iface 78 (Ask.v ⟨1, atStatus L other, 0, 0⟩), recovered := false }] ∧ w.grownBy w' (some g) := by
  refine sy_enterF (some g) [rfRun g (r :: [])] (by intro f hf; simp at hf; subst hf; exact h0) Tryz.func63 rfl fun aa S => ?_
  refine sy_run ⟨0, []⟩ 60 S fun bs aa w S => ?_
  refine sy_call1 S (status_any L me w hok) (by kernel_rfl) fun aa w hb S => ?_
  refine sy_run ⟨0, []⟩ 60 S fun bs aa w S => ?_
  refine sy_acc S (Or.inl rfl) (load_some w g r ([]) (atStatus L me) S.run) (by kernel_rfl) (by simp) fun aa w S => ?_
  refine sy_run ⟨0, []⟩ 60 S fun bs aa w S => ?_
  refine sy_call1 S (toBelow (kind_any r.1 w)) (by kernel_rfl) fun aa w hb S => ?_
  refine sy_ops 1 S fun bs aa w S => ?_
  refine sy_cast 18 S (congrArg Value.bool (decide_eq_false hr : decide (r.1 % 4 = 3) = false)) (by kernel_rfl) fun S => ?_
  refine sy_run ⟨0, []⟩ 60 S fun bs aa w S => ?_
  refine sy_call1 S (status_any L other w hok) (by kernel_rfl) fun aa w hb S => ?_
  refine sy_run ⟨0, []⟩ 60 S fun bs aa w S => ?_
  exact sy_panic S ((load_none w g (atStatus L other) S.run).mono fun e w' h => ⟨h.1, gb_of_below _ h.2⟩) (by kernel_rfl) fun w' hg => ⟨rfl, hg⟩
set_option maxHeartbeats 8000000 in
theorem resR_tidle (s : Int × Bool) (l : List (Int × Bool)) (h0 : RunAt w g (r :: s :: l)) (hr : ¬r.1 % 4 = 3) (hs : s.1 % 4 = 0) : Calls Tryz.prog 63 #[caseV L me other true m, .pointer (some ⟨g, 0, none⟩)] w fun e w' => e = .returned (OutD.v { val := 0 }) ∧ w.grownBy w' (some g) ∧ RunAt w' g l := by
  refine sy_enterF (some g) [rfRun g (r :: s :: l)] (by intro f hf; simp at hf; subst hf; exact h0) Tryz.func63 rfl fun aa S => ?_
  refine sy_run ⟨0, []⟩ 60 S fun bs aa w S => ?_
  refine sy_call1 S (status_any L me w hok) (by kernel_rfl) fun aa w hb S => ?_
  refine sy_run ⟨0, []⟩ 60 S fun bs aa w S => ?_
  refine sy_acc S (Or.inl rfl) (load_some w g r (s :: l) (atStatus L me) S.run) (by kernel_rfl) (by simp) fun aa w S => ?_
  refine sy_run ⟨0, []⟩ 60 S fun bs aa w S => ?_
  refine sy_call1 S (toBelow (kind_any r.1 w)) (by kernel_rfl) fun aa w hb S => ?_
  refine sy_ops 1 S fun bs aa w S => ?_
  refine sy_cast 18 S (congrArg Value.bool (decide_eq_false hr : decide (r.1 % 4 = 3) = false)) (by kernel_rfl) fun S => ?_
  refine sy_run ⟨0, []⟩ 60 S fun bs aa w S => ?_
  refine sy_call1 S (status_any L other w hok) (by kernel_rfl) fun aa w hb S => ?_
  refine sy_run ⟨0, []⟩ 60 S fun bs aa w S => ?_
  refine sy_acc S (Or.inl rfl) (load_some w g s (l) (atStatus L other) S.run) (by kernel_rfl) (by simp) fun aa w S => ?_
  refine sy_run ⟨0, []⟩ 60 S fun bs aa w S => ?_
  refine sy_call1 S (toBelow (kind_any s.1 w)) (by kernel_rfl) fun aa w hb S => ?_
  refine sy_ops 1 S fun bs aa w S => ?_
  refine sy_cast 30 S (congrArg Value.bool (decide_eq_true hs : decide (s.1 % 4 = 0) = true)) (by kernel_rfl) fun S => ?_
  refine sy_run ⟨0, []⟩ 60 S fun bs aa w S => ?_
  exact sy_ret S (by kernel_rfl) (by kernel_rfl) fun hg => ⟨rfl, hg, S.run⟩
set_option maxHeartbeats 8000000 in
theorem resR_t1 (s : Int × Bool) (h0 : RunAt w g (r :: [s])) (hr : ¬r.1 % 4 = 3) (hi : I64 s.1) (hs : ¬s.1 % 4 = 0) : Calls Tryz.prog 63 #[caseV L me other true m, .pointer (some ⟨g, 0, none⟩)] w fun e w' => e = .panicked [{ v := .iface 78 (Ask.v ⟨1, atStamp L other, 0, 0⟩), recovered := false }] ∧ w.grownBy w' (some g) := by
  refine sy_enterF (some g) [rfRun g (r :: [s])] (by intro f hf; simp at hf; subst hf; exact h0) Tryz.func63 rfl fun aa S => ?_
  refine sy_run ⟨0, []⟩ 60 S fun bs aa w S => ?_
  refine sy_call1 S (status_any L me w hok) (by kernel_rfl) fun aa w hb S => ?_
  refine sy_run ⟨0, []⟩ 60 S fun bs aa w S => ?_
  refine sy_acc S (Or.inl rfl) (load_some w g r ([s]) (atStatus L me) S.run) (by kernel_rfl) (by simp) fun aa w S => ?_
  refine sy_run ⟨0, []⟩ 60 S fun bs aa w S => ?_
  refine sy_call1 S (toBelow (kind_any r.1 w)) (by kernel_rfl) fun aa w hb S => ?_
  refine sy_ops 1 S fun bs aa w S => ?_
  refine sy_cast 18 S (congrArg Value.bool (decide_eq_false hr : decide (r.1 % 4 = 3) = false)) (by kernel_rfl) fun S => ?_
  refine sy_run ⟨0, []⟩ 60 S fun bs aa w S => ?_
  refine sy_call1 S (status_any L other w hok) (by kernel_rfl) fun aa w hb S => ?_
  refine sy_run ⟨0, []⟩ 60 S fun bs aa w S => ?_
  refine sy_acc S (Or.inl rfl) (load_some w g s ([]) (atStatus L other) S.run) (by kernel_rfl) (by simp) fun aa w S => ?_
  refine sy_run ⟨0, []⟩ 60 S fun bs aa w S => ?_
  refine sy_call1 S (toBelow (kind_any s.1 w)) (by kernel_rfl) fun aa w hb S => ?_
  refine sy_ops 1 S fun bs aa w S => ?_
  refine sy_cast 30 S (congrArg Value.bool (decide_eq_false hs : decide (s.1 % 4 = 0) = false)) (by kernel_rfl) fun S => ?_
  refine sy_run ⟨0, []⟩ 60 S fun bs aa w S => ?_
  refine sy_call1 S (toBelow (try_any s.1 hi w)) (by kernel_rfl) fun aa w hb S => ?_
  refine sy_run ⟨0, []⟩ 60 S fun bs aa w S => ?_
  refine sy_call1 S (stamp_any L other w hok) (by kernel_rfl) fun aa w hb S => ?_
  refine sy_run ⟨0, []⟩ 60 S fun bs aa w S => ?_
  exact sy_panic S ((load_none w g (atStamp L other) S.run).mono fun e w' h => ⟨h.1, gb_of_below _ h.2⟩) (by kernel_rfl) fun w' hg => ⟨rfl, hg⟩
set_option maxHeartbeats 8000000 in
theorem resR_t2 (s t : Int × Bool) (h0 : RunAt w g (r :: [s, t])) (hr : ¬r.1 % 4 = 3) (hi : I64 s.1) (hs : ¬s.1 % 4 = 0) : Calls Tryz.prog 63 #[caseV L me other true m, .pointer (some ⟨g, 0, none⟩)] w fun e w' => e = .panicked [{ v := .iface 78 (Ask.v ⟨1, atKarma L other, 0, 0⟩), recovered := false }] ∧ w.grownBy w' (some g) := by
  refine sy_enterF (some g) [rfRun g (r :: [s, t])] (by intro f hf; simp at hf; subst hf; exact h0) Tryz.func63 rfl fun aa S => ?_
  refine sy_run ⟨0, []⟩ 60 S fun bs aa w S => ?_
  refine sy_call1 S (status_any L me w hok) (by kernel_rfl) fun aa w hb S => ?_
  refine sy_run ⟨0, []⟩ 60 S fun bs aa w S => ?_
  refine sy_acc S (Or.inl rfl) (load_some w g r ([s, t]) (atStatus L me) S.run) (by kernel_rfl) (by simp) fun aa w S => ?_
  refine sy_run ⟨0, []⟩ 60 S fun bs aa w S => ?_
  refine sy_call1 S (toBelow (kind_any r.1 w)) (by kernel_rfl) fun aa w hb S => ?_
  refine sy_ops 1 S fun bs aa w S => ?_
  refine sy_cast 18 S (congrArg Value.bool (decide_eq_false hr : decide (r.1 % 4 = 3) = false)) (by kernel_rfl) fun S => ?_
  refine sy_run ⟨0, []⟩ 60 S fun bs aa w S => ?_
  refine sy_call1 S (status_any L other w hok) (by kernel_rfl) fun aa w hb S => ?_
  refine sy_run ⟨0, []⟩ 60 S fun bs aa w S => ?_
  refine sy_acc S (Or.inl rfl) (load_some w g s ([t]) (atStatus L other) S.run) (by kernel_rfl) (by simp) fun aa w S => ?_
  refine sy_run ⟨0, []⟩ 60 S fun bs aa w S => ?_
  refine sy_call1 S (toBelow (kind_any s.1 w)) (by kernel_rfl) fun aa w hb S => ?_
  refine sy_ops 1 S fun bs aa w S => ?_
  refine sy_cast 30 S (congrArg Value.bool (decide_eq_false hs : decide (s.1 % 4 = 0) = false)) (by kernel_rfl) fun S => ?_
  refine sy_run ⟨0, []⟩ 60 S fun bs aa w S => ?_
  refine sy_call1 S (toBelow (try_any s.1 hi w)) (by kernel_rfl) fun aa w hb S => ?_
  refine sy_run ⟨0, []⟩ 60 S fun bs aa w S => ?_
  refine sy_call1 S (stamp_any L other w hok) (by kernel_rfl) fun aa w hb S => ?_
  refine sy_run ⟨0, []⟩ 60 S fun bs aa w S => ?_
  refine sy_acc S (Or.inl rfl) (load_some w g t ([]) (atStamp L other) S.run) (by kernel_rfl) (by simp) fun aa w S => ?_
  refine sy_run ⟨0, []⟩ 60 S fun bs aa w S => ?_
  refine sy_call1 S (karma_any L other w hok) (by kernel_rfl) fun aa w hb S => ?_
  refine sy_run ⟨0, []⟩ 60 S fun bs aa w S => ?_
  exact sy_panic S ((load_none w g (atKarma L other) S.run).mono fun e w' h => ⟨h.1, gb_of_below _ h.2⟩) (by kernel_rfl) fun w' hg => ⟨rfl, hg⟩
section
variable (s t k : Int × Bool) (l : List (Int × Bool))
include s t k l
set_option maxHeartbeats 8000000 in
theorem resR_tabort (h0 : RunAt w g (r :: s :: t :: k :: l)) (hr : ¬r.1 % 4 = 3) (hi : I64 s.1) (hs : ¬s.1 % 4 = 0) (hc : chooseD L.c.m m ⟨t.1, k.1, s.1 / 4⟩ = 1) : Calls Tryz.prog 63 #[caseV L me other true m, .pointer (some ⟨g, 0, none⟩)] w fun e w' => e = .returned (OutD.v { val := 1 }) ∧ w.grownBy w' (some g) ∧ RunAt w' g l := by
  refine sy_enterF (some g) [rfRun g (r :: s :: t :: k :: l)] (by intro f hf; simp at hf; subst hf; exact h0) Tryz.func63 rfl fun aa S => ?_
  refine sy_run ⟨0, []⟩ 60 S fun bs aa w S => ?_
  refine sy_call1 S (status_any L me w hok) (by kernel_rfl) fun aa w hb S => ?_
  refine sy_run ⟨0, []⟩ 60 S fun bs aa w S => ?_
  refine sy_acc S (Or.inl rfl) (load_some w g r (s :: t :: k :: l) (atStatus L me) S.run) (by kernel_rfl) (by simp) fun aa w S => ?_
  refine sy_run ⟨0, []⟩ 60 S fun bs aa w S => ?_
  refine sy_call1 S (toBelow (kind_any r.1 w)) (by kernel_rfl) fun aa w hb S => ?_
  refine sy_ops 1 S fun bs aa w S => ?_
  refine sy_cast 18 S (congrArg Value.bool (decide_eq_false hr : decide (r.1 % 4 = 3) = false)) (by kernel_rfl) fun S => ?_
  refine sy_run ⟨0, []⟩ 60 S fun bs aa w S => ?_
  refine sy_call1 S (status_any L other w hok) (by kernel_rfl) fun aa w hb S => ?_
  refine sy_run ⟨0, []⟩ 60 S fun bs aa w S => ?_
  refine sy_acc S (Or.inl rfl) (load_some w g s (t :: k :: l) (atStatus L other) S.run) (by kernel_rfl) (by simp) fun aa w S => ?_
  refine sy_run ⟨0, []⟩ 60 S fun bs aa w S => ?_
  refine sy_call1 S (toBelow (kind_any s.1 w)) (by kernel_rfl) fun aa w hb S => ?_
  refine sy_ops 1 S fun bs aa w S => ?_
  refine sy_cast 30 S (congrArg Value.bool (decide_eq_false hs : decide (s.1 % 4 = 0) = false)) (by kernel_rfl) fun S => ?_
  refine sy_run ⟨0, []⟩ 60 S fun bs aa w S => ?_
  refine sy_call1 S (toBelow (try_any s.1 hi w)) (by kernel_rfl) fun aa w hb S => ?_
  refine sy_run ⟨0, []⟩ 60 S fun bs aa w S => ?_
  refine sy_call1 S (stamp_any L other w hok) (by kernel_rfl) fun aa w hb S => ?_
  refine sy_run ⟨0, []⟩ 60 S fun bs aa w S => ?_
  refine sy_acc S (Or.inl rfl) (load_some w g t (k :: l) (atStamp L other) S.run) (by kernel_rfl) (by simp) fun aa w S => ?_
  refine sy_run ⟨0, []⟩ 60 S fun bs aa w S => ?_
  refine sy_call1 S (karma_any L other w hok) (by kernel_rfl) fun aa w hb S => ?_
  refine sy_run ⟨0, []⟩ 60 S fun bs aa w S => ?_
  refine sy_acc S (Or.inl rfl) (load_some w g k l (atKarma L other) S.run) (by kernel_rfl) (by simp) fun aa w S => ?_
  refine sy_run ⟨0, []⟩ 60 S fun bs aa w S => ?_
  have hC := fun w => choose_any L.c.m m ⟨t.1, k.1, s.1 / 4⟩ w
  rw [hc] at hC
  refine sy_call1 S (hC w) (by kernel_rfl) fun aa w hb S => ?_
  refine sy_run ⟨0, []⟩ 60 S fun bs aa w S => ?_
  exact sy_ret S (by kernel_rfl) (by kernel_rfl) fun hg => ⟨rfl, hg, S.run⟩
set_option maxHeartbeats 8000000 in
theorem resR_tret (o : OutD) (h0 : RunAt w g (r :: s :: t :: k :: l)) (hr : ¬r.1 % 4 = 3) (hi : I64 s.1) (hs : ¬s.1 % 4 = 0) (hc : chooseD L.c.m m ⟨t.1, k.1, s.1 / 4⟩ = 2) (hd : (doomT L other s.1).run l = .inr o) : Calls Tryz.prog 63 #[caseV L me other true m, .pointer (some ⟨g, 0, none⟩)] w fun e w' => e = .returned (OutD.v o) ∧ w.grownBy w' (some g) ∧ RunAt w' g ((doomT L other s.1).rest l) := by
  refine sy_enterF (some g) [rfRun g (r :: s :: t :: k :: l)] (by intro f hf; simp at hf; subst hf; exact h0) Tryz.func63 rfl fun aa S => ?_
  refine sy_run ⟨0, []⟩ 60 S fun bs aa w S => ?_
  refine sy_call1 S (status_any L me w hok) (by kernel_rfl) fun aa w hb S => ?_
  refine sy_run ⟨0, []⟩ 60 S fun bs aa w S => ?_
  refine sy_acc S (Or.inl rfl) (load_some w g r (s :: t :: k :: l) (atStatus L me) S.run) (by kernel_rfl) (by simp) fun aa w S => ?_
  refine sy_run ⟨0, []⟩ 60 S fun bs aa w S => ?_
  refine sy_call1 S (toBelow (kind_any r.1 w)) (by kernel_rfl) fun aa w hb S => ?_
  refine sy_ops 1 S fun bs aa w S => ?_
  refine sy_cast 18 S (congrArg Value.bool (decide_eq_false hr : decide (r.1 % 4 = 3) = false)) (by kernel_rfl) fun S => ?_
  refine sy_run ⟨0, []⟩ 60 S fun bs aa w S => ?_
  refine sy_call1 S (status_any L other w hok) (by kernel_rfl) fun aa w hb S => ?_
  refine sy_run ⟨0, []⟩ 60 S fun bs aa w S => ?_
  refine sy_acc S (Or.inl rfl) (load_some w g s (t :: k :: l) (atStatus L other) S.run) (by kernel_rfl) (by simp) fun aa w S => ?_
  refine sy_run ⟨0, []⟩ 60 S fun bs aa w S => ?_
  refine sy_call1 S (toBelow (kind_any s.1 w)) (by kernel_rfl) fun aa w hb S => ?_
  refine sy_ops 1 S fun bs aa w S => ?_
  refine sy_cast 30 S (congrArg Value.bool (decide_eq_false hs : decide (s.1 % 4 = 0) = false)) (by kernel_rfl) fun S => ?_
  refine sy_run ⟨0, []⟩ 60 S fun bs aa w S => ?_
  refine sy_call1 S (toBelow (try_any s.1 hi w)) (by kernel_rfl) fun aa w hb S => ?_
  refine sy_run ⟨0, []⟩ 60 S fun bs aa w S => ?_
  refine sy_call1 S (stamp_any L other w hok) (by kernel_rfl) fun aa w hb S => ?_
  refine sy_run ⟨0, []⟩ 60 S fun bs aa w S => ?_
  refine sy_acc S (Or.inl rfl) (load_some w g t (k :: l) (atStamp L other) S.run) (by kernel_rfl) (by simp) fun aa w S => ?_
  refine sy_run ⟨0, []⟩ 60 S fun bs aa w S => ?_
  refine sy_call1 S (karma_any L other w hok) (by kernel_rfl) fun aa w hb S => ?_
  refine sy_run ⟨0, []⟩ 60 S fun bs aa w S => ?_
  refine sy_acc S (Or.inl rfl) (load_some w g k l (atKarma L other) S.run) (by kernel_rfl) (by simp) fun aa w S => ?_
  refine sy_run ⟨0, []⟩ 60 S fun bs aa w S => ?_
  have hC := fun w => choose_any L.c.m m ⟨t.1, k.1, s.1 / 4⟩ w
  rw [hc] at hC
  refine sy_call1 S (hC w) (by kernel_rfl) fun aa w hb S => ?_
  refine sy_run ⟨0, []⟩ 60 S fun bs aa w S => ?_
  have hD := doomR_any w g L hok me other true m s.1 hi l S.run
  rw [hd] at hD
  refine sy_acc (l' := (doomT L other s.1).rest l) (v := o.v) S (Or.inl rfl) (hD.mono fun e w' h => ⟨h.1.1, h.2 _ rfl, h.1.2⟩) (by kernel_rfl) (by simp) fun aa w S => ?_
  refine sy_run ⟨0, []⟩ 60 S fun bs aa w S => ?_
  exact sy_ret S (by kernel_rfl) (by kernel_rfl) fun hg => ⟨rfl, hg, S.run⟩
set_option maxHeartbeats 8000000 in
theorem resR_tpend (a : Ask) (h0 : RunAt w g (r :: s :: t :: k :: l)) (hr : ¬r.1 % 4 = 3) (hi : I64 s.1) (hs : ¬s.1 % 4 = 0) (hc : chooseD L.c.m m ⟨t.1, k.1, s.1 / 4⟩ = 2) (hd : (doomT L other s.1).run l = .inl a) : Calls Tryz.prog 63 #[caseV L me other true m, .pointer (some ⟨g, 0, none⟩)] w fun e w' => e = .panicked [{ v := .iface 78 a.v, recovered := false }] ∧ w.grownBy w' (some g) := by
  refine sy_enterF (some g) [rfRun g (r :: s :: t :: k :: l)] (by intro f hf; simp at hf; subst hf; exact h0) Tryz.func63 rfl fun aa S => ?_
  refine sy_run ⟨0, []⟩ 60 S fun bs aa w S => ?_
  refine sy_call1 S (status_any L me w hok) (by kernel_rfl) fun aa w hb S => ?_
  refine sy_run ⟨0, []⟩ 60 S fun bs aa w S => ?_
  refine sy_acc S (Or.inl rfl) (load_some w g r (s :: t :: k :: l) (atStatus L me) S.run) (by kernel_rfl) (by simp) fun aa w S => ?_
  refine sy_run ⟨0, []⟩ 60 S fun bs aa w S => ?_
  refine sy_call1 S (toBelow (kind_any r.1 w)) (by kernel_rfl) fun aa w hb S => ?_
  refine sy_ops 1 S fun bs aa w S => ?_
  refine sy_cast 18 S (congrArg Value.bool (decide_eq_false hr : decide (r.1 % 4 = 3) = false)) (by kernel_rfl) fun S => ?_
  refine sy_run ⟨0, []⟩ 60 S fun bs aa w S => ?_
  refine sy_call1 S (status_any L other w hok) (by kernel_rfl) fun aa w hb S => ?_
  refine sy_run ⟨0, []⟩ 60 S fun bs aa w S => ?_
  refine sy_acc S (Or.inl rfl) (load_some w g s (t :: k :: l) (atStatus L other) S.run) (by kernel_rfl) (by simp) fun aa w S => ?_
  refine sy_run ⟨0, []⟩ 60 S fun bs aa w S => ?_
  refine sy_call1 S (toBelow (kind_any s.1 w)) (by kernel_rfl) fun aa w hb S => ?_
  refine sy_ops 1 S fun bs aa w S => ?_
  refine sy_cast 30 S (congrArg Value.bool (decide_eq_false hs : decide (s.1 % 4 = 0) = false)) (by kernel_rfl) fun S => ?_
  refine sy_run ⟨0, []⟩ 60 S fun bs aa w S => ?_
  refine sy_call1 S (toBelow (try_any s.1 hi w)) (by kernel_rfl) fun aa w hb S => ?_
  refine sy_run ⟨0, []⟩ 60 S fun bs aa w S => ?_
  refine sy_call1 S (stamp_any L other w hok) (by kernel_rfl) fun aa w hb S => ?_
  refine sy_run ⟨0, []⟩ 60 S fun bs aa w S => ?_
  refine sy_acc S (Or.inl rfl) (load_some w g t (k :: l) (atStamp L other) S.run) (by kernel_rfl) (by simp) fun aa w S => ?_
  refine sy_run ⟨0, []⟩ 60 S fun bs aa w S => ?_
  refine sy_call1 S (karma_any L other w hok) (by kernel_rfl) fun aa w hb S => ?_
  refine sy_run ⟨0, []⟩ 60 S fun bs aa w S => ?_
  refine sy_acc S (Or.inl rfl) (load_some w g k l (atKarma L other) S.run) (by kernel_rfl) (by simp) fun aa w S => ?_
  refine sy_run ⟨0, []⟩ 60 S fun bs aa w S => ?_
  have hC := fun w => choose_any L.c.m m ⟨t.1, k.1, s.1 / 4⟩ w
  rw [hc] at hC
  refine sy_call1 S (hC w) (by kernel_rfl) fun aa w hb S => ?_
  refine sy_run ⟨0, []⟩ 60 S fun bs aa w S => ?_
  have hD := doomR_any w g L hok me other true m s.1 hi l S.run
  rw [hd] at hD
  exact sy_panic S (hD.mono fun e w' h => ⟨h.1.1, h.1.2⟩) (by kernel_rfl) fun w' hg => ⟨rfl, hg⟩
end
end
end
end Go.Proofs.YtfahnmpcclhjlaaGreat

namespace Go.Proofs.YtfahnmpcclhjlaaGreat
set_option linter.unusedVariables false
set_option linter.unusedSectionVars false
set_option linter.unusedSimpArgs false
open Go Go.RowKit
theorem resR_tany (w : World) (g : Nat) (L : Ly) (hok : L.ok) (me other : Int) (m : Ct) (r : Int × Bool) (hr : ¬r.1 % 4 = 3) (l : List (Int × Bool)) (h0 : RunAt w g (r :: l)) (hI : ∀ x ∈ l, I64 x.1) :
    Calls Tryz.prog 63 #[caseV L me other true m, .pointer (some ⟨g, 0, none⟩)] w (OpPostR ((asksT L other m).run l) ((asksT L other m).rest l) g w) := by
  match l, h0, hI with
  | [], h0, hI => exact (resR_t0 w g L hok me other m r h0 hr).mono fun e w' h => ⟨⟨h.1, h.2⟩, fun o ho => by cases ho⟩
  | s :: l, h0, hI =>
    have hi : I64 s.1 := hI s (by simp)
    unfold asksT
    rw [trun_ask]
    show Calls _ _ _ _ (OpPostR _ ((if s.1 % 4 = 0 then Tree.ret { val := 0 } else .ask ⟨1, atStamp L other, 0, 0⟩ fun t => .ask ⟨1, atKarma L other, 0, 0⟩ fun k => if chooseD L.c.m m ⟨t.1, k.1, s.1 / 4⟩ = 1 then .ret { val := 1 } else doomT L other s.1).rest l) g w)
    by_cases hs : s.1 % 4 = 0
    · rw [if_pos hs, trun_ret]
      have e2 : (Tree.ret { val := 0 }).rest l = l := by cases l <;> rfl
      rw [e2]
      exact (resR_tidle w g L hok me other m r s l h0 hr hs).mono fun e w' h => ⟨⟨h.1, h.2.1⟩, fun o ho => h.2.2⟩
    · rw [if_neg hs]
      match l, h0, hI with
      | [], h0, hI => exact (resR_t1 w g L hok me other m r s h0 hr hi hs).mono fun e w' h => ⟨⟨h.1, h.2⟩, fun o ho => by cases ho⟩
      | [t], h0, hI => exact (resR_t2 w g L hok me other m r s t h0 hr hi hs).mono fun e w' h => ⟨⟨h.1, h.2⟩, fun o ho => by cases ho⟩
      | t :: k :: l, h0, hI =>
        rw [trun_ask, trun_ask]
        show Calls _ _ _ _ (OpPostR _ ((if chooseD L.c.m m ⟨t.1, k.1, s.1 / 4⟩ = 1 then Tree.ret { val := 1 } else doomT L other s.1).rest l) g w)
        rcases tchoose_12 L.c.m m ⟨t.1, k.1, s.1 / 4⟩ with hc | hc
        · rw [if_pos hc, trun_ret]
          have e2 : (Tree.ret { val := 1 }).rest l = l := by cases l <;> rfl
          rw [e2]
          exact (resR_tabort w g L hok me other m r s t k l h0 hr hi hs hc).mono fun e w' h => ⟨⟨h.1, h.2.1⟩, fun o ho => h.2.2⟩
        · rw [if_neg (by rw [hc]; decide)]
          cases hd : (doomT L other s.1).run l with
          | inl a => exact (resR_tpend w g L hok me other m r s t k l a h0 hr hi hs hc hd).mono fun e w' h => ⟨⟨h.1, h.2⟩, fun o ho => by cases ho⟩
          | inr o => exact (resR_tret w g L hok me other m r s t k l o h0 hr hi hs hc hd).mono fun e w' h => ⟨⟨h.1, h.2.1⟩, fun o ho => h.2.2⟩
theorem resolveR_any (w : World) (g : Nat) (L : Ly) (hok : L.ok) (me other : Int) (m : Ct) (l : List (Int × Bool)) (h0 : RunAt w g l) (hI : ∀ x ∈ l, I64 x.1) :
    Calls Tryz.prog 63 #[caseV L me other true m, .pointer (some ⟨g, 0, none⟩)] w (OpPostR ((resolveT L me other true m).run l) ((resolveT L me other true m).rest l) g w) := by
  match l, h0, hI with
  | [], h0, hI => exact (resR_own0 w g L hok me other m h0).mono fun e w' h => ⟨⟨h.1, h.2⟩, fun o ho => by cases ho⟩
  | r :: l, h0, hI =>
    show Calls _ _ _ _ (OpPostR ((if r.1 % 4 = 3 then Tree.ret { val := 1, lost := true } else asksT L other m).run l) ((if r.1 % 4 = 3 then Tree.ret { val := 1, lost := true } else asksT L other m).rest l) g w)
    by_cases hr : r.1 % 4 = 3
    · rw [if_pos hr, trun_ret]
      have e2 : (Tree.ret { val := 1, lost := true }).rest l = l := by cases l <;> rfl
      rw [e2]
      exact (resR_own3 w g L hok me other m r l h0 hr).mono fun e w' h => ⟨⟨h.1, h.2.1⟩, fun o ho => h.2.2⟩
    · rw [if_neg hr]; exact resR_tany w g L hok me other m r hr l h0 (fun x hx => hI x (by simp [hx]))
end Go.Proofs.YtfahnmpcclhjlaaGreat

namespace Go.Proofs.YtfahnmpcclhjlaaGreat
open Go Go.RowKit SZ
set_option linter.unusedVariables false
set_option linter.unusedSectionVars false
set_option linter.unusedSimpArgs false
set_option maxRecDepth 100000
theorem sy_enter1 [DF] {P : Program} {f : FuncId} {fn : Func} {w : World} {R : Ending → World → Prop} (g h : Nat) (k : Bx) (args : List SV) (F : List RF) (hh : w.heap[h]? = some (.cells k.cs.toArray k.ty (0, 0))) (ha : ∀ x ∈ args, x.ok 1) (hF : ∀ f ∈ F, f.P w ∧ ¬f.bl h)
    (hf : P.funcs[f]? = some fn) (hb : fn.body.isSome = true) (hd : DF.d = []) (hk : ∀ a, Sy w [g, h] [h] (cfgR fn args [k]).s F a w → post P (cfgR fn args [k]).k (bodyPost P fn R) .normal a w) : Calls P f (args.map (den [h])).toArray w R := by
  have h1 : ∀ i, i < [h].length → i = 0 := fun i hi => by simp at hi; exact hi
  refine sy_enterR [g, h] [h] [k] args F rfl ?_ ?_ ?_ ha ?_ hf hb hd hk
  · intro i k' hk'
    have hi := h1 i (List.getElem?_eq_some_iff.1 hk').1
    subst hi
    simp only [List.getElem?_cons_zero, Option.some.injEq] at hk'
    subst hk'
    exact hh
  · intro i j hi hj _
    rw [h1 i hi, h1 j hj]
  · intro i hi
    rw [h1 i hi]
    simp
  · intro f hf
    refine ⟨(hF f hf).1, fun i hi => ?_⟩
    rw [h1 i hi]
    exact (hF f hf).2
theorem gr_drop {w w' : World} {g h : Nat} (G : Gr w w' [g, h]) (hh : w'.heap[h]? = w.heap[h]?) : w.grownBy w' (some g) := ⟨G.os, G.tape, G.output, G.size, fun k hk hne => by
  by_cases he : k = h
  · subst he; exact hh
  · exact G.block k hk (by simp only [List.mem_cons, List.not_mem_nil, or_false, not_or]; exact ⟨fun e => hne (by rw [e]), he⟩)⟩
theorem gr_trans {w w1 w2 : World} {r r' : List Nat} (h : Gr w w1 r) (k : Gr w1 w2 r') (hs : ∀ b ∈ r', b ∈ r) : Gr w w2 r := ⟨k.os.trans h.os, k.tape.trans h.tape, k.output.trans h.output, Nat.le_trans h.size k.size, fun b hb hne => (k.block b (Nat.lt_of_lt_of_le hb h.size) fun hm => hne (hs b hm)).trans (h.block b hb hne)⟩
theorem gr_pan {w w1 w2 : World} {g h : Nat} {o : Obj} (hgh : g < h) (G : Gr w w1 [g, h]) (hg : Gr w1 w2 [g]) (he : w1.heap[h]? = w.heap[h]?) (hh : w.heap[h]? = some o) : w.grownBy w2 (some g) :=
  gr_drop (gr_trans G hg (by simp)) ((hg.block h (Array.getElem?_eq_some_iff.1 (he.trans hh)).1 (by simp; omega)).trans he)
def lostP : List PanicEntry := [{ v := .iface 92 (.agg #[]), recovered := false }]
def HdPost (y : OutD × CSt) (g : Nat) (w : World) (e : Ending) (w' : World) : Prop := match y with
  | (_, (_, some q)) => e = .panicked [{ v := .iface 78 q.v, recovered := false }] ∧ w.grownBy w' (some g)
  | (o, (l', none)) => (match o.lost with
    | true => e = .panicked lostP
    | false => e = .returned (.int .i64 o.val)) ∧ RunAt w' g l' ∧ w.grownBy w' (some g)
attribute [local irreducible] post GD Nxt NxtAll
section
variable (w0 : World) (g h : Nat) (R : Rd) (hok : R.L.ok) (q0 : Oq) (clk : Int) (sh : Bool) (l : List (Int × Bool)) (hgh : g < h) (who : Int) (hR : RunAt w0 g l) (hh : w0.heap[h]? = some (.cells (rdC g R q0 clk sh).toArray 62 (0, 0)))
include w0 g h R hok q0 clk sh l hgh who hR hh
set_option maxHeartbeats 8000000 in
theorem hd_me (h1 : who = R.me) : Calls Tryz.prog 44 #[.pointer (some ⟨h, 0, none⟩), .int .i64 who] w0 fun e w' => e = .panicked lostP ∧ RunAt w' g l ∧ w0.grownBy w' (some g) := by
  refine sy_enter1 g h ⟨62, rdC g R q0 clk sh⟩ [.p 0 0, .v (.int .i64 who)] [rfRun g l] hh ?_ ?_ Tryz.func44 rfl rfl fun aa S => ?_
  · intro x hx
    simp only [List.mem_cons, List.not_mem_nil, or_false] at hx
    rcases hx with rfl | rfl
    · exact Nat.succ_pos _
    · trivial
  · intro f hf
    simp only [List.mem_cons, List.not_mem_nil, or_false] at hf
    subst hf
    exact ⟨hR, fun hb => absurd (show h ≤ g from hb) (by omega)⟩
  refine sy_run ⟨0, [1]⟩ 60 S fun bs aa w S => ?_
  refine sy_reg S fun S => ?_
  refine sy_ops 6 S fun bs aa w S => ?_
  refine sy_cast 12 S (congrArg Value.bool (decide_eq_true h1 : decide (who = R.me) = true)) (by kernel_rfl) fun S => ?_
  refine sy_run ⟨0, []⟩ 60 S fun bs aa w S => ?_
  have e0 := S.bx 0 ⟨62, rdC g R q0 clk sh⟩ (by kernel_rfl)
  exact sy_thr S (by kernel_rfl) ⟨S.df, rfl, S.run, gr_drop S.gr (e0.trans hh.symm)⟩
set_option maxHeartbeats 8000000 in
theorem hd_no (h1 : ¬ who = R.me) (h2 : atStatus R.L who < 0) : Calls Tryz.prog 44 #[.pointer (some ⟨h, 0, none⟩), .int .i64 who] w0 fun e w' => e = .panicked lostP ∧ RunAt w' g l ∧ w0.grownBy w' (some g) := by
  refine sy_enter1 g h ⟨62, rdC g R q0 clk sh⟩ [.p 0 0, .v (.int .i64 who)] [rfRun g l] hh ?_ ?_ Tryz.func44 rfl rfl fun aa S => ?_
  · intro x hx
    simp only [List.mem_cons, List.not_mem_nil, or_false] at hx
    rcases hx with rfl | rfl
    · exact Nat.succ_pos _
    · trivial
  · intro f hf
    simp only [List.mem_cons, List.not_mem_nil, or_false] at hf
    subst hf
    exact ⟨hR, fun hb => absurd (show h ≤ g from hb) (by omega)⟩
  refine sy_run ⟨0, [1]⟩ 60 S fun bs aa w S => ?_
  refine sy_reg S fun S => ?_
  refine sy_ops 6 S fun bs aa w S => ?_
  refine sy_cast 12 S (congrArg Value.bool (decide_eq_false h1 : decide (who = R.me) = false)) (by kernel_rfl) fun S => ?_
  refine sy_run ⟨0, []⟩ 60 S fun bs aa w S => ?_
  refine sy_call1 S (status_any R.L who w hok) (by kernel_rfl) fun aa w hb S => ?_
  refine sy_ops 1 S fun bs aa w S => ?_
  refine sy_cast 20 S (congrArg Value.bool (decide_eq_true h2 : decide (atStatus R.L who < 0) = true)) (by kernel_rfl) fun S => ?_
  refine sy_run ⟨0, []⟩ 60 S fun bs aa w S => ?_
  have e0 := S.bx 0 ⟨62, rdC g R q0 clk sh⟩ (by kernel_rfl)
  exact sy_thr S (by kernel_rfl) ⟨S.df, rfl, S.run, gr_drop S.gr (e0.trans hh.symm)⟩
section
variable (hI : ∀ x ∈ l, I64 x.1) (h1 : ¬ who = R.me) (h2 : ¬ atStatus R.L who < 0)
include hI h1 h2
set_option maxHeartbeats 8000000 in
theorem hd_q (q : Ask) (hX : (resolveT R.L R.me who true R.m).run l = .inl q) : Calls Tryz.prog 44 #[.pointer (some ⟨h, 0, none⟩), .int .i64 who] w0 fun e w' => e = .panicked [{ v := .iface 78 q.v, recovered := false }] ∧ w0.grownBy w' (some g) := by
  have hCp : ∀ w, RunAt w g l → Calls Tryz.prog 63 #[caseV R.L R.me who true R.m, .pointer (some ⟨g, 0, none⟩)] w fun e w' => e = .panicked [{ v := .iface 78 q.v, recovered := false }] ∧ Gr w w' [g] := fun w hr => by
    have hC := resolveR_any w g R.L hok R.me who R.m l hr hI
    rw [hX] at hC
    exact hC.mono fun e w' h => ⟨h.1.1, gr_gb' h.1.2⟩
  refine sy_enter1 g h ⟨62, rdC g R q0 clk sh⟩ [.p 0 0, .v (.int .i64 who)] [rfRun g l] hh ?_ ?_ Tryz.func44 rfl rfl fun aa S => ?_
  · intro x hx
    simp only [List.mem_cons, List.not_mem_nil, or_false] at hx
    rcases hx with rfl | rfl
    · exact Nat.succ_pos _
    · trivial
  · intro f hf
    simp only [List.mem_cons, List.not_mem_nil, or_false] at hf
    subst hf
    exact ⟨hR, fun hb => absurd (show h ≤ g from hb) (by omega)⟩
  refine sy_run ⟨0, [1]⟩ 60 S fun bs aa w S => ?_
  refine sy_reg S fun S => ?_
  refine sy_ops 6 S fun bs aa w S => ?_
  refine sy_cast 12 S (congrArg Value.bool (decide_eq_false h1 : decide (who = R.me) = false)) (by kernel_rfl) fun S => ?_
  refine sy_run ⟨0, []⟩ 60 S fun bs aa w S => ?_
  refine sy_call1 S (status_any R.L who w hok) (by kernel_rfl) fun aa w hb S => ?_
  refine sy_ops 1 S fun bs aa w S => ?_
  refine sy_cast 20 S (congrArg Value.bool (decide_eq_false h2 : decide (atStatus R.L who < 0) = false)) (by kernel_rfl) fun S => ?_
  refine sy_run ⟨0, []⟩ 60 S fun bs aa w S => ?_
  refine dr_enter [0] (by kernel_rfl) (by kernel_rfl) S (by kernel_rfl) fun aa w D => ?_
  refine dr_any [15] (by kernel_rfl) (by kernel_rfl) rfl (na1 ?_)
  · refine nx_op 15 D (by kernel_rfl) (Nat.le_refl _) (by kernel_rfl) (by kernel_rfl) fun bs aa w D hl => ?_
    refine dr_any [16] (by kernel_rfl) (by kernel_rfl) rfl (na1 ?_)
    · refine nx_op 16 D (by kernel_rfl) hl (by kernel_rfl) (by kernel_rfl) fun bs aa w D hl => ?_
      refine dr_end D (by kernel_rfl) fun S => ?_
      refine sy_run ⟨0, []⟩ 60 S fun bs aa w S => ?_
      refine dr_enter [0, 1] (by kernel_rfl) (by kernel_rfl) S (by kernel_rfl) fun aa w D => ?_
      refine dr_any [5, 6] (by kernel_rfl) (by kernel_rfl) rfl (na2 ?_ ?_)
      · exact nx_pan (G := [g]) 5 D (hCp w (D.S.fact (f := rfRun g l) (by simp))) (by kernel_rfl) fun w' hg => ⟨D.S.df, rfl, gr_pan hgh D.S.gr hg ((D.S.bx 0 ⟨62, rdC g R q0 clk sh⟩ (by kernel_rfl)).trans hh.symm) hh⟩
      · refine nx_op 6 D (by kernel_rfl) (Nat.le_refl _) (by kernel_rfl) (by kernel_rfl) fun bs aa w D hl => ?_
        refine dr_any [5] (by kernel_rfl) (by kernel_rfl) rfl (na1 ?_)
        · exact nx_pan (G := [g]) 5 D (hCp w (D.S.fact (f := rfRun g l) (by simp))) (by kernel_rfl) fun w' hg => ⟨D.S.df, rfl, gr_pan hgh D.S.gr hg ((D.S.bx 0 ⟨62, rdC g R q0 clk sh⟩ (by kernel_rfl)).trans hh.symm) hh⟩
section
variable (val ver rv st : Int) (ok : Bool) (err : Int) (l' : List (Int × Bool))
include val ver rv st ok err l'
set_option maxHeartbeats 8000000 in
theorem hd_t (hX : (resolveT R.L R.me who true R.m).run l = .inr ⟨val, ver, rv, st, ok, true, err⟩) (hl' : (resolveT R.L R.me who true R.m).rest l = l') : Calls Tryz.prog 44 #[.pointer (some ⟨h, 0, none⟩), .int .i64 who] w0 fun e w' => e = .panicked lostP ∧ RunAt w' g l' ∧ w0.grownBy w' (some g) := by
  have hCp : ∀ w, RunAt w g l → Calls Tryz.prog 63 #[caseV R.L R.me who true R.m, .pointer (some ⟨g, 0, none⟩)] w fun e w' => e = .returned (OutD.v ⟨val, ver, rv, st, ok, true, err⟩) ∧ RunAt w' g l' ∧ w.grownBy w' (some g) := fun w hr => by
    have hC := resolveR_any w g R.L hok R.me who R.m l hr hI
    rw [hX, hl'] at hC
    exact hC.mono fun e w' h => ⟨h.1.1, h.2 _ rfl, h.1.2⟩
  refine sy_enter1 g h ⟨62, rdC g R q0 clk sh⟩ [.p 0 0, .v (.int .i64 who)] [rfRun g l] hh ?_ ?_ Tryz.func44 rfl rfl fun aa S => ?_
  · intro x hx
    simp only [List.mem_cons, List.not_mem_nil, or_false] at hx
    rcases hx with rfl | rfl
    · exact Nat.succ_pos _
    · trivial
  · intro f hf
    simp only [List.mem_cons, List.not_mem_nil, or_false] at hf
    subst hf
    exact ⟨hR, fun hb => absurd (show h ≤ g from hb) (by omega)⟩
  refine sy_run ⟨0, [1]⟩ 60 S fun bs aa w S => ?_
  refine sy_reg S fun S => ?_
  refine sy_ops 6 S fun bs aa w S => ?_
  refine sy_cast 12 S (congrArg Value.bool (decide_eq_false h1 : decide (who = R.me) = false)) (by kernel_rfl) fun S => ?_
  refine sy_run ⟨0, []⟩ 60 S fun bs aa w S => ?_
  refine sy_call1 S (status_any R.L who w hok) (by kernel_rfl) fun aa w hb S => ?_
  refine sy_ops 1 S fun bs aa w S => ?_
  refine sy_cast 20 S (congrArg Value.bool (decide_eq_false h2 : decide (atStatus R.L who < 0) = false)) (by kernel_rfl) fun S => ?_
  refine sy_run ⟨0, []⟩ 60 S fun bs aa w S => ?_
  refine dr_enter [0] (by kernel_rfl) (by kernel_rfl) S (by kernel_rfl) fun aa w D => ?_
  refine dr_any [15] (by kernel_rfl) (by kernel_rfl) rfl (na1 ?_)
  · refine nx_op 15 D (by kernel_rfl) (Nat.le_refl _) (by kernel_rfl) (by kernel_rfl) fun bs aa w D hl => ?_
    refine dr_any [16] (by kernel_rfl) (by kernel_rfl) rfl (na1 ?_)
    · refine nx_op 16 D (by kernel_rfl) hl (by kernel_rfl) (by kernel_rfl) fun bs aa w D hl => ?_
      refine dr_end D (by kernel_rfl) fun S => ?_
      refine sy_run ⟨0, []⟩ 60 S fun bs aa w S => ?_
      refine dr_enter [0, 1] (by kernel_rfl) (by kernel_rfl) S (by kernel_rfl) fun aa w D => ?_
      refine dr_any [5, 6] (by kernel_rfl) (by kernel_rfl) rfl (na2 ?_ ?_)
      · refine nx_acc (l' := l') 5 D (Or.inl (by simp)) (by kernel_rfl) (hCp w (D.S.fact (f := rfRun g l) (by simp))) (by kernel_rfl) (by simp) fun aa w D => ?_
        refine dr_any [6] (by kernel_rfl) (by kernel_rfl) rfl (na1 ?_)
        · refine nx_op 6 D (by kernel_rfl) (Nat.le_refl _) (by kernel_rfl) (by kernel_rfl) fun bs aa w D hl => ?_
          refine dr_any [7] (by kernel_rfl) (by kernel_rfl) rfl (na1 ?_)
          · refine nx_op 7 D (by kernel_rfl) hl (by kernel_rfl) (by kernel_rfl) fun bs aa w D hl => ?_
            refine dr_end D (by kernel_rfl) fun S => ?_
            refine sy_run ⟨0, []⟩ 60 S fun bs aa w S => ?_
            have e0 := S.bx 0 ⟨62, rdC g R q0 clk sh⟩ (by kernel_rfl)
            exact sy_thr S (by kernel_rfl) ⟨S.df, rfl, S.run, gr_drop S.gr (e0.trans hh.symm)⟩
      · refine nx_op 6 D (by kernel_rfl) (Nat.le_refl _) (by kernel_rfl) (by kernel_rfl) fun bs aa w D hl => ?_
        refine dr_any [5] (by kernel_rfl) (by kernel_rfl) rfl (na1 ?_)
        · refine nx_acc (l' := l') 5 D (Or.inl (by simp)) (by kernel_rfl) (hCp w (D.S.fact (f := rfRun g l) (by simp))) (by kernel_rfl) (by simp) fun aa w D => ?_
          refine dr_any [7] (by kernel_rfl) (by kernel_rfl) rfl (na1 ?_)
          · refine nx_op 7 D (by kernel_rfl) hl (by kernel_rfl) (by kernel_rfl) fun bs aa w D hl => ?_
            refine dr_end D (by kernel_rfl) fun S => ?_
            refine sy_run ⟨0, []⟩ 60 S fun bs aa w S => ?_
            have e0 := S.bx 0 ⟨62, rdC g R q0 clk sh⟩ (by kernel_rfl)
            exact sy_thr S (by kernel_rfl) ⟨S.df, rfl, S.run, gr_drop S.gr (e0.trans hh.symm)⟩
section
variable (hX : (resolveT R.L R.me who true R.m).run l = .inr ⟨val, ver, rv, st, ok, false, err⟩) (hl' : (resolveT R.L R.me who true R.m).rest l = l')
include hX hl'
set_option maxHeartbeats 8000000 in
theorem hd_a (h3 : val = 1) : Calls Tryz.prog 44 #[.pointer (some ⟨h, 0, none⟩), .int .i64 who] w0 fun e w' => e = .panicked lostP ∧ RunAt w' g l' ∧ w0.grownBy w' (some g) := by
  have hCp : ∀ w, RunAt w g l → Calls Tryz.prog 63 #[caseV R.L R.me who true R.m, .pointer (some ⟨g, 0, none⟩)] w fun e w' => e = .returned (OutD.v ⟨val, ver, rv, st, ok, false, err⟩) ∧ RunAt w' g l' ∧ w.grownBy w' (some g) := fun w hr => by
    have hC := resolveR_any w g R.L hok R.me who R.m l hr hI
    rw [hX, hl'] at hC
    exact hC.mono fun e w' h => ⟨h.1.1, h.2 _ rfl, h.1.2⟩
  refine sy_enter1 g h ⟨62, rdC g R q0 clk sh⟩ [.p 0 0, .v (.int .i64 who)] [rfRun g l] hh ?_ ?_ Tryz.func44 rfl rfl fun aa S => ?_
  · intro x hx
    simp only [List.mem_cons, List.not_mem_nil, or_false] at hx
    rcases hx with rfl | rfl
    · exact Nat.succ_pos _
    · trivial
  · intro f hf
    simp only [List.mem_cons, List.not_mem_nil, or_false] at hf
    subst hf
    exact ⟨hR, fun hb => absurd (show h ≤ g from hb) (by omega)⟩
  refine sy_run ⟨0, [1]⟩ 60 S fun bs aa w S => ?_
  refine sy_reg S fun S => ?_
  refine sy_ops 6 S fun bs aa w S => ?_
  refine sy_cast 12 S (congrArg Value.bool (decide_eq_false h1 : decide (who = R.me) = false)) (by kernel_rfl) fun S => ?_
  refine sy_run ⟨0, []⟩ 60 S fun bs aa w S => ?_
  refine sy_call1 S (status_any R.L who w hok) (by kernel_rfl) fun aa w hb S => ?_
  refine sy_ops 1 S fun bs aa w S => ?_
  refine sy_cast 20 S (congrArg Value.bool (decide_eq_false h2 : decide (atStatus R.L who < 0) = false)) (by kernel_rfl) fun S => ?_
  refine sy_run ⟨0, []⟩ 60 S fun bs aa w S => ?_
  refine dr_enter [0] (by kernel_rfl) (by kernel_rfl) S (by kernel_rfl) fun aa w D => ?_
  refine dr_any [15] (by kernel_rfl) (by kernel_rfl) rfl (na1 ?_)
  · refine nx_op 15 D (by kernel_rfl) (Nat.le_refl _) (by kernel_rfl) (by kernel_rfl) fun bs aa w D hl => ?_
    refine dr_any [16] (by kernel_rfl) (by kernel_rfl) rfl (na1 ?_)
    · refine nx_op 16 D (by kernel_rfl) hl (by kernel_rfl) (by kernel_rfl) fun bs aa w D hl => ?_
      refine dr_end D (by kernel_rfl) fun S => ?_
      refine sy_run ⟨0, []⟩ 60 S fun bs aa w S => ?_
      refine dr_enter [0, 1] (by kernel_rfl) (by kernel_rfl) S (by kernel_rfl) fun aa w D => ?_
      refine dr_any [5, 6] (by kernel_rfl) (by kernel_rfl) rfl (na2 ?_ ?_)
      · refine nx_acc (l' := l') 5 D (Or.inl (by simp)) (by kernel_rfl) (hCp w (D.S.fact (f := rfRun g l) (by simp))) (by kernel_rfl) (by simp) fun aa w D => ?_
        refine dr_any [6] (by kernel_rfl) (by kernel_rfl) rfl (na1 ?_)
        · refine nx_op 6 D (by kernel_rfl) (Nat.le_refl _) (by kernel_rfl) (by kernel_rfl) fun bs aa w D hl => ?_
          refine dr_any [7] (by kernel_rfl) (by kernel_rfl) rfl (na1 ?_)
          · refine nx_op 7 D (by kernel_rfl) hl (by kernel_rfl) (by kernel_rfl) fun bs aa w D hl => ?_
            refine dr_end D (by kernel_rfl) fun S => ?_
            refine sy_run ⟨0, [5]⟩ 60 S fun bs aa w S => ?_
            refine sy_reg S fun S => ?_
            refine sy_ops 6 S fun bs aa w S => ?_
            refine sy_cast 50 S (congrArg Value.bool (decide_eq_true h3 : decide (val = 1) = true)) (by kernel_rfl) fun S => ?_
            refine sy_run ⟨0, []⟩ 60 S fun bs aa w S => ?_
            have e0 := S.bx 0 ⟨62, rdC g R q0 clk sh⟩ (by kernel_rfl)
            exact sy_thr S (by kernel_rfl) ⟨S.df, rfl, S.run, gr_drop S.gr (e0.trans hh.symm)⟩
      · refine nx_op 6 D (by kernel_rfl) (Nat.le_refl _) (by kernel_rfl) (by kernel_rfl) fun bs aa w D hl => ?_
        refine dr_any [5] (by kernel_rfl) (by kernel_rfl) rfl (na1 ?_)
        · refine nx_acc (l' := l') 5 D (Or.inl (by simp)) (by kernel_rfl) (hCp w (D.S.fact (f := rfRun g l) (by simp))) (by kernel_rfl) (by simp) fun aa w D => ?_
          refine dr_any [7] (by kernel_rfl) (by kernel_rfl) rfl (na1 ?_)
          · refine nx_op 7 D (by kernel_rfl) hl (by kernel_rfl) (by kernel_rfl) fun bs aa w D hl => ?_
            refine dr_end D (by kernel_rfl) fun S => ?_
            refine sy_run ⟨0, [5]⟩ 60 S fun bs aa w S => ?_
            refine sy_reg S fun S => ?_
            refine sy_ops 6 S fun bs aa w S => ?_
            refine sy_cast 50 S (congrArg Value.bool (decide_eq_true h3 : decide (val = 1) = true)) (by kernel_rfl) fun S => ?_
            refine sy_run ⟨0, []⟩ 60 S fun bs aa w S => ?_
            have e0 := S.bx 0 ⟨62, rdC g R q0 clk sh⟩ (by kernel_rfl)
            exact sy_thr S (by kernel_rfl) ⟨S.df, rfl, S.run, gr_drop S.gr (e0.trans hh.symm)⟩
set_option maxHeartbeats 8000000 in
theorem hd_f (h3 : ¬ val = 1) : Calls Tryz.prog 44 #[.pointer (some ⟨h, 0, none⟩), .int .i64 who] w0 fun e w' => e = .returned (.int .i64 val) ∧ RunAt w' g l' ∧ w0.grownBy w' (some g) := by
  have hCp : ∀ w, RunAt w g l → Calls Tryz.prog 63 #[caseV R.L R.me who true R.m, .pointer (some ⟨g, 0, none⟩)] w fun e w' => e = .returned (OutD.v ⟨val, ver, rv, st, ok, false, err⟩) ∧ RunAt w' g l' ∧ w.grownBy w' (some g) := fun w hr => by
    have hC := resolveR_any w g R.L hok R.me who R.m l hr hI
    rw [hX, hl'] at hC
    exact hC.mono fun e w' h => ⟨h.1.1, h.2 _ rfl, h.1.2⟩
  refine sy_enter1 g h ⟨62, rdC g R q0 clk sh⟩ [.p 0 0, .v (.int .i64 who)] [rfRun g l] hh ?_ ?_ Tryz.func44 rfl rfl fun aa S => ?_
  · intro x hx
    simp only [List.mem_cons, List.not_mem_nil, or_false] at hx
    rcases hx with rfl | rfl
    · exact Nat.succ_pos _
    · trivial
  · intro f hf
    simp only [List.mem_cons, List.not_mem_nil, or_false] at hf
    subst hf
    exact ⟨hR, fun hb => absurd (show h ≤ g from hb) (by omega)⟩
  refine sy_run ⟨0, [1]⟩ 60 S fun bs aa w S => ?_
  refine sy_reg S fun S => ?_
  refine sy_ops 6 S fun bs aa w S => ?_
  refine sy_cast 12 S (congrArg Value.bool (decide_eq_false h1 : decide (who = R.me) = false)) (by kernel_rfl) fun S => ?_
  refine sy_run ⟨0, []⟩ 60 S fun bs aa w S => ?_
  refine sy_call1 S (status_any R.L who w hok) (by kernel_rfl) fun aa w hb S => ?_
  refine sy_ops 1 S fun bs aa w S => ?_
  refine sy_cast 20 S (congrArg Value.bool (decide_eq_false h2 : decide (atStatus R.L who < 0) = false)) (by kernel_rfl) fun S => ?_
  refine sy_run ⟨0, []⟩ 60 S fun bs aa w S => ?_
  refine dr_enter [0] (by kernel_rfl) (by kernel_rfl) S (by kernel_rfl) fun aa w D => ?_
  refine dr_any [15] (by kernel_rfl) (by kernel_rfl) rfl (na1 ?_)
  · refine nx_op 15 D (by kernel_rfl) (Nat.le_refl _) (by kernel_rfl) (by kernel_rfl) fun bs aa w D hl => ?_
    refine dr_any [16] (by kernel_rfl) (by kernel_rfl) rfl (na1 ?_)
    · refine nx_op 16 D (by kernel_rfl) hl (by kernel_rfl) (by kernel_rfl) fun bs aa w D hl => ?_
      refine dr_end D (by kernel_rfl) fun S => ?_
      refine sy_run ⟨0, []⟩ 60 S fun bs aa w S => ?_
      refine dr_enter [0, 1] (by kernel_rfl) (by kernel_rfl) S (by kernel_rfl) fun aa w D => ?_
      refine dr_any [5, 6] (by kernel_rfl) (by kernel_rfl) rfl (na2 ?_ ?_)
      · refine nx_acc (l' := l') 5 D (Or.inl (by simp)) (by kernel_rfl) (hCp w (D.S.fact (f := rfRun g l) (by simp))) (by kernel_rfl) (by simp) fun aa w D => ?_
        refine dr_any [6] (by kernel_rfl) (by kernel_rfl) rfl (na1 ?_)
        · refine nx_op 6 D (by kernel_rfl) (Nat.le_refl _) (by kernel_rfl) (by kernel_rfl) fun bs aa w D hl => ?_
          refine dr_any [7] (by kernel_rfl) (by kernel_rfl) rfl (na1 ?_)
          · refine nx_op 7 D (by kernel_rfl) hl (by kernel_rfl) (by kernel_rfl) fun bs aa w D hl => ?_
            refine dr_end D (by kernel_rfl) fun S => ?_
            refine sy_run ⟨0, [5]⟩ 60 S fun bs aa w S => ?_
            refine sy_reg S fun S => ?_
            refine sy_ops 6 S fun bs aa w S => ?_
            refine sy_cast 50 S (congrArg Value.bool (decide_eq_false h3 : decide (val = 1) = false)) (by kernel_rfl) fun S => ?_
            refine sy_run ⟨0, []⟩ 60 S fun bs aa w S => ?_
            have e0 := S.bx 0 ⟨62, rdC g R q0 clk sh⟩ (by kernel_rfl)
            exact sy_ret S (by kernel_rfl) (by kernel_rfl) fun hg => ⟨rfl, S.run, gr_drop hg (e0.trans hh.symm)⟩
      · refine nx_op 6 D (by kernel_rfl) (Nat.le_refl _) (by kernel_rfl) (by kernel_rfl) fun bs aa w D hl => ?_
        refine dr_any [5] (by kernel_rfl) (by kernel_rfl) rfl (na1 ?_)
        · refine nx_acc (l' := l') 5 D (Or.inl (by simp)) (by kernel_rfl) (hCp w (D.S.fact (f := rfRun g l) (by simp))) (by kernel_rfl) (by simp) fun aa w D => ?_
          refine dr_any [7] (by kernel_rfl) (by kernel_rfl) rfl (na1 ?_)
          · refine nx_op 7 D (by kernel_rfl) hl (by kernel_rfl) (by kernel_rfl) fun bs aa w D hl => ?_
            refine dr_end D (by kernel_rfl) fun S => ?_
            refine sy_run ⟨0, [5]⟩ 60 S fun bs aa w S => ?_
            refine sy_reg S fun S => ?_
            refine sy_ops 6 S fun bs aa w S => ?_
            refine sy_cast 50 S (congrArg Value.bool (decide_eq_false h3 : decide (val = 1) = false)) (by kernel_rfl) fun S => ?_
            refine sy_run ⟨0, []⟩ 60 S fun bs aa w S => ?_
            have e0 := S.bx 0 ⟨62, rdC g R q0 clk sh⟩ (by kernel_rfl)
            exact sy_ret S (by kernel_rfl) (by kernel_rfl) fun hg => ⟨rfl, S.run, gr_drop hg (e0.trans hh.symm)⟩
end
end
end
end
theorem refRun_inr' : ∀ (T : Tree) (l : List (Int × Bool)) (o : OutD), T.run l = .inr o → refRun T (l, none) = (o, (T.rest l, none)) := by
  intro T
  induction T with
  | ret o => intro l o' h; cases l <;> (cases h; rfl)
  | ask a f ih =>
    intro l o h
    match l, h with
    | [], h => cases h
    | r :: l, h => exact ih r l o h
theorem refRun_inl' (T : Tree) (l : List (Int × Bool)) (a : Ask) (h : T.run l = .inl a) : (refRun T (l, none)).2.2 = some a := by
  have k := told_run T l
  rw [h] at k
  unfold toldX at k
  cases h2 : (refRun T (l, none)).2.2 with
  | none => rw [h2] at k; cases k
  | some b => rw [h2] at k; cases k; rfl
theorem handle_any (w0 : World) (g h : Nat) (R : Rd) (hok : R.L.ok) (q0 : Oq) (clk : Int) (sh : Bool) (l : List (Int × Bool)) (hgh : g < h) (who : Int) (hR : RunAt w0 g l) (hh : w0.heap[h]? = some (.cells (rdC g R q0 clk sh).toArray 62 (0, 0))) (hI : ∀ x ∈ l, I64 x.1) : Calls Tryz.prog 44 #[.pointer (some ⟨h, 0, none⟩), .int .i64 who] w0 (HdPost (askS R who (l, none)) g w0) := by
  unfold askS
  by_cases h1 : who = R.me
  · rw [if_pos (Or.inl h1)]
    exact hd_me w0 g h R hok q0 clk sh l hgh who hR hh h1
  · by_cases h2 : atStatus R.L who < 0
    · rw [if_pos (Or.inr h2)]
      exact hd_no w0 g h R hok q0 clk sh l hgh who hR hh h1 h2
    · rw [if_neg (by simp [h1, h2])]
      obtain ⟨X, hX⟩ : ∃ X, (resolveT R.L R.me who true R.m).run l = X := ⟨_, rfl⟩
      cases X with
      | inl q =>
        have e := refRun_inl' _ _ _ hX
        obtain ⟨⟨o, l', oq⟩, hY⟩ : ∃ Y, refRun (resolveT R.L R.me who true R.m) (l, none) = Y := ⟨_, rfl⟩
        rw [hY] at e ⊢
        simp only at e
        subst e
        exact hd_q w0 g h R hok q0 clk sh l hgh who hR hh hI h1 h2 q hX
      | inr o =>
        rw [refRun_inr' _ _ _ hX]
        obtain ⟨val, ver, rv, st, ok, lost, err⟩ := o
        cases lost with
        | true => exact hd_t w0 g h R hok q0 clk sh l hgh who hR hh hI h1 h2 val ver rv st ok err _ hX rfl
        | false =>
          by_cases h3 : val = 1
          · have e : decide (val = 1) = true := decide_eq_true h3
            simp only [e, Bool.or_true]
            exact hd_a w0 g h R hok q0 clk sh l hgh who hR hh hI h1 h2 val ver rv st ok err _ hX rfl h3
          · have e : decide (val = 1) = false := decide_eq_false h3
            simp only [e, Bool.or_false]
            exact hd_f w0 g h R hok q0 clk sh l hgh who hR hh hI h1 h2 val ver rv st ok err _ hX rfl h3
end Go.Proofs.YtfahnmpcclhjlaaGreat

namespace Go.Proofs.YtfahnmpcclhjlaaGreat
open Go Go.RowKit SX
set_option linter.unusedVariables false
set_option linter.unusedSectionVars false
set_option linter.unusedSimpArgs false
set_option maxRecDepth 100000
attribute [local irreducible] post
section
variable (w : World) (g : Nat) (p v : Int)
include w g p v
set_option maxHeartbeats 4000000 in
theorem lk_0 (h0 : RunAt w g []) : Calls Tryz.prog 64 #[.pointer (some ⟨g, 0, none⟩), .int .i64 p, .int .i64 v] w fun e w' => e = .panicked [{ v := .iface 78 (Ask.v ⟨1, p, 0, 0⟩), recovered := false }] ∧ w.grownBy w' (some g) := by
  refine sy_enterF (some g) [rfRun g []] (by intro f hf; simp at hf; subst hf; exact h0) Tryz.func64 rfl fun aa S => ?_
  refine sy_run ⟨0, []⟩ 50 S fun bs aa w S => ?_
  exact sy_panic S ((load_none w g p S.run).mono fun e w' h => ⟨h.1, gb_of_below _ h.2⟩) (by kernel_rfl) fun w' hg => ⟨rfl, hg⟩
section
variable (r : Int × Bool) (l : List (Int × Bool))
include r l
set_option maxHeartbeats 4000000 in
theorem lk_t (hr : r.1 = wrap64 (2 * v)) (h0 : RunAt w g (r :: l)) : Calls Tryz.prog 64 #[.pointer (some ⟨g, 0, none⟩), .int .i64 p, .int .i64 v] w fun e w' => e = .returned (OutD.v { ok := true }) ∧ RunAt w' g l ∧ w.grownBy w' (some g) := by
  refine sy_enterF (some g) [rfRun g (r :: l)] (by intro f hf; simp at hf; subst hf; exact h0) Tryz.func64 rfl fun aa S => ?_
  refine sy_run ⟨0, []⟩ 50 S fun bs aa w S => ?_
  refine sy_acc S (Or.inl rfl) (load_some w g r l p S.run) (by kernel_rfl) (by simp) fun aa w S => ?_
  refine sy_run ⟨0, [2]⟩ 60 S fun bs aa w S => ?_
  refine sy_reg S fun S => ?_
  refine sy_ops 2 S fun bs aa w S => ?_
  refine sy_call1 S (toBelow (free_any v w)) (by kernel_rfl) fun aa w hb S => ?_
  refine sy_ops 2 S fun bs aa w S => ?_
  refine sy_cond true S (decide_eq_true hr : decide (r.1 = wrap64 (2 * v)) = true) (by kernel_rfl) fun S => ?_
  refine sy_run ⟨0, []⟩ 50 S fun bs aa w S => ?_
  exact sy_ret S (by kernel_rfl) (by kernel_rfl) fun hg => ⟨rfl, S.run, hg⟩
set_option maxHeartbeats 4000000 in
theorem lk_h (hr : ¬ r.1 = wrap64 (2 * v)) (hq : decide (r.1 % 2 = 1) = true) (h0 : RunAt w g (r :: l)) : Calls Tryz.prog 64 #[.pointer (some ⟨g, 0, none⟩), .int .i64 p, .int .i64 v] w fun e w' => e = .returned (OutD.v { val := r.1 / 2 }) ∧ RunAt w' g l ∧ w.grownBy w' (some g) := by
  refine sy_enterF (some g) [rfRun g (r :: l)] (by intro f hf; simp at hf; subst hf; exact h0) Tryz.func64 rfl fun aa S => ?_
  refine sy_run ⟨0, []⟩ 50 S fun bs aa w S => ?_
  refine sy_acc S (Or.inl rfl) (load_some w g r l p S.run) (by kernel_rfl) (by simp) fun aa w S => ?_
  refine sy_run ⟨0, [2]⟩ 60 S fun bs aa w S => ?_
  refine sy_reg S fun S => ?_
  refine sy_ops 2 S fun bs aa w S => ?_
  refine sy_call1 S (toBelow (free_any v w)) (by kernel_rfl) fun aa w hb S => ?_
  refine sy_ops 2 S fun bs aa w S => ?_
  refine sy_cond false S (decide_eq_false hr : decide (r.1 = wrap64 (2 * v)) = false) (by kernel_rfl) fun S => ?_
  refine sy_run ⟨0, []⟩ 50 S fun bs aa w S => ?_
  have hl := locked_any r.1 w
  rw [hq] at hl
  refine sy_call1 S (toBelow hl) (by kernel_rfl) fun aa w hb S => ?_
  refine sy_run ⟨0, []⟩ 50 S fun bs aa w S => ?_
  refine sy_call1 S (toBelow (who_any r.1 w)) (by kernel_rfl) fun aa w hb S => ?_
  refine sy_run ⟨0, []⟩ 50 S fun bs aa w S => ?_
  exact sy_ret S (by kernel_rfl) (by kernel_rfl) fun hg => ⟨rfl, S.run, hg⟩
set_option maxHeartbeats 4000000 in
theorem lk_f (hr : ¬ r.1 = wrap64 (2 * v)) (hq : decide (r.1 % 2 = 1) = false) (h0 : RunAt w g (r :: l)) : Calls Tryz.prog 64 #[.pointer (some ⟨g, 0, none⟩), .int .i64 p, .int .i64 v] w fun e w' => e = .returned (OutD.v { val := -1 }) ∧ RunAt w' g l ∧ w.grownBy w' (some g) := by
  refine sy_enterF (some g) [rfRun g (r :: l)] (by intro f hf; simp at hf; subst hf; exact h0) Tryz.func64 rfl fun aa S => ?_
  refine sy_run ⟨0, []⟩ 50 S fun bs aa w S => ?_
  refine sy_acc S (Or.inl rfl) (load_some w g r l p S.run) (by kernel_rfl) (by simp) fun aa w S => ?_
  refine sy_run ⟨0, [2]⟩ 60 S fun bs aa w S => ?_
  refine sy_reg S fun S => ?_
  refine sy_ops 2 S fun bs aa w S => ?_
  refine sy_call1 S (toBelow (free_any v w)) (by kernel_rfl) fun aa w hb S => ?_
  refine sy_ops 2 S fun bs aa w S => ?_
  refine sy_cond false S (decide_eq_false hr : decide (r.1 = wrap64 (2 * v)) = false) (by kernel_rfl) fun S => ?_
  refine sy_run ⟨0, []⟩ 50 S fun bs aa w S => ?_
  have hl := locked_any r.1 w
  rw [hq] at hl
  refine sy_call1 S (toBelow hl) (by kernel_rfl) fun aa w hb S => ?_
  refine sy_run ⟨0, []⟩ 50 S fun bs aa w S => ?_
  exact sy_ret S (by kernel_rfl) (by kernel_rfl) fun hg => ⟨rfl, S.run, hg⟩
end
end
end Go.Proofs.YtfahnmpcclhjlaaGreat

namespace Go.Proofs.YtfahnmpcclhjlaaGreat
open Go Go.RowKit SZ
set_option linter.unusedVariables false
set_option linter.unusedSectionVars false
set_option linter.unusedSimpArgs false
set_option maxRecDepth 100000
theorem keepsS_fuel (R : Rd) (s : Int × Int × Int) : ∀ (n m : Nat) (x : CSt), x.1.length < n → x.1.length < m → keepsS R s n x = keepsS R s m x
  | 0, _, x, h, _ => by omega
  | n + 1, 0, x, _, h => by omega
  | n + 1, m + 1, (l, some q), _, _ => rfl
  | n + 1, m + 1, ([], none), _, _ => rfl
  | n + 1, m + 1, (r :: l, none), h, k => by
    rw [keepsS_cons, keepsS_cons]
    have hr := (askS_rest R (lookX r.1 s.2.1) (l, none)).2
    simp only [List.length_cons] at h k hr
    rw [keepsS_fuel R s n m _ (by omega) (by omega)]
section
variable {P : Program} {w0 : World} {r : List Nat} {bs : List Nat} {F : List RF} {a : Act} {w : World}
def plainK : List It → Bool
  | [] => true
  | .code _ :: k => plainK k
  | _ => false
theorem post_exitP {Q : Exit → Act → World → Prop} {i : Nat} : ∀ k : List It, plainK k = true → post P k Q (.exit i) a w = Q (.exit i) a w
  | [], _ => rfl
  | .code c :: k, h => post_exitP k h
  | .blk j :: k, h => by cases h
  | .ops _ _ :: k, h => by cases h
  | .rnd _ _ :: k, h => by cases h
def exitC (c : Cfg) : Option (Nat × List It) := match c.k with
  | .code (.exit i) :: k => some (i, k)
  | _ => none
theorem sy_exitQ {c : Cfg} {Q : Exit → Act → World → Prop} {i : Nat} (hg : (exitC c).map (fun q => (q.1, plainK q.2)) = some (i, true)) (h : Q (.exit i) a w) : post P c.k Q .normal a w := by
  obtain ⟨k, s⟩ := c
  unfold exitC at hg
  simp only at hg
  split at hg
  · rename_i j k
    simp only [Option.map_some, Option.some.injEq, Prod.mk.injEq] at hg
    obtain ⟨rfl, hk⟩ := hg
    show (Code.exit _).wp P (post P k Q) a w
    exact wp_exit (by rw [post_exitP k hk]; exact h)
  · cases hg
def scopeC (c : Cfg) : Option (Code × List It) := match c.k with
  | .code (.scope x) :: k => some (x, k)
  | _ => none
theorem sy_scopeJ {c : Cfg} {cd rest : Code} {k : List It} {Q : Exit → Act → World → Prop} (l : Nat) (hk : scopeC c = some (cd, k)) (hf : findLabel cd l = some rest) (J : Act → World → Prop) (μ : Act → World → Nat)
    (first : post P [.code cd] (Exit.jump l J (post P k Q)) .normal a w)
    (pass : ∀ a w, J a w → post P [.code rest] (Exit.jump l (fun a' w' => J a' w' ∧ μ a' w' < μ a w) (post P k Q)) .normal a w) : post P c.k Q .normal a w := by
  obtain ⟨kk, s⟩ := c
  unfold scopeC at hk
  simp only at hk
  split at hk
  · simp only [Option.some.injEq, Prod.mk.injEq] at hk
    obtain ⟨rfl, rfl⟩ := hk
    exact wp_scope_jumps l J μ hf first pass
  · cases hk
end
def goZ : Nat → List Nat → List It → List It
  | n + 1, ch, .code (.seq x y) :: k => goZ n ch (.code x :: .code y :: k)
  | n + 1, ch, .code (.block id c) :: k => goZ n ch (.code c :: .blk id :: k)
  | n + 1, ch, .code (.region _ _ _) :: k => goZ n ch k
  | n + 1, ch, .code .skip :: k => goZ n ch k
  | n + 1, ch, .blk _ :: k => goZ n ch k
  | n + 1, c :: ch, .code (.cond _ x y) :: k => goZ n ch (.code (if c = 1 then x else y) :: k)
  | n + 1, _ :: ch, .code (.loop _) :: k => goZ n ch k
  | _, _, k => k
theorem sy_at2 {P : Program} {k k' : List It} (he : k = k') {Q : Exit → Act → World → Prop} {a : Act} {w : World} (h : post P k' Q .normal a w) : post P k Q .normal a w := by rw [he]; exact h
end Go.Proofs.YtfahnmpcclhjlaaGreat

namespace Go.Proofs.YtfahnmpcclhjlaaGreat
open Go Go.RowKit SZ
set_option linter.unusedVariables false
set_option linter.unusedSectionVars false
set_option linter.unusedSimpArgs false
set_option maxRecDepth 100000
def findSc : Code → Option Code
  | .seq a b => (findSc a).orElse fun _ => findSc b
  | .block _ c => findSc c
  | .loop c => findSc c
  | .cond _ a b => (findSc a).orElse fun _ => findSc b
  | .scope c => some c
  | _ => none
noncomputable def exSc : Code := (findSc (bodyOf Tryz.f45)).getD .skip
noncomputable def exRest : Code := (findLabel exSc 0).getD .skip
def sndC : Code → Code
  | .seq _ b => b
  | c => c
noncomputable def exX : Code := sndC exRest
def outL (o : OutD) : List Value := [.int .i64 o.val, .int .i64 o.ver, .int .i64 o.rv, .int .i64 o.st, .bool o.ok, .bool o.lost, .int .i64 o.err]
noncomputable def exK : List It := goZ 2 [] [.code exX]
noncomputable def exF (g : Nat) (R : Rd) (q0 : Oq) (clk : Int) (sh : Bool) (now : Int) (s : Int × Int × Int) (j : Nat) (fd : OutD) : SS := ⟨59, [(0, .p 0 0), (2, .v (.int .i64 now)), (4, .p 1 0), (5, .p 2 0), (20, .v (.slice q0.sa q0.sl q0.sc)), (21, .v (.int .i64 (q0.sl : Int))), (22, .v (.int .i64 (j : Int)))], [⟨62, rdC g R q0 clk sh⟩, ⟨56, [.int .i64 s.1, .int .i64 s.2.1, .int .i64 s.2.2]⟩, ⟨42, outL fd⟩]⟩
section
variable {QQ : Exit → Act → World → Prop} {aa : Act} {w : World} (h : post Tryz.prog [.code exX] QQ .normal aa w)
include QQ aa w h
theorem post_exRest : post Tryz.prog [.code exRest] QQ .normal aa w := by
  have e : exRest = .seq .skip exX := by kernel_rfl
  show exRest.wp Tryz.prog _ aa w
  rw [e]
  exact wp_seq (wp_skip h)
theorem post_exSc : post Tryz.prog [.code exSc] QQ .normal aa w := by
  have e : exSc = .seq (.label 0) exX := by kernel_rfl
  show exSc.wp Tryz.prog _ aa w
  rw [e]
  exact wp_seq (wp_label h)
end
noncomputable def exS (g : Nat) (R : Rd) (q0 : Oq) (clk : Int) (sh : Bool) (now : Int) (s : Int × Int × Int) (j : Nat) : SS := ⟨59, [(0, .p 0 0), (2, .v (.int .i64 now)), (4, .p 1 0), (20, .v (.slice q0.sa q0.sl q0.sc)), (21, .v (.int .i64 (q0.sl : Int))), (22, .v (.int .i64 (j : Int)))], [⟨62, rdC g R q0 clk sh⟩, ⟨56, [.int .i64 s.1, .int .i64 s.2.1, .int .i64 s.2.2]⟩]⟩
theorem sy_panicR [DF] {P : Program} {w0 : World} {r bs : List Nat} {F : List RF} {a : Act} {w : World} {c : Cfg} (S : Sy w0 r bs c.s F a w) {f : FuncId} {args : Array Value} {ch : List PanicEntry} {C : World → Prop} {Q : Exit → Act → World → Prop} {G : List Nat}
    (hC : Calls P f args w fun e w' => e = .panicked ch ∧ Gr w w' G ∧ C w') (hh : (headC P c).map (fun q => (q.1, q.2.map (den bs))) = some (f, args.toList)) (h : ∀ w', Gr w w' G → C w' → Q (.panic ch) a w') : post P c.k Q .normal a w := by
  obtain ⟨k, s⟩ := c
  match k with
  | .ops all (o :: l) :: k =>
    obtain ⟨h1, h2⟩ := call_op S hh
    show wpList P all (post P k _) (o :: l) a w
    refine wpList_step fun K hK => ?_
    rw [if_pos h1]
    unfold Oper.wp
    rw [h2, Oper.upon_enter]
    refine Calls.mono hC ?_
    rintro e w' ⟨rfl, hb, hc⟩
    show post P k _ (.panic ch) a w'
    rw [post_panic]
    exact h w' hb hc
  | [] => simp [headC] at hh
  | .code _ :: _ => simp [headC] at hh
  | .blk _ :: _ => simp [headC] at hh
  | .rnd _ _ :: _ => simp [headC] at hh
  | .ops _ [] :: _ => simp [headC] at hh
attribute [local irreducible] post GD Nxt NxtAll
section
variable (w0 : World) (g h : Nat) (R : Rd) (hok : R.L.ok) (q0 : Oq) (clk : Int) (sh : Bool) (hgh : g < h) (hh : w0.heap[h]? = some (.cells (rdC g R q0 clk sh).toArray 62 (0, 0))) (now : Int) (s : Int × Int × Int) (j b o : Nat) (hsg : ¬ (SZ.rfSeen b o R.Q).bl g) {QQ : Exit → Act → World → Prop}
include w0 g h R hok q0 clk sh hgh hh now s j b o hsg QQ
set_option maxHeartbeats 8000000 in
theorem xp_nil [PInv QQ] (hp : ∀ aa w', aa.defers = [] → w0.grownBy w' (some g) → QQ (.panic [{ v := .iface 78 (Ask.v ⟨1, atWord R.L s.1, 0, 0⟩), recovered := false }]) aa w') (b1 : Nat) (aa : Act) (w : World) (S : Sy w0 [g, h] [h, b1] (exS g R q0 clk sh now s j) [rfRun g ([]), SZ.rfSeen b o R.Q] aa w) : post Tryz.prog [.code exX] QQ .normal aa w := by
  refine sy_run (c := ⟨[.code exX], exS g R q0 clk sh now s j⟩) ⟨0, []⟩ 60 S fun bs aa w S => ?_
  refine dr_enter [0, 1] (by kernel_rfl) (by kernel_rfl) S (by kernel_rfl) fun aa w D => ?_
  refine dr_any [10, 14] (by kernel_rfl) (by kernel_rfl) rfl (na2 ?_ ?_)
  · refine nx_call1 10 D (by kernel_rfl) (word_any R.L s.1 w hok) (by kernel_rfl) fun aa w D => ?_
    refine dr_any [13, 14] (by kernel_rfl) (by kernel_rfl) rfl (na2 ?_ ?_)
    · exact nx_pan (G := [g]) 13 D ((lk_0 w g (atWord R.L s.1) s.2.1 (D.S.fact (f := rfRun g []) (by simp))).mono fun e w' h => ⟨h.1, gr_gb' h.2⟩) (by kernel_rfl) fun w' hg => hp _ _ D.S.df (gr_pan hgh D.S.gr hg ((D.S.bx 0 ⟨62, rdC g R q0 clk sh⟩ (by kernel_rfl)).trans hh.symm) hh)
    · refine nx_op 14 D (by kernel_rfl) (Nat.le_refl _) (by kernel_rfl) (by kernel_rfl) fun bs aa w D hl => ?_
      refine dr_any [13] (by kernel_rfl) (by kernel_rfl) rfl (na1 ?_)
      · exact nx_pan (G := [g]) 13 D ((lk_0 w g (atWord R.L s.1) s.2.1 (D.S.fact (f := rfRun g []) (by simp))).mono fun e w' h => ⟨h.1, gr_gb' h.2⟩) (by kernel_rfl) fun w' hg => hp _ _ D.S.df (gr_pan hgh D.S.gr hg ((D.S.bx 0 ⟨62, rdC g R q0 clk sh⟩ (by kernel_rfl)).trans hh.symm) hh)
  · refine nx_op 14 D (by kernel_rfl) (Nat.le_refl _) (by kernel_rfl) (by kernel_rfl) fun bs aa w D hl => ?_
    refine dr_any [10] (by kernel_rfl) (by kernel_rfl) rfl (na1 ?_)
    · refine nx_call1 10 D (by kernel_rfl) (word_any R.L s.1 w hok) (by kernel_rfl) fun aa w D => ?_
      refine dr_any [13] (by kernel_rfl) (by kernel_rfl) rfl (na1 ?_)
      · exact nx_pan (G := [g]) 13 D ((lk_0 w g (atWord R.L s.1) s.2.1 (D.S.fact (f := rfRun g []) (by simp))).mono fun e w' h => ⟨h.1, gr_gb' h.2⟩) (by kernel_rfl) fun w' hg => hp _ _ D.S.df (gr_pan hgh D.S.gr hg ((D.S.bx 0 ⟨62, rdC g R q0 clk sh⟩ (by kernel_rfl)).trans hh.symm) hh)
set_option maxHeartbeats 8000000 in
theorem xp_rd [PInv QQ] (l l' : List (Int × Bool)) (fd : OutD) (hC : ∀ w, RunAt w g l → Calls Tryz.prog 64 #[.pointer (some ⟨g, 0, none⟩), .int .i64 (atWord R.L s.1), .int .i64 s.2.1] w fun e w' => e = .returned fd.v ∧ RunAt w' g l' ∧ w.grownBy w' (some g)) (hk : ∀ (b1 F0 : Nat) (aa : Act) (w : World), Sy w0 [g, h] [h, b1, F0] (exF g R q0 clk sh now s j fd) [rfRun g l', SZ.rfSeen b o R.Q] aa w → post Tryz.prog exK QQ .normal aa w) (b1 : Nat) (aa : Act) (w : World) (S : Sy w0 [g, h] [h, b1] (exS g R q0 clk sh now s j) [rfRun g (l), SZ.rfSeen b o R.Q] aa w) : post Tryz.prog [.code exX] QQ .normal aa w := by
  refine sy_run (c := ⟨[.code exX], exS g R q0 clk sh now s j⟩) ⟨0, []⟩ 60 S fun bs aa w S => ?_
  refine dr_enter [0, 1] (by kernel_rfl) (by kernel_rfl) S (by kernel_rfl) fun aa w D => ?_
  refine dr_any [10, 14] (by kernel_rfl) (by kernel_rfl) rfl (na2 ?_ ?_)
  · refine nx_call1 10 D (by kernel_rfl) (word_any R.L s.1 w hok) (by kernel_rfl) fun aa w D => ?_
    refine dr_any [13, 14] (by kernel_rfl) (by kernel_rfl) rfl (na2 ?_ ?_)
    · refine nx_acc (l' := l') 13 D (Or.inl (by simp)) (by kernel_rfl) (hC w (D.S.fact (f := rfRun g l) (by simp))) (by kernel_rfl) (by intro f hf; simp at hf; subst hf; exact hsg) fun aa w D => ?_
      refine dr_any [14] (by kernel_rfl) (by kernel_rfl) rfl (na1 ?_)
      · refine nx_op 14 D (by kernel_rfl) (Nat.le_refl _) (by kernel_rfl) (by kernel_rfl) fun bs aa w D hl => ?_
        refine dr_any [15] (by kernel_rfl) (by kernel_rfl) rfl (na1 ?_)
        · refine nx_op 15 D (by kernel_rfl) hl (by kernel_rfl) (by kernel_rfl) fun bs aa w D hl => ?_
          refine dr_end D (by kernel_rfl) fun S => ?_
          have S' := S.to [0, 1, 2] (exF g R q0 clk sh now s j fd) (by kernel_rfl) (by kernel_rfl) (by kernel_rfl) (by kernel_rfl) (by kernel_rfl)
          refine sy_at2 (k' := exK) (by kernel_rfl) ?_
          exact hk _ _ _ _ S'
    · refine nx_op 14 D (by kernel_rfl) (Nat.le_refl _) (by kernel_rfl) (by kernel_rfl) fun bs aa w D hl => ?_
      refine dr_any [13] (by kernel_rfl) (by kernel_rfl) rfl (na1 ?_)
      · refine nx_acc (l' := l') 13 D (Or.inl (by simp)) (by kernel_rfl) (hC w (D.S.fact (f := rfRun g l) (by simp))) (by kernel_rfl) (by intro f hf; simp at hf; subst hf; exact hsg) fun aa w D => ?_
        refine dr_any [15] (by kernel_rfl) (by kernel_rfl) rfl (na1 ?_)
        · refine nx_op 15 D (by kernel_rfl) hl (by kernel_rfl) (by kernel_rfl) fun bs aa w D hl => ?_
          refine dr_end D (by kernel_rfl) fun S => ?_
          have S' := S.to [0, 1, 2] (exF g R q0 clk sh now s j fd) (by kernel_rfl) (by kernel_rfl) (by kernel_rfl) (by kernel_rfl) (by kernel_rfl)
          refine sy_at2 (k' := exK) (by kernel_rfl) ?_
          exact hk _ _ _ _ S'
  · refine nx_op 14 D (by kernel_rfl) (Nat.le_refl _) (by kernel_rfl) (by kernel_rfl) fun bs aa w D hl => ?_
    refine dr_any [10] (by kernel_rfl) (by kernel_rfl) rfl (na1 ?_)
    · refine nx_call1 10 D (by kernel_rfl) (word_any R.L s.1 w hok) (by kernel_rfl) fun aa w D => ?_
      refine dr_any [13] (by kernel_rfl) (by kernel_rfl) rfl (na1 ?_)
      · refine nx_acc (l' := l') 13 D (Or.inl (by simp)) (by kernel_rfl) (hC w (D.S.fact (f := rfRun g l) (by simp))) (by kernel_rfl) (by intro f hf; simp at hf; subst hf; exact hsg) fun aa w D => ?_
        refine dr_any [15] (by kernel_rfl) (by kernel_rfl) rfl (na1 ?_)
        · refine nx_op 15 D (by kernel_rfl) hl (by kernel_rfl) (by kernel_rfl) fun bs aa w D hl => ?_
          refine dr_end D (by kernel_rfl) fun S => ?_
          have S' := S.to [0, 1, 2] (exF g R q0 clk sh now s j fd) (by kernel_rfl) (by kernel_rfl) (by kernel_rfl) (by kernel_rfl) (by kernel_rfl)
          refine sy_at2 (k' := exK) (by kernel_rfl) ?_
          exact hk _ _ _ _ S'
set_option maxHeartbeats 8000000 in
theorem xp_hit [PInv QQ] (r : Int × Bool) (l : List (Int × Bool)) (hr : r.1 = wrap64 (2 * s.2.1)) (hx : ∀ (b1 : Nat) (aa : Act) (w : World) (S : Sy w0 [g, h] [h, b1] (exS g R q0 clk sh now s j) [rfRun g (l), SZ.rfSeen b o R.Q] aa w), QQ (.exit 1) aa w) (b1 : Nat) (aa : Act) (w : World) (S : Sy w0 [g, h] [h, b1] (exS g R q0 clk sh now s j) [rfRun g (r :: l), SZ.rfSeen b o R.Q] aa w) : post Tryz.prog [.code exX] QQ .normal aa w := by
  refine xp_rd w0 g h R hok q0 clk sh hgh hh now s j b o hsg _ l { ok := true } (fun w hR => lk_t w g (atWord R.L s.1) s.2.1 r l hr hR) (fun b1 F0 aa w S => ?_) b1 aa w S
  refine sy_run (c := ⟨exK, exF g R q0 clk sh now s j _⟩) ⟨0, []⟩ 60 S fun bs aa w S => ?_
  have S' := S.to [0, 1] (exS g R q0 clk sh now s j) (by kernel_rfl) (by kernel_rfl) (by kernel_rfl) (by kernel_rfl) (by kernel_rfl)
  exact sy_exitQ (by kernel_rfl) (hx _ _ _ S')
set_option maxHeartbeats 8000000 in
theorem xp_free [PInv QQ] (r : Int × Bool) (l : List (Int × Bool)) (hr : ¬ r.1 = wrap64 (2 * s.2.1)) (hq : decide (r.1 % 2 = 1) = false) (hlo : ∀ aa w', aa.defers = [] → RunAt w' g (l) → w0.grownBy w' (some g) → QQ (.panic lostP) aa w') (b1 : Nat) (aa : Act) (w : World) (S : Sy w0 [g, h] [h, b1] (exS g R q0 clk sh now s j) [rfRun g (r :: l), SZ.rfSeen b o R.Q] aa w) : post Tryz.prog [.code exX] QQ .normal aa w := by
  refine xp_rd w0 g h R hok q0 clk sh hgh hh now s j b o hsg _ l { val := -1 } (fun w hR => lk_f w g (atWord R.L s.1) s.2.1 r l hr hq hR) (fun b1 F0 aa w S => ?_) b1 aa w S
  refine sy_run (c := ⟨exK, exF g R q0 clk sh now s j _⟩) ⟨0, []⟩ 60 S fun bs aa w S => ?_
  have e0 := S.bx 0 ⟨62, rdC g R q0 clk sh⟩ (by kernel_rfl)
  exact sy_thr S (by kernel_rfl) (hlo _ _ S.df S.run (gr_drop S.gr (e0.trans hh.symm)))
set_option maxHeartbeats 8000000 in
theorem xp_neg [PInv QQ] (r : Int × Bool) (l : List (Int × Bool)) (hr : ¬ r.1 = wrap64 (2 * s.2.1)) (hq : decide (r.1 % 2 = 1) = true) (hn : ¬ r.1 / 2 ≥ 0) (hlo : ∀ aa w', aa.defers = [] → RunAt w' g (l) → w0.grownBy w' (some g) → QQ (.panic lostP) aa w') (b1 : Nat) (aa : Act) (w : World) (S : Sy w0 [g, h] [h, b1] (exS g R q0 clk sh now s j) [rfRun g (r :: l), SZ.rfSeen b o R.Q] aa w) : post Tryz.prog [.code exX] QQ .normal aa w := by
  refine xp_rd w0 g h R hok q0 clk sh hgh hh now s j b o hsg _ l { val := r.1 / 2 } (fun w hR => lk_h w g (atWord R.L s.1) s.2.1 r l hr hq hR) (fun b1 F0 aa w S => ?_) b1 aa w S
  refine sy_run (c := ⟨exK, exF g R q0 clk sh now s j _⟩) ⟨0, [6]⟩ 60 S fun bs aa w S => ?_
  refine sy_reg S fun S => ?_
  refine sy_ops 3 S fun bs aa w S => ?_
  refine sy_cast 44 S (congrArg Value.bool (decide_eq_false hn : decide (r.1 / 2 ≥ 0) = false)) (by kernel_rfl) fun S => ?_
  refine sy_run ⟨0, []⟩ 60 S fun bs aa w S => ?_
  have e0 := S.bx 0 ⟨62, rdC g R q0 clk sh⟩ (by kernel_rfl)
  exact sy_thr S (by kernel_rfl) (hlo _ _ S.df S.run (gr_drop S.gr (e0.trans hh.symm)))
set_option maxHeartbeats 8000000 in
theorem xp_pend [PInv QQ] (r : Int × Bool) (l : List (Int × Bool)) (hr : ¬ r.1 = wrap64 (2 * s.2.1)) (hq : decide (r.1 % 2 = 1) = true) (q : Ask) (hn : r.1 / 2 ≥ 0) (hC : ∀ w, RunAt w g l → w.heap[h]? = some (.cells (rdC g R q0 clk sh).toArray 62 (0, 0)) → Calls Tryz.prog 44 #[.pointer (some ⟨h, 0, none⟩), .int .i64 (r.1 / 2)] w fun e w' => e = .panicked [{ v := .iface 78 q.v, recovered := false }] ∧ w.grownBy w' (some g)) (hp : ∀ aa w', aa.defers = [] → w0.grownBy w' (some g) → QQ (.panic [{ v := .iface 78 (q.v), recovered := false }]) aa w') (b1 : Nat) (aa : Act) (w : World) (S : Sy w0 [g, h] [h, b1] (exS g R q0 clk sh now s j) [rfRun g (r :: l), SZ.rfSeen b o R.Q] aa w) : post Tryz.prog [.code exX] QQ .normal aa w := by
  refine xp_rd w0 g h R hok q0 clk sh hgh hh now s j b o hsg _ l { val := r.1 / 2 } (fun w hR => lk_h w g (atWord R.L s.1) s.2.1 r l hr hq hR) (fun b1 F0 aa w S => ?_) b1 aa w S
  refine sy_run (c := ⟨exK, exF g R q0 clk sh now s j _⟩) ⟨0, [6]⟩ 60 S fun bs aa w S => ?_
  refine sy_reg S fun S => ?_
  refine sy_ops 3 S fun bs aa w S => ?_
  refine sy_cast 44 S (congrArg Value.bool (decide_eq_true hn : decide (r.1 / 2 ≥ 0) = true)) (by kernel_rfl) fun S => ?_
  refine sy_run ⟨0, []⟩ 60 S fun bs aa w S => ?_
  have e0 := S.bx 0 ⟨62, rdC g R q0 clk sh⟩ (by kernel_rfl)
  exact sy_panicQ (G := [g]) S ((hC w S.run e0).mono fun e w' h => ⟨h.1, gr_gb' h.2⟩) (by kernel_rfl) fun w' hg => hp _ _ S.df (gr_pan hgh S.gr hg (e0.trans hh.symm) hh)
set_option maxHeartbeats 8000000 in
theorem xp_lost [PInv QQ] (r : Int × Bool) (l : List (Int × Bool)) (hr : ¬ r.1 = wrap64 (2 * s.2.1)) (hq : decide (r.1 % 2 = 1) = true) (l' : List (Int × Bool)) (hn : r.1 / 2 ≥ 0) (hC : ∀ w, RunAt w g l → w.heap[h]? = some (.cells (rdC g R q0 clk sh).toArray 62 (0, 0)) → Calls Tryz.prog 44 #[.pointer (some ⟨h, 0, none⟩), .int .i64 (r.1 / 2)] w fun e w' => e = .panicked lostP ∧ RunAt w' g l' ∧ w.grownBy w' (some g)) (hlo : ∀ aa w', aa.defers = [] → RunAt w' g l' → w0.grownBy w' (some g) → QQ (.panic lostP) aa w') (b1 : Nat) (aa : Act) (w : World) (S : Sy w0 [g, h] [h, b1] (exS g R q0 clk sh now s j) [rfRun g (r :: l), SZ.rfSeen b o R.Q] aa w) : post Tryz.prog [.code exX] QQ .normal aa w := by
  refine xp_rd w0 g h R hok q0 clk sh hgh hh now s j b o hsg _ l { val := r.1 / 2 } (fun w hR => lk_h w g (atWord R.L s.1) s.2.1 r l hr hq hR) (fun b1 F0 aa w S => ?_) b1 aa w S
  refine sy_run (c := ⟨exK, exF g R q0 clk sh now s j _⟩) ⟨0, [6]⟩ 60 S fun bs aa w S => ?_
  refine sy_reg S fun S => ?_
  refine sy_ops 3 S fun bs aa w S => ?_
  refine sy_cast 44 S (congrArg Value.bool (decide_eq_true hn : decide (r.1 / 2 ≥ 0) = true)) (by kernel_rfl) fun S => ?_
  refine sy_run ⟨0, []⟩ 60 S fun bs aa w S => ?_
  have e0 := S.bx 0 ⟨62, rdC g R q0 clk sh⟩ (by kernel_rfl)
  exact sy_panicR S ((hC w S.run e0).mono fun e w' h => ⟨h.1, gr_gb' h.2.2, h.2.1⟩) (by kernel_rfl) fun w' hg hR => hlo _ _ S.df hR (gr_pan hgh S.gr hg (e0.trans hh.symm) hh)
set_option maxHeartbeats 8000000 in
theorem xp_three [PInv QQ] (r : Int × Bool) (l : List (Int × Bool)) (hr : ¬ r.1 = wrap64 (2 * s.2.1)) (hq : decide (r.1 % 2 = 1) = true) (l' : List (Int × Bool)) (v : Int) (hn : r.1 / 2 ≥ 0) (hC : ∀ w, RunAt w g l → w.heap[h]? = some (.cells (rdC g R q0 clk sh).toArray 62 (0, 0)) → Calls Tryz.prog 44 #[.pointer (some ⟨h, 0, none⟩), .int .i64 (r.1 / 2)] w fun e w' => e = .returned (.int .i64 v) ∧ RunAt w' g l' ∧ w.grownBy w' (some g)) (h3 : v = 3) (hlo : ∀ aa w', aa.defers = [] → RunAt w' g (l') → w0.grownBy w' (some g) → QQ (.panic lostP) aa w') (b1 : Nat) (aa : Act) (w : World) (S : Sy w0 [g, h] [h, b1] (exS g R q0 clk sh now s j) [rfRun g (r :: l), SZ.rfSeen b o R.Q] aa w) : post Tryz.prog [.code exX] QQ .normal aa w := by
  refine xp_rd w0 g h R hok q0 clk sh hgh hh now s j b o hsg _ l { val := r.1 / 2 } (fun w hR => lk_h w g (atWord R.L s.1) s.2.1 r l hr hq hR) (fun b1 F0 aa w S => ?_) b1 aa w S
  refine sy_run (c := ⟨exK, exF g R q0 clk sh now s j _⟩) ⟨0, [6]⟩ 60 S fun bs aa w S => ?_
  refine sy_reg S fun S => ?_
  refine sy_ops 3 S fun bs aa w S => ?_
  refine sy_cast 44 S (congrArg Value.bool (decide_eq_true hn : decide (r.1 / 2 ≥ 0) = true)) (by kernel_rfl) fun S => ?_
  refine sy_run ⟨0, []⟩ 60 S fun bs aa w S => ?_
  have e0 := S.bx 0 ⟨62, rdC g R q0 clk sh⟩ (by kernel_rfl)
  refine sy_acc (l' := l') S (Or.inl (by simp)) (hC w S.run e0) (by kernel_rfl) (by intro f hf; simp at hf; subst hf; exact hsg) fun aa w S => ?_
  refine sy_ops 1 S fun bs aa w S => ?_
  refine sy_cast 50 S (congrArg Value.bool (by simp [h3] : (!decide (v = 3)) = false)) (by kernel_rfl) fun S => ?_
  refine sy_run ⟨0, []⟩ 60 S fun bs aa w S => ?_
  have e0 := S.bx 0 ⟨62, rdC g R q0 clk sh⟩ (by kernel_rfl)
  exact sy_thr S (by kernel_rfl) (hlo _ _ S.df S.run (gr_drop S.gr (e0.trans hh.symm)))
set_option maxHeartbeats 8000000 in
theorem xp_go [PInv QQ] (r : Int × Bool) (l : List (Int × Bool)) (hr : ¬ r.1 = wrap64 (2 * s.2.1)) (hq : decide (r.1 % 2 = 1) = true) (l' : List (Int × Bool)) (v : Int) (hn : r.1 / 2 ≥ 0) (hC : ∀ w, RunAt w g l → w.heap[h]? = some (.cells (rdC g R q0 clk sh).toArray 62 (0, 0)) → Calls Tryz.prog 44 #[.pointer (some ⟨h, 0, none⟩), .int .i64 (r.1 / 2)] w fun e w' => e = .returned (.int .i64 v) ∧ RunAt w' g l' ∧ w.grownBy w' (some g)) (h3 : ¬ v = 3) (hx : ∀ (b1 : Nat) (aa : Act) (w : World) (S : Sy w0 [g, h] [h, b1] (exS g R q0 clk sh now s j) [rfRun g (l'), SZ.rfSeen b o R.Q] aa w), QQ (.goto 0) aa w) (b1 : Nat) (aa : Act) (w : World) (S : Sy w0 [g, h] [h, b1] (exS g R q0 clk sh now s j) [rfRun g (r :: l), SZ.rfSeen b o R.Q] aa w) : post Tryz.prog [.code exX] QQ .normal aa w := by
  refine xp_rd w0 g h R hok q0 clk sh hgh hh now s j b o hsg _ l { val := r.1 / 2 } (fun w hR => lk_h w g (atWord R.L s.1) s.2.1 r l hr hq hR) (fun b1 F0 aa w S => ?_) b1 aa w S
  refine sy_run (c := ⟨exK, exF g R q0 clk sh now s j _⟩) ⟨0, [6]⟩ 60 S fun bs aa w S => ?_
  refine sy_reg S fun S => ?_
  refine sy_ops 3 S fun bs aa w S => ?_
  refine sy_cast 44 S (congrArg Value.bool (decide_eq_true hn : decide (r.1 / 2 ≥ 0) = true)) (by kernel_rfl) fun S => ?_
  refine sy_run ⟨0, []⟩ 60 S fun bs aa w S => ?_
  have e0 := S.bx 0 ⟨62, rdC g R q0 clk sh⟩ (by kernel_rfl)
  refine sy_acc (l' := l') S (Or.inl (by simp)) (hC w S.run e0) (by kernel_rfl) (by intro f hf; simp at hf; subst hf; exact hsg) fun aa w S => ?_
  refine sy_ops 1 S fun bs aa w S => ?_
  refine sy_cast 50 S (congrArg Value.bool (by simp [h3] : (!decide (v = 3)) = true)) (by kernel_rfl) fun S => ?_
  refine sy_run ⟨0, []⟩ 60 S fun bs aa w S => ?_
  have S' := S.to [0, 1] (exS g R q0 clk sh now s j) (by kernel_rfl) (by kernel_rfl) (by kernel_rfl) (by kernel_rfl) (by kernel_rfl)
  exact sy_goto (by kernel_rfl) (hx _ _ _ S')
end
end Go.Proofs.YtfahnmpcclhjlaaGreat

namespace Go.Proofs.YtfahnmpcclhjlaaGreat
open Go Go.RowKit SZ
set_option linter.unusedVariables false
set_option linter.unusedSectionVars false
set_option linter.unusedSimpArgs false
set_option maxRecDepth 100000
attribute [local irreducible] post GD Nxt NxtAll
theorem xp_any (w0 : World) (g h : Nat) (R : Rd) (hok : R.L.ok) (q0 : Oq) (clk : Int) (sh : Bool) (hgh : g < h) (hh : w0.heap[h]? = some (.cells (rdC g R q0 clk sh).toArray 62 (0, 0))) (now : Int) (s : Int × Int × Int) (j b o : Nat) (hsg : ¬ (SZ.rfSeen b o R.Q).bl g) {QQ : Exit → Act → World → Prop} [PInv QQ] (l : List (Int × Bool)) (hI : ∀ x ∈ l, I64 x.1) (y : Bool × CSt) (hy : keepsS R s (l.length + 1) (l, none) = y)
    (hp : ∀ (q : Ask) l' v, y = (v, (l', some q)) → ∀ aa w', aa.defers = [] → w0.grownBy w' (some g) → QQ (.panic [{ v := .iface 78 (q.v), recovered := false }]) aa w')
    (hlo : ∀ l', y = (false, (l', none)) → ∀ aa w', aa.defers = [] → RunAt w' g l' → w0.grownBy w' (some g) → QQ (.panic lostP) aa w')
    (hx : ∀ l', (∀ x ∈ l', x ∈ l) → y = (true, (l', none)) → ∀ (b1 : Nat) (aa : Act) (w : World) (S : Sy w0 [g, h] [h, b1] (exS g R q0 clk sh now s j) [rfRun g (l'), SZ.rfSeen b o R.Q] aa w), QQ (.exit 1) aa w)
    (hg : ∀ l', l'.length < l.length → (∀ x ∈ l', x ∈ l) → keepsS R s (l'.length + 1) (l', none) = y → ∀ (b1 : Nat) (aa : Act) (w : World) (S : Sy w0 [g, h] [h, b1] (exS g R q0 clk sh now s j) [rfRun g (l'), SZ.rfSeen b o R.Q] aa w), QQ (.goto 0) aa w)
    (b1 : Nat) (aa : Act) (w : World) (S : Sy w0 [g, h] [h, b1] (exS g R q0 clk sh now s j) [rfRun g (l), SZ.rfSeen b o R.Q] aa w) : post Tryz.prog [.code exX] QQ .normal aa w := by
  rcases l with _ | ⟨r, l⟩
  · exact xp_nil w0 g h R hok q0 clk sh hgh hh now s j b o hsg (hp _ [] false hy.symm) b1 aa w S
  · rw [List.length_cons, keepsS_cons] at hy
    by_cases hr : r.1 = wrap64 (2 * s.2.1)
    · rw [if_pos hr] at hy
      exact xp_hit w0 g h R hok q0 clk sh hgh hh now s j b o hsg r l hr (hx l (fun x hx => List.mem_cons_of_mem _ hx) hy.symm) b1 aa w S
    · rw [if_neg hr] at hy
      by_cases hq : r.1 % 2 = 1
      · have e : lookX r.1 s.2.1 = r.1 / 2 := by unfold lookX; rw [if_neg hr, if_pos hq]
        rw [e] at hy
        by_cases hn : r.1 / 2 ≥ 0
        · rw [if_neg (by omega)] at hy
          have hH : ∀ w, RunAt w g l → w.heap[h]? = some (.cells (rdC g R q0 clk sh).toArray 62 (0, 0)) → Calls Tryz.prog 44 #[.pointer (some ⟨h, 0, none⟩), .int .i64 (r.1 / 2)] w (HdPost (askS R (r.1 / 2) (l, none)) g w) := fun w hR hh' => handle_any w g h R hok q0 clk sh l hgh (r.1 / 2) hR hh' (fun x hx => hI x (List.mem_cons_of_mem _ hx))
          have hrest := askS_rest R (r.1 / 2) (l, none)
          obtain ⟨⟨o', l', oq⟩, hA⟩ : ∃ A, askS R (r.1 / 2) (l, none) = A := ⟨_, rfl⟩
          rw [hA] at hH hy hrest
          simp only at hrest
          cases oq with
          | some q =>
            have hy' : y = (false, (l', some q)) := by
              rw [← hy]
              split
              · rfl
              · exact keepsS_stop R s _ l' q
            exact xp_pend w0 g h R hok q0 clk sh hgh hh now s j b o hsg r l hr (decide_eq_true hq) q hn (fun w hR hh' => hH w hR hh') (hp q l' false hy') b1 aa w S
          | none =>
            cases hlst : o'.lost with
            | true =>
              rw [if_pos (Or.inl hlst)] at hy
              exact xp_lost w0 g h R hok q0 clk sh hgh hh now s j b o hsg r l hr (decide_eq_true hq) l' hn (fun w hR hh' => (hH w hR hh').mono fun e w' h => by simpa only [HdPost, hlst] using h) (hlo l' hy.symm) b1 aa w S
            | false =>
              by_cases h3 : o'.val = 3
              · rw [if_pos (Or.inr h3)] at hy
                exact xp_three w0 g h R hok q0 clk sh hgh hh now s j b o hsg r l hr (decide_eq_true hq) l' o'.val hn (fun w hR hh' => (hH w hR hh').mono fun e w' h => by simpa only [HdPost, hlst] using h) h3 (hlo l' hy.symm) b1 aa w S
              · rw [if_neg (by simp [hlst, h3])] at hy
                have h8 := hrest.2
                refine xp_go w0 g h R hok q0 clk sh hgh hh now s j b o hsg r l hr (decide_eq_true hq) l' o'.val hn (fun w hR hh' => (hH w hR hh').mono fun e w' h => by simpa only [HdPost, hlst] using h) h3 (hg l' (by simp only [List.length_cons]; omega) (fun x hx => List.mem_cons_of_mem _ (hrest.1 x hx)) ?_) b1 aa w S
                rw [← hy]
                exact keepsS_fuel R s _ _ _ (by simp only; omega) (by simp only; omega)
        · rw [if_pos (by omega)] at hy
          exact xp_neg w0 g h R hok q0 clk sh hgh hh now s j b o hsg r l hr (decide_eq_true hq) hn (hlo l hy.symm) b1 aa w S
      · have e : lookX r.1 s.2.1 = -1 := by unfold lookX; rw [if_neg hr, if_neg hq]
        rw [e, if_pos (by decide)] at hy
        exact xp_free w0 g h R hok q0 clk sh hgh hh now s j b o hsg r l hr (decide_eq_false hq) (hlo l hy.symm) b1 aa w S
instance {P : Program} {k : List It} {Q : Exit → Act → World → Prop} [PInv Q] : PInv (post P k Q) := ⟨fun d v c a w hk h => by
  rw [post_panic] at h ⊢
  exact PInv.out (Q := Q) d v c a w hk h⟩
def logLen (g : Nat) (w : World) : Nat := match w.cell? ⟨g, 0, none⟩ with
  | some (.slice _ n _) => n
  | _ => 0
theorem logLen_run {w : World} {g : Nat} {l : List (Int × Bool)} (h : RunAt w g l) : logLen g w = l.length := by
  obtain ⟨a, c, h1, _⟩ := h
  unfold logLen
  rw [h1]
theorem ex_scope (w0 : World) (g h : Nat) (R : Rd) (hok : R.L.ok) (q0 : Oq) (clk : Int) (sh : Bool) (hgh : g < h) (hh : w0.heap[h]? = some (.cells (rdC g R q0 clk sh).toArray 62 (0, 0))) (now : Int) (s : Int × Int × Int) (j b o : Nat) (hsg : ¬ (SZ.rfSeen b o R.Q).bl g) {Q : Exit → Act → World → Prop} [PInv Q] (c : Cfg) (k : List It) (hk : scopeC c = some (exSc, k)) (hf : findLabel exSc 0 = some exRest) (l : List (Int × Bool)) (hI : ∀ x ∈ l, I64 x.1) (y : Bool × CSt) (hy : keepsS R s (l.length + 1) (l, none) = y)
    (hp : ∀ (q : Ask) l' v, y = (v, (l', some q)) → ∀ aa w', aa.defers = [] → w0.grownBy w' (some g) → Q (.panic [{ v := .iface 78 (q.v), recovered := false }]) aa w')
    (hlo : ∀ l', y = (false, (l', none)) → ∀ aa w', aa.defers = [] → RunAt w' g l' → w0.grownBy w' (some g) → Q (.panic lostP) aa w')
    (hx : ∀ l', (∀ x ∈ l', x ∈ l) → y = (true, (l', none)) → ∀ (b1 : Nat) (aa : Act) (w : World) (S : Sy w0 [g, h] [h, b1] (exS g R q0 clk sh now s j) [rfRun g (l'), SZ.rfSeen b o R.Q] aa w), post Tryz.prog k Q (.exit 1) aa w)
    (b1 : Nat) (aa : Act) (w : World) (S : Sy w0 [g, h] [h, b1] (exS g R q0 clk sh now s j) [rfRun g (l), SZ.rfSeen b o R.Q] aa w) : post Tryz.prog c.k Q .normal aa w := by
  have gen : ∀ (l' : List (Int × Bool)), (∀ x ∈ l', x ∈ l) → ∀ (b1 : Nat) (aa : Act) (w : World) (S : Sy w0 [g, h] [h, b1] (exS g R q0 clk sh now s j) [rfRun g (l'), SZ.rfSeen b o R.Q] aa w), RunAt w g l' := fun l' _ b1 aa w S => S.run
  refine sy_scopeJ 0 hk hf (fun aa w => ∃ l' b1, (∀ x ∈ l', x ∈ l) ∧ keepsS R s (l'.length + 1) (l', none) = y ∧ Sy w0 [g, h] [h, b1] (exS g R q0 clk sh now s j) [rfRun g l', SZ.rfSeen b o R.Q] aa w) (fun _ w => logLen g w) ?_ ?_
  · refine post_exSc (xp_any w0 g h R hok q0 clk sh hgh hh now s j b o hsg l hI y hy ?_ ?_ ?_ ?_ b1 aa w S)
    · intro q l' v e aa w' hd hg
      show post _ k Q (.panic _) aa w'
      rw [post_panic]
      exact hp q l' v e aa w' hd hg
    · intro l' e aa w' hd hR hg
      show post _ k Q (.panic _) aa w'
      rw [post_panic]
      exact hlo l' e aa w' hd hR hg
    · intro l' hm e b1 aa w S
      exact hx l' hm e b1 aa w S
    · intro l' hlt hm e b1 aa w S
      exact ⟨rfl, l', b1, hm, e, S⟩
  · rintro aa w ⟨l1, b1, hm1, hy1, S⟩
    have hlen := logLen_run S.run
    refine post_exRest (xp_any w0 g h R hok q0 clk sh hgh hh now s j b o hsg l1 (fun x hx => hI x (hm1 x hx)) y hy1 ?_ ?_ ?_ ?_ b1 aa w S)
    · intro q l' v e aa w' hd hg
      show post _ k Q (.panic _) aa w'
      rw [post_panic]
      exact hp q l' v e aa w' hd hg
    · intro l' e aa w' hd hR hg
      show post _ k Q (.panic _) aa w'
      rw [post_panic]
      exact hlo l' e aa w' hd hR hg
    · intro l' hm e b1 aa w S
      exact hx l' (fun x hx => hm1 x (hm x hx)) e b1 aa w S
    · intro l' hlt hm e b2 aa2 w2 S2
      refine ⟨rfl, ⟨l', b2, fun x hx => hm1 x (hm x hx), e, S2⟩, ?_⟩
      show logLen g w2 < logLen g w
      rw [hlen, logLen_run S2.run]
      exact hlt
end Go.Proofs.YtfahnmpcclhjlaaGreat

namespace Go.Proofs.YtfahnmpcclhjlaaGreat
open Go Go.RowKit SZ
set_option linter.unusedVariables false
set_option linter.unusedSectionVars false
set_option linter.unusedSimpArgs false
set_option maxRecDepth 100000
attribute [local irreducible] post GD Nxt NxtAll
def kSc (c : Cfg) : List It := ((scopeC c).map Prod.snd).getD []
theorem scopeC_k {c : Cfg} {x : Code} (h : (scopeC c).map Prod.fst = some x) : scopeC c = some (x, kSc c) := by
  unfold kSc
  cases hs : scopeC c with
  | none => rw [hs] at h; cases h
  | some q =>
    rw [hs] at h
    simp only [Option.map_some, Option.some.injEq] at h
    subst h
    rfl
def kOut (i : Nat) (k : List It) : List It := (unw i k).getD []
theorem sy_out {P : Program} {i : Nat} {k : List It} {Q : Exit → Act → World → Prop} {a : Act} {w : World} (hs : (unw i k).isSome = true) (h : post P (kOut i k) Q .normal a w) : post P k Q (.exit i) a w := by
  obtain ⟨k', e⟩ := Option.isSome_iff_exists.1 hs
  have e2 : kOut i k = k' := by unfold kOut; rw [e]; rfl
  rw [e2] at h
  exact unw_sound k e h
def outK (i : Nat) (c0 : Cfg) (s : SS) : Cfg := ⟨kOut i (kSc c0), s⟩
theorem sy_outK {P : Program} {i : Nat} {c0 : Cfg} {s : SS} {Q : Exit → Act → World → Prop} {a : Act} {w : World} (hs : (unw i (kSc c0)).isSome = true) (h : post P (outK i c0 s).k Q .normal a w) : post P (kSc c0) Q (.exit i) a w := sy_out hs h
noncomputable def xeC : Cfg := ⟨goZ 60 [] [.code (bodyOf Tryz.f45)], ⟨0, [], []⟩⟩
noncomputable def exL (g : Nat) (R : Rd) (q0 : Oq) (clk : Int) (sh : Bool) (now : Int) (j : Nat) : SS := ⟨59, [(0, .p 0 0), (2, .v (.int .i64 now)), (20, .v (.slice q0.sa q0.sl q0.sc)), (21, .v (.int .i64 (q0.sl : Int))), (22, .v (.int .i64 (j : Int)))], [⟨62, rdC g R q0 clk sh⟩]⟩
def restK (R : Rd) (Q : List (Int × Int × Int)) : Bool × CSt → Bool × CSt
  | (false, x) => (false, x)
  | (true, x) => allK R Q x
theorem allK_cons (R : Rd) (s : Int × Int × Int) (Q : List (Int × Int × Int)) (x : CSt) : allK R (s :: Q) x = restK R Q (keepsS R s (x.1.length + 1) x) := by
  conv => lhs; unfold allK
  generalize keepsS R s (x.1.length + 1) x = y
  rcases y with ⟨_ | _, x⟩ <;> rfl
theorem allK_stop (R : Rd) : ∀ (Q : List (Int × Int × Int)) (l : List (Int × Bool)) (q : Ask), (allK R Q (l, some q)).2.2 = some q
  | [], l, q => rfl
  | s :: Q, l, q => by
    unfold allK
    rw [keepsS_stop]
def ExPost (y : Bool × CSt) (now : Int) (g h : Nat) (R : Rd) (q0 : Oq) (sh : Bool) (w : World) (e : Ending) (w' : World) : Prop := match y with
  | (_, (_, some q)) => e = .panicked [{ v := .iface 78 q.v, recovered := false }] ∧ w.grownBy w' (some g)
  | (false, (l', none)) => e = .panicked lostP ∧ RunAt w' g l' ∧ w.grownBy w' (some g)
  | (true, (l', none)) => e = .returned (.tuple #[]) ∧ RunAt w' g l' ∧ w'.heap[h]? = some (.cells (rdC g R q0 now sh).toArray 62 (0, 0)) ∧ Gr w w' [g, h]
section
variable (w0 : World) (g h : Nat) (R : Rd) (hok : R.L.ok) (q0 : Oq) (clk : Int) (sh : Bool) (hgh : g < h) (hh : w0.heap[h]? = some (.cells (rdC g R q0 clk sh).toArray 62 (0, 0))) (b o : Nat) (hsg : ¬ (SZ.rfSeen b o R.Q).bl g) (hQ : R.Q.length = q0.sl) (hsa : q0.sl = 0 ∨ q0.sa = some ⟨b, o, none⟩) (hsl : q0.sl ≤ 1000000) (now : Int)
include w0 g h R hok q0 clk sh hgh hh b o hsg hQ hsa hsl now
set_option maxHeartbeats 8000000 in
theorem xe_end (n : Nat) (l : List (Int × Bool)) (aa : Act) (w : World) (S : Sy w0 [g, h] [h] (exL g R q0 clk sh now q0.sl) [rfRun g (l), SZ.rfSeen b o R.Q] aa w) : post Tryz.prog (.rnd (n + 1) (bodyL xeC) :: xeC.k.tail) (bodyPost Tryz.prog Tryz.f45 (ExPost ((true, (l, none))) now g h R q0 sh w0)) .normal aa w := by
  refine sy_run (c := ⟨(.rnd (n + 1) (bodyL xeC) :: xeC.k.tail), exL g R q0 clk sh now q0.sl⟩) ⟨0, [2]⟩ 50 S fun bs aa w S => ?_
  refine sy_reg S fun S => ?_
  refine sy_ops 1 S fun bs aa w S => ?_
  refine sy_cast 23 S (congrArg Value.bool (by simp : decide ((q0.sl : Int) < (q0.sl : Int)) = false)) (by kernel_rfl) fun S => ?_
  refine sy_run ⟨0, []⟩ 60 S fun bs aa w S => ?_
  have e0 := S.bx 0 ⟨62, rdC g R q0 now sh⟩ (by kernel_rfl)
  exact sy_ret S (by kernel_rfl) (by kernel_rfl) fun hg => ⟨rfl, S.run, e0, hg⟩
set_option maxHeartbeats 8000000 in
theorem xe_step (n j : Nat) (hj : j < q0.sl) (l : List (Int × Bool)) (hI : ∀ x ∈ l, I64 x.1) (y : Bool × CSt) (hy : keepsS R (R.Q.getD j (0, 0, 0)) (l.length + 1) (l, none) = y) (z : Bool × CSt) (hz : restK R (R.Q.drop (j + 1)) y = z) (ih : ∀ l', (∀ x ∈ l', x ∈ l) → y = (true, (l', none)) → ∀ (aa : Act) (w : World) (S : Sy w0 [g, h] [h] (exL g R q0 clk sh now (j + 1)) [rfRun g (l'), SZ.rfSeen b o R.Q] aa w), post Tryz.prog (.rnd (n) (bodyL xeC) :: xeC.k.tail) (bodyPost Tryz.prog Tryz.f45 (ExPost (z) now g h R q0 sh w0)) .normal aa w) (aa : Act) (w : World) (S : Sy w0 [g, h] [h] (exL g R q0 clk sh now j) [rfRun g (l), SZ.rfSeen b o R.Q] aa w) : post Tryz.prog (.rnd (n + 1) (bodyL xeC) :: xeC.k.tail) (bodyPost Tryz.prog Tryz.f45 (ExPost (z) now g h R q0 sh w0)) .normal aa w := by
  refine sy_run (c := ⟨(.rnd (n + 1) (bodyL xeC) :: xeC.k.tail), exL g R q0 clk sh now j⟩) ⟨0, [2]⟩ 50 S fun bs aa w S => ?_
  refine sy_reg S fun S => ?_
  refine sy_ops 1 S fun bs aa w S => ?_
  refine sy_cast 23 S (congrArg Value.bool (by simp; omega : decide ((j : Int) < (q0.sl : Int)) = true)) (by kernel_rfl) fun S => ?_
  refine sy_run ⟨0, [3]⟩ 60 S fun bs aa w S => ?_
  refine sy_reg S fun S => ?_
  refine sy_ix (b := b) (off := o) (len := q0.sl) (n := j) (size := 3) (i := (j : Int)) S (by rw [← hsa.resolve_left (by omega)]; kernel_rfl) rfl hj fun aa S => ?_
  refine sy_run ⟨0, []⟩ 60 S fun bs aa w S => ?_
  refine sy_ldo S (ld_seen (j := j) (S.fact (f := SZ.rfSeen b o R.Q) (by simp)) (by omega)) (by kernel_rfl) fun aa S => ?_
  refine sy_run ⟨0, []⟩ 60 S fun bs aa w S => ?_
  have S' := S.to [0, 1] (exS g R q0 clk sh now (R.Q.getD j (0, 0, 0)) j) (by kernel_rfl) (by kernel_rfl) (by kernel_rfl) (by kernel_rfl) (by kernel_rfl)
  refine ex_scope w0 g h R hok q0 clk sh hgh hh now (R.Q.getD j (0, 0, 0)) j b o hsg _ _ (scopeC_k (by kernel_rfl)) (by kernel_rfl) l hI y hy ?_ ?_ ?_ _ aa w S'
  · intro q l' v e aa w' hd hg
    subst e
    rw [← hz]
    refine ⟨hd, ?_⟩
    cases v with
    | false => exact ⟨rfl, hg⟩
    | true =>
      have e2 : (allK R (R.Q.drop (j + 1)) (l', some q)).2.2 = some q := allK_stop R _ l' q
      show ExPost (allK R (R.Q.drop (j + 1)) (l', some q)) now g h R q0 sh w0 _ w'
      obtain ⟨⟨v2, l2, q2⟩, hA⟩ : ∃ A, allK R (R.Q.drop (j + 1)) (l', some q) = A := ⟨_, rfl⟩
      rw [hA] at e2 ⊢
      simp only at e2
      subst e2
      exact ⟨rfl, hg⟩
  · intro l' e aa w' hd hR hg
    subst e
    rw [← hz]
    exact ⟨hd, rfl, hR, hg⟩
  · intro l' hm e b1 aa w S
    refine sy_outK (s := exS g R q0 clk sh now (R.Q.getD j (0, 0, 0)) j) (by kernel_rfl) ?_
    refine sy_run (c := outK 1 _ (exS g R q0 clk sh now (R.Q.getD j (0, 0, 0)) j)) ⟨0, [8]⟩ 50 S fun bs aa w S => ?_
    refine sy_reg S fun S => ?_
    refine sy_ops 1 S fun bs aa w S => ?_
    refine sy_cast 54 S (congrArg (Value.int .i64) (by rw [IntKind.wrap_i64]; omega : IntKind.i64.wrap ((j : Int) + 1) = ((j + 1 : Nat) : Int))) (by kernel_rfl) fun S => ?_
    refine sy_run ⟨0, [999]⟩ 50 S fun bs aa w S => ?_
    have S2 := S.to [0] (exL g R q0 clk sh now (j + 1)) (by kernel_rfl) (by kernel_rfl) (by kernel_rfl) (by kernel_rfl) (by kernel_rfl)
    refine sy_at (k := (.rnd (n) (bodyL xeC) :: xeC.k.tail)) (by kernel_rfl) ?_
    exact ih l' hm e aa w S2
theorem xe_all : ∀ (r j : Nat), j + r = q0.sl → ∀ (l : List (Int × Bool)) (hI : ∀ x ∈ l, I64 x.1) (aa : Act) (w : World) (S : Sy w0 [g, h] [h] (exL g R q0 clk sh now j) [rfRun g (l), SZ.rfSeen b o R.Q] aa w), post Tryz.prog (.rnd (r + 1) (bodyL xeC) :: xeC.k.tail) (bodyPost Tryz.prog Tryz.f45 (ExPost (allK R (R.Q.drop j) (l, none)) now g h R q0 sh w0)) .normal aa w := by
  intro r
  induction r with
  | zero =>
    intro j hj l hI aa w S
    obtain rfl : j = q0.sl := by omega
    rw [List.drop_of_length_le (by omega)]
    exact xe_end w0 g h R hok q0 clk sh hgh hh b o hsg hQ hsa hsl now 0 l aa w S
  | succ r ih =>
    intro j hj l hI aa w S
    rw [drop_at (by omega)]
    obtain ⟨y, hy⟩ : ∃ y, keepsS R (R.Q.getD j (0, 0, 0)) (l.length + 1) (l, none) = y := ⟨_, rfl⟩
    refine xe_step w0 g h R hok q0 clk sh hgh hh b o hsg hQ hsa hsl now (r + 1) j (by omega) l hI y hy _ ?_ (fun l' hm e aa w S => ?_) aa w S
    · rw [allK_cons, hy]
    · rw [allK_cons, hy, e]
      exact ih (j + 1) (by omega) l' (fun x hx => hI x (hm x hx)) aa w S
end
end Go.Proofs.YtfahnmpcclhjlaaGreat

namespace Go.Proofs.YtfahnmpcclhjlaaGreat
open Go Go.RowKit SZ
set_option linter.unusedVariables false
set_option linter.unusedSectionVars false
set_option linter.unusedSimpArgs false
set_option maxRecDepth 100000
attribute [local irreducible] post GD Nxt NxtAll
section
variable (w0 : World) (g h : Nat) (R : Rd) (hok : R.L.ok) (q0 : Oq) (clk : Int) (sh : Bool) (hgh : g < h) (hh : w0.heap[h]? = some (.cells (rdC g R q0 clk sh).toArray 62 (0, 0))) (b o : Nat) (hsg : ¬ (SZ.rfSeen b o R.Q).bl g) (hQ : R.Q.length = q0.sl) (hsa : q0.sl = 0 ∨ q0.sa = some ⟨b, o, none⟩) (hsl : q0.sl ≤ 1000000) (hsh : ¬ (SZ.rfSeen b o R.Q).bl h) (hA : SeenAt w0 b o R.Q)
include w0 g h R hok q0 clk sh hgh hh b o hsg hQ hsa hsl hsh hA
set_option maxHeartbeats 8000000 in
theorem ext_nil (hR : RunAt w0 g []) : Calls Tryz.prog 45 #[.pointer (some ⟨h, 0, none⟩)] w0 fun e w' => e = .panicked [{ v := .iface 78 (Ask.v ⟨1, R.L.clock, 0, 0⟩), recovered := false }] ∧ w0.grownBy w' (some g) := by
  refine sy_enter1 g h ⟨62, rdC g R q0 clk sh⟩ [.p 0 0] [rfRun g ([]), SZ.rfSeen b o R.Q] hh ?_ ?_ Tryz.func45 rfl rfl fun aa S => ?_
  · intro x hx
    simp only [List.mem_cons, List.not_mem_nil, or_false] at hx
    subst hx
    exact Nat.succ_pos _
  · intro f hf
    simp only [List.mem_cons, List.not_mem_nil, or_false] at hf
    rcases hf with rfl | rfl
    · exact ⟨hR, fun hb => absurd (show h ≤ g from hb) (by omega)⟩
    · exact ⟨hA, hsh⟩
  refine sy_run ⟨0, []⟩ 60 S fun bs aa w S => ?_
  refine dr_enter [0] (by kernel_rfl) (by kernel_rfl) S (by kernel_rfl) fun aa w D => ?_
  refine dr_any [9] (by kernel_rfl) (by kernel_rfl) rfl (na1 ?_)
  · exact nx_pan (G := [g]) 9 D ((load_none w g R.L.clock (D.S.fact (f := rfRun g []) (by simp))).mono fun e w' h => ⟨h.1, gr_gb' (gb_of_below _ h.2)⟩) (by kernel_rfl) fun w' hg => ⟨D.S.df, rfl, gr_pan hgh D.S.gr hg ((D.S.bx 0 ⟨62, rdC g R q0 clk sh⟩ (by kernel_rfl)).trans hh.symm) hh⟩
set_option maxHeartbeats 8000000 in
theorem ext_cons (r : Int × Bool) (l : List (Int × Bool)) (hI : ∀ x ∈ r :: l, I64 x.1) (hR : RunAt w0 g (r :: l)) : Calls Tryz.prog 45 #[.pointer (some ⟨h, 0, none⟩)] w0 (ExPost (allK R R.Q (l, none)) r.1 g h R q0 sh w0) := by
  refine sy_enter1 g h ⟨62, rdC g R q0 clk sh⟩ [.p 0 0] [rfRun g (r :: l), SZ.rfSeen b o R.Q] hh ?_ ?_ Tryz.func45 rfl rfl fun aa S => ?_
  · intro x hx
    simp only [List.mem_cons, List.not_mem_nil, or_false] at hx
    subst hx
    exact Nat.succ_pos _
  · intro f hf
    simp only [List.mem_cons, List.not_mem_nil, or_false] at hf
    rcases hf with rfl | rfl
    · exact ⟨hR, fun hb => absurd (show h ≤ g from hb) (by omega)⟩
    · exact ⟨hA, hsh⟩
  refine sy_run ⟨0, []⟩ 60 S fun bs aa w S => ?_
  refine dr_enter [0] (by kernel_rfl) (by kernel_rfl) S (by kernel_rfl) fun aa w D => ?_
  refine dr_any [9] (by kernel_rfl) (by kernel_rfl) rfl (na1 ?_)
  · refine nx_acc (l' := l) 9 D (Or.inl (by simp)) (by kernel_rfl) (load_some w g r l R.L.clock (D.S.fact (f := rfRun g (r :: l)) (by simp))) (by kernel_rfl) (by intro f hf; simp at hf; subst hf; exact hsg) fun aa w D => ?_
    refine dr_end D (by kernel_rfl) fun S => ?_
    refine sy_run ⟨0, []⟩ 60 S fun bs aa w S => ?_
    have S' := S.to [0] (exL g R q0 clk sh r.1 0) (by kernel_rfl) (by kernel_rfl) (by kernel_rfl) (by kernel_rfl) (by kernel_rfl)
    refine sy_loop (q0.sl + 1) (by kernel_rfl) ?_
    refine sy_at2 (k' := .rnd (q0.sl + 1) (bodyL xeC) :: xeC.k.tail) (by kernel_rfl) ?_
    exact xe_all w0 g h R hok q0 clk sh hgh hh b o hsg hQ hsa hsl r.1 q0.sl 0 (by omega) l (fun x hx => hI x (List.mem_cons_of_mem _ hx)) aa w S'
end
end Go.Proofs.YtfahnmpcclhjlaaGreat

namespace Go.Proofs.YtfahnmpcclhjlaaGreat
open Go Go.RowKit SX
set_option linter.unusedVariables false
set_option linter.unusedSectionVars false
set_option linter.unusedSimpArgs false
set_option maxRecDepth 100000
attribute [local irreducible] post
section
variable (w : World) (g : Nat) (p c : Int)
include w g p c
set_option maxHeartbeats 8000000 in
theorem lr_0 (h0 : RunAt w g ([])) : Calls Tryz.prog 42 #[.pointer (some ⟨g, 0, none⟩), .int .i64 p, .int .i64 c] w fun e w' => e = .panicked [{ v := .iface 78 (Ask.v ⟨1, p, 0, 0⟩), recovered := false }] ∧ w.grownBy w' (some g) := by
  refine sy_enterF (some g) [rfRun g ([])] (by intro f hf; simp at hf; subst hf; exact h0) Tryz.func42 rfl fun aa S => ?_
  refine sy_run ⟨0, []⟩ 60 S fun bs aa w S => ?_
  exact sy_panic S ((load_none w g p S.run).mono fun e w' h => ⟨h.1, gb_of_below _ h.2⟩) (by kernel_rfl) fun w' hg => ⟨rfl, hg⟩
set_option maxHeartbeats 8000000 in
theorem lr_h (r : Int × Bool) (l : List (Int × Bool)) (hq : r.1 % 2 = 1) (h0 : RunAt w g (r :: l)) : Calls Tryz.prog 42 #[.pointer (some ⟨g, 0, none⟩), .int .i64 p, .int .i64 c] w fun e w' => e = .returned (OutD.v { val := r.1 / 2, ver := -1 }) ∧ RunAt w' g l ∧ w.grownBy w' (some g) := by
  refine sy_enterF (some g) [rfRun g (r :: l)] (by intro f hf; simp at hf; subst hf; exact h0) Tryz.func42 rfl fun aa S => ?_
  refine sy_run ⟨0, []⟩ 60 S fun bs aa w S => ?_
  refine sy_acc S (Or.inl rfl) (load_some w g r l p S.run) (by kernel_rfl) (by simp) fun aa w S => ?_
  refine sy_run ⟨0, []⟩ 60 S fun bs aa w S => ?_
  have hl := locked_any r.1 w
  rw [(decide_eq_true hq : decide (r.1 % 2 = 1) = true)] at hl
  refine sy_call1 S (toBelow hl) (by kernel_rfl) fun aa w hb S => ?_
  refine sy_run ⟨0, []⟩ 60 S fun bs aa w S => ?_
  refine sy_call1 S (toBelow (who_any r.1 w)) (by kernel_rfl) fun aa w hb S => ?_
  refine sy_run ⟨0, []⟩ 60 S fun bs aa w S => ?_
  exact sy_ret S (by kernel_rfl) (by kernel_rfl) fun hg => ⟨rfl, S.run, hg⟩
set_option maxHeartbeats 8000000 in
theorem lr_1 (r : Int × Bool) (hq : ¬ r.1 % 2 = 1) (h0 : RunAt w g ([r])) : Calls Tryz.prog 42 #[.pointer (some ⟨g, 0, none⟩), .int .i64 p, .int .i64 c] w fun e w' => e = .panicked [{ v := .iface 78 (Ask.v ⟨1, c, 0, 0⟩), recovered := false }] ∧ w.grownBy w' (some g) := by
  refine sy_enterF (some g) [rfRun g ([r])] (by intro f hf; simp at hf; subst hf; exact h0) Tryz.func42 rfl fun aa S => ?_
  refine sy_run ⟨0, []⟩ 60 S fun bs aa w S => ?_
  refine sy_acc S (Or.inl rfl) (load_some w g r [] p S.run) (by kernel_rfl) (by simp) fun aa w S => ?_
  refine sy_run ⟨0, []⟩ 60 S fun bs aa w S => ?_
  have hl := locked_any r.1 w
  rw [(decide_eq_false hq : decide (r.1 % 2 = 1) = false)] at hl
  refine sy_call1 S (toBelow hl) (by kernel_rfl) fun aa w hb S => ?_
  refine sy_run ⟨0, []⟩ 60 S fun bs aa w S => ?_
  exact sy_panic S ((load_none w g c S.run).mono fun e w' h => ⟨h.1, gb_of_below _ h.2⟩) (by kernel_rfl) fun w' hg => ⟨rfl, hg⟩
set_option maxHeartbeats 8000000 in
theorem lr_2 (r v : Int × Bool) (hq : ¬ r.1 % 2 = 1) (h0 : RunAt w g ([r, v])) : Calls Tryz.prog 42 #[.pointer (some ⟨g, 0, none⟩), .int .i64 p, .int .i64 c] w fun e w' => e = .panicked [{ v := .iface 78 (Ask.v ⟨1, p, 0, 0⟩), recovered := false }] ∧ w.grownBy w' (some g) := by
  refine sy_enterF (some g) [rfRun g ([r, v])] (by intro f hf; simp at hf; subst hf; exact h0) Tryz.func42 rfl fun aa S => ?_
  refine sy_run ⟨0, []⟩ 60 S fun bs aa w S => ?_
  refine sy_acc S (Or.inl rfl) (load_some w g r [v] p S.run) (by kernel_rfl) (by simp) fun aa w S => ?_
  refine sy_run ⟨0, []⟩ 60 S fun bs aa w S => ?_
  have hl := locked_any r.1 w
  rw [(decide_eq_false hq : decide (r.1 % 2 = 1) = false)] at hl
  refine sy_call1 S (toBelow hl) (by kernel_rfl) fun aa w hb S => ?_
  refine sy_run ⟨0, []⟩ 60 S fun bs aa w S => ?_
  refine sy_acc S (Or.inl rfl) (load_some w g v [] c S.run) (by kernel_rfl) (by simp) fun aa w S => ?_
  refine sy_run ⟨0, []⟩ 60 S fun bs aa w S => ?_
  exact sy_panic S ((load_none w g p S.run).mono fun e w' h => ⟨h.1, gb_of_below _ h.2⟩) (by kernel_rfl) fun w' hg => ⟨rfl, hg⟩
set_option maxHeartbeats 8000000 in
theorem lr_f (r v u : Int × Bool) (l : List (Int × Bool)) (hq : ¬ r.1 % 2 = 1) (hu : ¬ u.1 = r.1) (h0 : RunAt w g (r :: v :: u :: l)) : Calls Tryz.prog 42 #[.pointer (some ⟨g, 0, none⟩), .int .i64 p, .int .i64 c] w fun e w' => e = .returned (OutD.v { val := -1, ver := -1 }) ∧ RunAt w' g l ∧ w.grownBy w' (some g) := by
  refine sy_enterF (some g) [rfRun g (r :: v :: u :: l)] (by intro f hf; simp at hf; subst hf; exact h0) Tryz.func42 rfl fun aa S => ?_
  refine sy_run ⟨0, []⟩ 60 S fun bs aa w S => ?_
  refine sy_acc S (Or.inl rfl) (load_some w g r (v :: u :: l) p S.run) (by kernel_rfl) (by simp) fun aa w S => ?_
  refine sy_run ⟨0, []⟩ 60 S fun bs aa w S => ?_
  have hl := locked_any r.1 w
  rw [(decide_eq_false hq : decide (r.1 % 2 = 1) = false)] at hl
  refine sy_call1 S (toBelow hl) (by kernel_rfl) fun aa w hb S => ?_
  refine sy_run ⟨0, []⟩ 60 S fun bs aa w S => ?_
  refine sy_acc S (Or.inl rfl) (load_some w g v (u :: l) c S.run) (by kernel_rfl) (by simp) fun aa w S => ?_
  refine sy_run ⟨0, []⟩ 60 S fun bs aa w S => ?_
  refine sy_acc S (Or.inl rfl) (load_some w g u l p S.run) (by kernel_rfl) (by simp) fun aa w S => ?_
  refine sy_ops 2 S fun bs aa w S => ?_
  refine sy_cast 24 S (congrArg Value.bool (by simp [hu] : (!decide (u.1 = r.1)) = true)) (by kernel_rfl) fun S => ?_
  refine sy_run ⟨0, []⟩ 60 S fun bs aa w S => ?_
  exact sy_ret S (by kernel_rfl) (by kernel_rfl) fun hg => ⟨rfl, S.run, hg⟩
set_option maxHeartbeats 8000000 in
theorem lr_t (r v u : Int × Bool) (l : List (Int × Bool)) (hq : ¬ r.1 % 2 = 1) (hu : u.1 = r.1) (h0 : RunAt w g (r :: v :: u :: l)) : Calls Tryz.prog 42 #[.pointer (some ⟨g, 0, none⟩), .int .i64 p, .int .i64 c] w fun e w' => e = .returned (OutD.v { val := v.1, ver := r.1 / 2, ok := true }) ∧ RunAt w' g l ∧ w.grownBy w' (some g) := by
  refine sy_enterF (some g) [rfRun g (r :: v :: u :: l)] (by intro f hf; simp at hf; subst hf; exact h0) Tryz.func42 rfl fun aa S => ?_
  refine sy_run ⟨0, []⟩ 60 S fun bs aa w S => ?_
  refine sy_acc S (Or.inl rfl) (load_some w g r (v :: u :: l) p S.run) (by kernel_rfl) (by simp) fun aa w S => ?_
  refine sy_run ⟨0, []⟩ 60 S fun bs aa w S => ?_
  have hl := locked_any r.1 w
  rw [(decide_eq_false hq : decide (r.1 % 2 = 1) = false)] at hl
  refine sy_call1 S (toBelow hl) (by kernel_rfl) fun aa w hb S => ?_
  refine sy_run ⟨0, []⟩ 60 S fun bs aa w S => ?_
  refine sy_acc S (Or.inl rfl) (load_some w g v (u :: l) c S.run) (by kernel_rfl) (by simp) fun aa w S => ?_
  refine sy_run ⟨0, []⟩ 60 S fun bs aa w S => ?_
  refine sy_acc S (Or.inl rfl) (load_some w g u l p S.run) (by kernel_rfl) (by simp) fun aa w S => ?_
  refine sy_ops 2 S fun bs aa w S => ?_
  refine sy_cast 24 S (congrArg Value.bool (by simp [hu] : (!decide (u.1 = r.1)) = false)) (by kernel_rfl) fun S => ?_
  refine sy_run ⟨0, []⟩ 60 S fun bs aa w S => ?_
  refine sy_call1 S (toBelow (ver_any r.1 w)) (by kernel_rfl) fun aa w hb S => ?_
  refine sy_run ⟨0, []⟩ 60 S fun bs aa w S => ?_
  exact sy_ret S (by kernel_rfl) (by kernel_rfl) fun hg => ⟨rfl, S.run, hg⟩
end
end Go.Proofs.YtfahnmpcclhjlaaGreat

namespace Go.Proofs.YtfahnmpcclhjlaaGreat
open Go Go.RowKit SZ
set_option linter.unusedVariables false
set_option linter.unusedSectionVars false
set_option linter.unusedSimpArgs false
set_option maxRecDepth 100000
theorem sy_callX [DF] {P : Program} {w0 : World} {r bs : List Nat} {F : List RF} {a : Act} {w : World} {X : Type} {c : Cfg} (S : Sy w0 r bs c.s F a w) (i : Nat) (k : Bx) (k' : X → Bx) (G : List Nat) (hk : c.s.K[i]? = some k) (hG : ∀ g ∈ G, g ∈ r ∨ w0.heap.size ≤ g) {v : X → Value} {C : X → World → Prop} {f : FuncId} {args : Array Value} {Q : Exit → Act → World → Prop}
    (hC : Calls P f args w fun e w' => ∃ x, e = .returned (v x) ∧ C x w' ∧ w'.heap[bs.getD i 0]? = some (.cells (k' x).cs.toArray (k' x).ty (0, 0)) ∧ Gr w w' (bs.getD i 0 :: G))
    (hh : (headC P c).map (fun q => (q.1, q.2.map (den bs))) = some (f, args.toList)) (F' : List RF) (hF : ∀ f ∈ F', f ∈ F ∧ ∀ g ∈ G, ¬f.bl g) (hn : ∀ j, j < bs.length → bs.getD j 0 ∉ G)
    (h : ∀ x a' w', C x w' → Sy w0 r bs (aftH c i (k' x) (.v (v x))).s F' a' w' → post P (aftH c i (k' x) (.v (v x))).k Q .normal a' w') : post P c.k Q .normal a w := by
  obtain ⟨kk, s⟩ := c
  match kk with
  | .ops all (o :: l) :: kk =>
    obtain ⟨h1, h2⟩ := call_op S hh
    show wpList P all (post P kk Q) (o :: l) a w
    refine wpList_step fun K hK => ?_
    rw [if_pos h1]
    unfold Oper.wp
    rw [h2, Oper.upon_enter]
    refine Calls.mono hC ?_
    rintro e w' ⟨x, rfl, hx, hb, hg⟩
    have hi : i < bs.length := by rw [S.bl]; exact (List.getElem?_eq_some_iff.1 hk).1
    have S1 : Sy w0 r bs (s.setK i (k' x)) F' a w' := by
      refine ⟨S.df, S.sz, S.tm, by simp [SS.setK, S.bl], fun j q hq => ?_, S.nd, S.lo, fun f hf => ?_, ?_⟩
      · have hq' : (s.K.set i (k' x))[j]? = some q := hq
        by_cases hj : i = j
        · subst hj
          rw [List.getElem?_set_self (by rw [← S.bl]; exact hi)] at hq'
          simp only [Option.some.injEq] at hq'
          subst hq'
          exact hb
        · rw [List.getElem?_set_ne hj] at hq'
          have hjl : j < bs.length := by rw [S.bl]; exact (List.getElem?_eq_some_iff.1 hq').1
          rw [hg.block _ (S.lt hjl) (by
            intro hm
            rcases List.mem_cons.1 hm with e | hm
            · exact hj (S.nd j i hjl hi e).symm
            · exact hn j hjl hm)]
          exact S.bx j q hq'
      · obtain ⟨h3, h4⟩ := hF f hf
        obtain ⟨h5, h6⟩ := S.fs f h3
        exact ⟨f.st w w' h5 fun b hbl => hg.block b (f.lt w h5 b hbl) (by
          intro hm
          rcases List.mem_cons.1 hm with e | hm
          · exact h6 i hi (e ▸ hbl)
          · exact h4 b hm hbl), h6⟩
      · have G0 := S.gr
        refine ⟨hg.os.trans G0.os, hg.tape.trans G0.tape, hg.output.trans G0.output, Nat.le_trans G0.size hg.size, fun b hb' hne => (hg.block b (Nat.lt_of_lt_of_le hb' G0.size) ?_).trans (G0.block b hb' hne)⟩
        intro hm
        rcases List.mem_cons.1 hm with e | hm
        · rcases S.lo i hi with hl | hl
          · omega
          · exact hne (e ▸ hl)
        · rcases hG b hm with hr | hr
          · exact hne hr
          · omega
    exact hK _ _ (h x _ w' hx (S1.put o.dst (x := .v (v x)) trivial))
  | [] => simp [headC] at hh
  | .code _ :: _ => simp [headC] at hh
  | .blk _ :: _ => simp [headC] at hh
  | .rnd _ _ :: _ => simp [headC] at hh
  | .ops _ [] :: _ => simp [headC] at hh
section
variable [D : DF] {P : Program} {w0 : World} {r bs : List Nat} {s : SS} {F : List RF} {a : Act} {w : World}
def headF (c : Cfg) : Option (FuncId × List (Nat × Nat)) :=
  match c with
  | ⟨.ops all (o :: l) :: k, s⟩ => match wantS s all o, o.op with
    | some true, .defer ca => match ca.callee with
      | .value x => match s.val x, ca.args.toList with
        | some (.f f caps), [] => some (f, caps)
        | _, _ => none
      | _ => none
    | _, _ => none
  | _ => none
theorem df_op {c : Cfg} {all : Array Oper} {o : Oper} {l : List Oper} {k : List It} (S : Sy w0 r bs s F a w) {f : FuncId} {caps : List (Nat × Nat)} (hh : headF ⟨.ops all (o :: l) :: k, s⟩ = some (f, caps)) :
    Region.wanted o (yielded all a.tmps) = true ∧ (execOp a.eval o).run P w = .ok (.defer ⟨.fn (.func f) (caps.map fun q => Value.pointer (some (adr bs q.1 q.2))).toArray, #[]⟩) w := by
  unfold headF at hh
  simp only at hh
  cases hw : wantS s all o with
  | none => rw [hw] at hh; simp at hh
  | some b' =>
    rw [hw] at hh
    cases b' with
    | false => simp at hh
    | true =>
      refine ⟨wantS_sound S hw, ?_⟩
      cases ho : o.op <;> rw [ho] at hh <;> simp only [reduceCtorEq] at hh
      case defer ca =>
        cases hc : ca.callee <;> rw [hc] at hh <;> simp only [reduceCtorEq] at hh
        case value x =>
          cases hx : s.val x with
          | none => rw [hx] at hh; simp at hh
          | some y =>
            rw [hx] at hh
            cases y with
            | f fn caps' =>
              cases ha : ca.args.toList with
              | cons q qs => rw [ha] at hh; simp at hh
              | nil =>
                rw [ha] at hh
                simp only [Option.some.injEq, Prod.mk.injEq] at hh
                obtain ⟨rfl, rfl⟩ := hh
                have ha' : ca.args = #[] := by apply Array.ext'; simpa using ha
                have he := (S.val hx).1
                unfold execOp
                simp only [ho, resolve, hc, he, ha', den, Deferred.ofValue, Sem.run_bind, Sem.run_pure, Result.andThen_ok]
                simp
            | _ => simp at hh
theorem sy_defer {c : Cfg} (S : @Sy noDF w0 r bs c.s F a w) {f : FuncId} {caps : List (Nat × Nat)} (hh : headF c = some (f, caps)) (hd : D.d = [⟨.fn (.func f) (caps.map fun q => Value.pointer (some (adr bs q.1 q.2))).toArray, #[]⟩]) {Q : Exit → Act → World → Prop}
    (h : ∀ a', Sy w0 r bs (aftC c (.v undef)).s F a' w → post P (aftC c (.v undef)).k Q .normal a' w) : post P c.k Q .normal a w := by
  obtain ⟨k, s⟩ := c
  match k with
  | .ops all (o :: l) :: k =>
    obtain ⟨h1, h2⟩ := @df_op noDF P w0 r bs s F a w ⟨[], s⟩ all o l k S f caps hh
    show wpList P all (post P k Q) (o :: l) a w
    refine wpList_step fun K hK => ?_
    rw [if_pos h1]
    unfold Oper.wp
    rw [h2, Oper.upon_defer]
    obtain ⟨k1, k2, k3, k4, k5, k6, k7, k8, k9⟩ := S
    have hd0 : a.defers = [] := k1
    have S1 : Sy w0 r bs s F { a with defers := ⟨.fn (.func f) (caps.map fun q => Value.pointer (some (adr bs q.1 q.2))).toArray, #[]⟩ :: a.defers } w := ⟨by rw [hd0, hd], k2, k3, k4, k5, k6, k7, k8, k9⟩
    exact hK _ _ (h _ (S1.put o.dst (x := .v undef) trivial))
  | [] => simp [headF] at hh
  | .code _ :: _ => simp [headF] at hh
  | .blk _ :: _ => simp [headF] at hh
  | .rnd _ _ :: _ => simp [headF] at hh
  | .ops _ [] :: _ => simp [headF] at hh
theorem sy_panicS {g : Nat} {l l' : List (Int × Bool)} {c : Cfg} (S : Sy w0 r bs c.s (rfRun g l :: F) a w) (h0 : g ∈ r ∨ w0.heap.size ≤ g) {f : FuncId} {args : Array Value} {ch : List PanicEntry} {Q : Exit → Act → World → Prop}
    (hC : Calls P f args w fun e w' => e = .panicked ch ∧ RunAt w' g l' ∧ w.grownBy w' (some g)) (hh : (headC P c).map (fun q => (q.1, q.2.map (den bs))) = some (f, args.toList)) (hF : ∀ f ∈ F, ¬f.bl g)
    (h : ∀ w', Sy w0 r bs c.s (rfRun g l' :: F) a w' → Q (.panic ch) a w') : post P c.k Q .normal a w := by
  have hap := (S.fs _ (by simp : rfRun g l ∈ rfRun g l :: F)).2
  refine sy_panicR S (G := [g]) (C := fun w' => RunAt w' g l' ∧ w.grownBy w' (some g)) (hC.mono fun e w' h => ⟨h.1, gr_gb' h.2.2, h.2⟩) hh fun w' _ hx => h w' ?_
  exact (S.grown hx.2 h0 (F' := F) (fun f hf => ⟨List.mem_cons_of_mem _ hf, hF f hf⟩) (fun i hi he => hap i hi (by show _ ≤ g; rw [he]; exact Nat.le_refl _))).add (rfRun g l') hx.1 hap
theorem sy_retQ {c : Cfg} {Q : Exit → Act → World → Prop} (he : atEnd c.k = true) (hn : ∀ a w, Q .ret a w → Q .normal a w) (h : Q .ret a w) : post P c.k Q .normal a w := by
  obtain ⟨k, s⟩ := c
  match k, he with
  | [], _ => exact hn _ _ h
  | .code .ret :: k, _ => exact wp_ret (ret_sound h k)
end
theorem leaves_tmps {P : Program} {fn : Func} {R : Ending → World → Prop} {t t' : Array Value} (ht : ∀ w, (results fn t).run P w = (results fn t').run P w) : ∀ (ds : List Deferred) (u : FrameMode) (w : World), Leaves P fn t R ds u w → Leaves P fn t' R ds u w
  | [], .returning, w, h => by obtain ⟨v, h1, h2⟩ := h; exact ⟨v, (ht w).symm.trans h1, h2⟩
  | [], .panicking c, w, h => h
  | [], .run, w, h => h
  | d :: ds, u, w, h => by
    obtain ⟨h1, fv, cap, f, args, h2, h3, h4⟩ := h
    refine ⟨h1, fv, cap, f, args, h2, h3, h4.mono fun e u' w' h => ?_⟩
    cases e with
    | returned v => exact leaves_tmps ht ds _ _ h
    | panicked c => exact leaves_tmps ht ds _ _ h
    | outgrown => exact h
theorem sy_enter1D {P : Program} {f : FuncId} {fn : Func} {w : World} {R : Ending → World → Prop} (g h : Nat) (k : Bx) (args : List SV) (F : List RF) (hh : w.heap[h]? = some (.cells k.cs.toArray k.ty (0, 0))) (ha : ∀ x ∈ args, x.ok 1) (hF : ∀ f ∈ F, f.P w ∧ ¬f.bl h)
    (hf : P.funcs[f]? = some fn) (hb : fn.body.isSome = true) (hk : ∀ a, Sy w [g, h] [h] (cfgR fn args [k]).s F a w → post P (cfgR fn args [k]).k (bodyPostD P fn R) .normal a w) : Calls P f (args.map (den [h])).toArray w R := by
  have h1 : ∀ i, i < [h].length → i = 0 := fun i hi => by simp at hi; exact hi
  obtain ⟨c, hc⟩ := Option.isSome_iff_exists.1 hb
  have hbo : bodyOf fn = c := by unfold bodyOf; rw [hc]; rfl
  have hpost : ∀ Q a w, post P (cfgR fn args [k]).k Q .normal a w = c.wp P Q a w := fun Q a w => by show (bodyOf fn).wp P _ a w = _; rw [hbo]; rfl
  refine calls_of_wp_defers hf hc ((hpost _ _ _).symm ▸ hk _ ⟨rfl, by simp [cfgR], fun t x hx => ?_, rfl, ?_, ?_, ?_, ?_, gb_refl' _ _⟩)
  · simp only [SS.get, cfgR, T0] at hx
    obtain ⟨h1, h2⟩ := lookup_T0 _ 0 t hx
    rw [Nat.sub_zero] at h2
    have hlt : t < args.length := (List.getElem?_eq_some_iff.1 h2).1
    refine ⟨?_, ha x (List.mem_of_getElem? h2)⟩
    rw [Array.getElem?_append_left (by simpa using hlt)]
    simp [h2]
  · intro i k' hk'
    have hi := h1 i (List.getElem?_eq_some_iff.1 hk').1
    subst hi
    simp only [cfgR, List.getElem?_cons_zero, Option.some.injEq] at hk'
    subst hk'
    exact hh
  · intro i j hi hj _
    rw [h1 i hi, h1 j hj]
  · intro i hi
    rw [h1 i hi]
    simp
  · intro f hf
    refine ⟨(hF f hf).1, fun i hi => ?_⟩
    rw [h1 i hi]
    exact (hF f hf).2
end Go.Proofs.YtfahnmpcclhjlaaGreat

namespace Go.Proofs.YtfahnmpcclhjlaaGreat
open Go Go.RowKit SZ
set_option linter.unusedVariables false
set_option linter.unusedSectionVars false
set_option linter.unusedSimpArgs false
set_option maxRecDepth 100000
@[instance_reducible] def attKP : KP := ⟨[2, 3]⟩
attribute [local instance] attKP
def pnd (q : Ask) : List PanicEntry := [{ v := .iface 78 q.v, recovered := false }]
def pnd2 (q : Ask) : List PanicEntry := [{ v := .iface 78 q.v, recovered := false }, { v := .iface 78 q.v, recovered := true }]
def attD (B C : Nat) : List Deferred := [⟨.fn (.func 41) #[.pointer (some ⟨B, 0, none⟩), .pointer (some ⟨C, 0, none⟩)], #[]⟩]
theorem att_res (t : Array Value) : results Tryz.f29 t = (do let x ← loadVar 42 (← asAddr (t.getD 2 undef)); let y ← loadVar 4 (← asAddr (t.getD 3 undef)); pure (Value.tuple #[x, y])) := by
  unfold results
  rw [show (Tryz.f29).results = #[ResultVar.cell 2 42, ResultVar.cell 3 4] from rfl]
  simp
instance attPInv {R : Ending → World → Prop} : PInv (bodyPostD Tryz.prog Tryz.f29 R) := ⟨fun d v c a w hk h => by
  cases d with
  | none => exact h
  | some d =>
    have h2 : d ≠ 2 := by rintro rfl; revert hk; decide
    have h3 : d ≠ 3 := by rintro rfl; revert hk; decide
    refine leaves_tmps (t := (a.put (some d) v).tmps) (t' := a.tmps) (fun w => ?_) _ _ _ h
    rw [att_res, att_res]
    have e2 : (a.put (some d) v).tmps.getD 2 undef = a.tmps.getD 2 undef := by
      show (a.tmps.setIfInBounds d v).getD 2 undef = _
      simp only [Array.getD_eq_getD_getElem?, Array.getElem?_setIfInBounds_ne h2]
    have e3 : (a.put (some d) v).tmps.getD 3 undef = a.tmps.getD 3 undef := by
      show (a.tmps.setIfInBounds d v).getD 3 undef = _
      simp only [Array.getD_eq_getD_getElem?, Array.getElem?_setIfInBounds_ne h3]
    rw [e2, e3]⟩
theorem att_idle (p q : Addr) (w : World) :
    CallsD Tryz.prog 41 #[.pointer (some p), .pointer (some q)] .returning w fun e u' w' => e = .returned (.tuple #[]) ∧ u' = .returning ∧ w' = w := by
  refine callsD_of_wpS Tryz.func41 rfl fun c₀ cs hu => ?_
  apply wpS_seq
  apply wpS_region
  simp [wpOpsS, go_sem, recoverD, hu, Tryz.ntmps41, Exit.thenS]
  apply wpS_seq
  apply wpS_region
  have hnil : ∀ w : World, (binOp BinOp.neq 20 .nilIface .nilIface).run Tryz.prog w = .ok (.bool false) w := fun _ => by kernel_rfl
  simp [wpOpsS, go_sem, hnil, Exit.thenS]
  refine wpS_cond (t := false) (by simp [Act.eval, Array.replicate]) ?_
  simp only [Bool.false_eq_true, if_false]
  refine wpS_of_wp (wp_skip ?_)
  cases c₀
  simp_all [bodyPostS, results, Tryz.results41]
section
variable [D : DF] {B C : Nat} {R : Ending → World → Prop} {aa : Act} {w : World}
omit D in
theorem att_inv (a b : Value) (w : World) : (invoke (.fn (.func 41) #[a, b]) #[]).run Tryz.prog w = .ok (.enter 41 #[a, b]) w := by kernel_rfl
theorem at_pendL (hD : D.d = attD B C) (hdf : aa.defers = D.d) (q : Ask) (hR : ∀ w', Below w.heap.size w w' → R (.panicked (pnd2 q)) w') : bodyPostD Tryz.prog Tryz.f29 R (.panic (pnd q)) aa w := by
  show Leaves Tryz.prog Tryz.f29 aa.tmps R aa.defers (.panicking (pnd q)) w
  rw [hdf, hD]
  refine leaves_cons (by simp) (att_inv _ _ w) ((att_pend _ _ q.k q.p q.o q.n ByteArray.empty [] w).mono ?_)
  rintro e u' w' ⟨rfl, rfl, hb⟩
  exact hR w' hb
variable {w0 : World} {r bs : List Nat} {s : SS} {F : List RF}
theorem at_retL (hD : D.d = attD B C) (S : Sy w0 r bs s F aa w) {ys : List SV} (hr : resS Tryz.prog s (Tryz.f29).results.toList = some ys) (hR : R (.returned (retV bs ys)) w) : bodyPostD Tryz.prog Tryz.f29 R .ret aa w := by
  show Leaves Tryz.prog Tryz.f29 aa.tmps R aa.defers .returning w
  rw [S.df, hD]
  refine leaves_cons (by simp) (att_inv _ _ w) ((att_idle _ _ w).mono ?_)
  rintro e u' w' ⟨rfl, rfl, rfl⟩
  exact ⟨_, resS_run S hr, hR⟩
omit D in
theorem cell_of {w : World} {b o : Nat} {cs : List Value} {t : TypeId} {v : Value} (h : w.heap[b]? = some (.cells cs.toArray t (0, 0))) (hv : cs[o]? = some v) : w.cell? ⟨b, o, none⟩ = some v := by
  simp [World.cell?, h, hv]
omit D in
theorem froz_of {w : World} {b o : Nat} {cs : List Value} {t : TypeId} (h : w.heap[b]? = some (.cells cs.toArray t (0, 0))) : w.frozen? ⟨b, o, none⟩ = false := by
  simp [World.frozen?, h]
def lostS (s : SS) : SS := (s.setK 1 ⟨42, [.int .i64 0, .int .i64 0, .int .i64 0, .int .i64 0, .bool false, .bool true, .int .i64 0]⟩).setK 2 ⟨4, [.bool true]⟩
theorem at_lostL (S : Sy w0 r bs s F aa w) (hD : D.d = attD (bs.getD 1 0) (bs.getD 2 0)) (hK1 : s.K[1]? = some ⟨42, [.int .i64 0, .int .i64 0, .int .i64 0, .int .i64 0, .bool false, .bool false, .int .i64 0]⟩) (hK2 : s.K[2]? = some ⟨4, [.bool false]⟩) {ys : List SV} (hr : resS Tryz.prog (lostS s) (Tryz.f29).results.toList = some ys)
    (hR : ∀ w', Sy w0 r bs (lostS s) F aa w' → R (.returned (retV bs ys)) w') : bodyPostD Tryz.prog Tryz.f29 R (.panic lostP) aa w := by
  have b1 := S.bx 1 _ hK1
  have b2 := S.bx 2 _ hK2
  have l1 : 1 < bs.length := by rw [S.bl]; exact (List.getElem?_eq_some_iff.1 hK1).1
  have l2 : 2 < bs.length := by rw [S.bl]; exact (List.getElem?_eq_some_iff.1 hK2).1
  have n12 : bs.getD 1 0 ≠ bs.getD 2 0 := fun e => by have := S.nd 1 2 l1 l2 e; omega
  have S1 := S.store hK1 (o := 0) [.int .i64 0, .int .i64 0, .int .i64 0, .int .i64 0, .bool false, .bool true, .int .i64 0]
  have hK2' : (s.setK 1 ⟨42, setL [.int .i64 0, .int .i64 0, .int .i64 0, .int .i64 0, .bool false, .bool false, .int .i64 0] 0 [.int .i64 0, .int .i64 0, .int .i64 0, .int .i64 0, .bool false, .bool true, .int .i64 0]⟩).K[2]? = some ⟨4, [.bool false]⟩ := by
    show (s.K.set 1 _)[2]? = _
    rw [List.getElem?_set_ne (by omega)]; exact hK2
  have S2 := S1.store hK2' (o := 0) [.bool true]
  have S3 : Sy w0 r bs (lostS s) F aa (lostW w (bs.getD 1 0) (bs.getD 2 0)) := (show Sy w0 r bs (lostS s) F aa _ from S2).below ((Below.refl _ _).alloc (Nat.le_refl _) _)
  show Leaves Tryz.prog Tryz.f29 aa.tmps R aa.defers (.panicking lostP) w
  rw [S.df, hD]
  refine leaves_cons (by simp) (att_inv _ _ w) ((att_lost w (bs.getD 1 0) (bs.getD 2 0) (S.lt l1) (S.lt l2) n12 [] (cell_of b1 (o := 0) rfl) (cell_of b1 (o := 1) rfl) (cell_of b1 (o := 2) rfl) (cell_of b1 (o := 3) rfl) (cell_of b1 (o := 4) rfl) (cell_of b1 (o := 5) rfl) (cell_of b1 (o := 6) rfl) (cell_of b2 (o := 0) rfl) (fun i => froz_of b1) (fun i => froz_of b2)).mono ?_)
  rintro e u' w' ⟨rfl, rfl, rfl⟩
  exact ⟨_, resS_run S3 hr, hR _ S3⟩
end
def AtPost (y : OutD × CSt) (g h : Nat) (R : Rd) (q0 : Oq) (sh : Bool) (w : World) (e : Ending) (w' : World) : Prop := match y with
  | (_, (_, some q)) => e = .panicked (pnd2 q) ∧ Gr w w' [g, h]
  | (o, (l', none)) => ∃ clk : Int, e = .returned (.tuple #[o.v, .bool o.lost]) ∧ RunAt w' g l' ∧ w'.heap[h]? = some (.cells (rdC g R q0 clk sh).toArray 62 (0, 0)) ∧ Gr w w' [g, h]
noncomputable def atC : Cfg := ⟨goZ 60 [] [.code (bodyOf Tryz.f29)], ⟨0, [], []⟩⟩
noncomputable def atS (g : Nat) (R : Rd) (q0 : Oq) (clk : Int) (sh : Bool) : SS := ⟨77, [(0, .p 0 0), (2, .p 1 0), (3, .p 2 0)], [⟨62, rdC g R q0 clk sh⟩, ⟨42, [.int .i64 0, .int .i64 0, .int .i64 0, .int .i64 0, .bool false, .bool false, .int .i64 0]⟩, ⟨4, [.bool false]⟩]⟩
end Go.Proofs.YtfahnmpcclhjlaaGreat

namespace Go.Proofs.YtfahnmpcclhjlaaGreat
open Go Go.RowKit SZ
set_option linter.unusedVariables false
set_option linter.unusedSectionVars false
set_option linter.unusedSimpArgs false
set_option maxRecDepth 100000
attribute [local instance] attKP
theorem gr_bel {w w' : World} {r : List Nat} (h : Below w.heap.size w w') : Gr w w' r := ⟨h.os, h.tape, h.output, h.size, fun k hk _ => h.block k hk⟩
theorem gr_sub {w w' : World} {r r' : List Nat} (h : Gr w w' r) (hs : ∀ b ∈ r, b ∈ r') : Gr w w' r' := ⟨h.os, h.tape, h.output, h.size, fun k hk hn => h.block k hk fun hm => hn (hs k hm)⟩
theorem load_noneG (w : World) (g : Nat) (p : Int) (h : RunAt w g []) : Calls Tryz.prog 47 #[.pointer (some ⟨g, 0, none⟩), .int .i64 p] w fun e w' => e = .panicked [{ v := .iface 78 (Ask.v ⟨1, p, 0, 0⟩), recovered := false }] ∧ w.grownBy w' (some g) := (load_none w g p h).mono fun e w' h => ⟨h.1, gb_of_below _ h.2⟩
attribute [local irreducible] post GD Nxt NxtAll
set_option maxHeartbeats 8000000 in
theorem at_pn [DD : DF] (w0 : World) (g h B C : Nat) (hD : DD.d = attD B C) (R : Rd) (hok : R.L.ok) (q0 : Oq) (sh : Bool) (hgh : g < h) (b o : Nat) (hsg : ¬ (SZ.rfSeen b o R.Q).bl g) (n : Nat) (clk : Int) (o2 : OutD) (l2 : List (Int × Bool)) (l : List (Int × Bool)) (q : Ask) (hC : ∀ w, RunAt w g l → Calls Tryz.prog 42 #[.pointer (some ⟨g, 0, none⟩), .int .i64 (atWord R.L R.a), .int .i64 (atVal R.L R.a)] w fun e w' => e = .panicked (pnd q) ∧ w.grownBy w' (some g)) (aa : Act) (w : World) (S : Sy w0 [g, h] [h, B, C] (atS g R q0 clk sh) [rfRun g (l), SZ.rfSeen b o R.Q] aa w) : post Tryz.prog (.rnd (n + 1) (bodyL atC) :: atC.k.tail) (bodyPostD Tryz.prog Tryz.f29 (AtPost ((o2, ((l2, some q) : CSt))) g h R q0 sh w0)) .normal aa w := by
  refine sy_run (c := ⟨(.rnd (n + 1) (bodyL atC) :: atC.k.tail), atS g R q0 clk sh⟩) ⟨0, []⟩ 60 S fun bs aa w S => ?_
  refine dr_enter [0, 1, 2] (by kernel_rfl) (by kernel_rfl) S (by kernel_rfl) fun aa w D => ?_
  refine dr_any [13, 25] (by kernel_rfl) (by kernel_rfl) rfl (na2 ?_ ?_)
  · refine nx_call1 13 D (by kernel_rfl) (word_any R.L R.a w hok) (by kernel_rfl) fun aa w D => ?_
    refine dr_any [23, 25] (by kernel_rfl) (by kernel_rfl) rfl (na2 ?_ ?_)
    · refine nx_call1 23 D (by kernel_rfl) (val_any R.L R.a w hok) (by kernel_rfl) fun aa w D => ?_
      refine dr_any [24, 25] (by kernel_rfl) (by kernel_rfl) rfl (na2 ?_ ?_)
      · exact nx_pan (G := [g]) 24 D ((hC w (D.S.fact (f := rfRun g (l)) (by simp))).mono fun e w' h => ⟨h.1, gr_gb' h.2⟩) (by kernel_rfl) fun w' hg => (at_pendL hD D.S.df (q) fun w'' hb => ⟨rfl, gr_trans (gr_trans D.S.gr hg (by simp)) (gr_bel (r := []) hb) (by simp)⟩)
      · refine nx_op 25 D (by kernel_rfl) (Nat.le_refl _) (by kernel_rfl) (by kernel_rfl) fun bs aa w D hl => ?_
        refine dr_any [24] (by kernel_rfl) (by kernel_rfl) rfl (na1 ?_)
        · exact nx_pan (G := [g]) 24 D ((hC w (D.S.fact (f := rfRun g (l)) (by simp))).mono fun e w' h => ⟨h.1, gr_gb' h.2⟩) (by kernel_rfl) fun w' hg => (at_pendL hD D.S.df (q) fun w'' hb => ⟨rfl, gr_trans (gr_trans D.S.gr hg (by simp)) (gr_bel (r := []) hb) (by simp)⟩)
    · refine nx_op 25 D (by kernel_rfl) (Nat.le_refl _) (by kernel_rfl) (by kernel_rfl) fun bs aa w D hl => ?_
      refine dr_any [23] (by kernel_rfl) (by kernel_rfl) rfl (na1 ?_)
      · refine nx_call1 23 D (by kernel_rfl) (val_any R.L R.a w hok) (by kernel_rfl) fun aa w D => ?_
        refine dr_any [24] (by kernel_rfl) (by kernel_rfl) rfl (na1 ?_)
        · exact nx_pan (G := [g]) 24 D ((hC w (D.S.fact (f := rfRun g (l)) (by simp))).mono fun e w' h => ⟨h.1, gr_gb' h.2⟩) (by kernel_rfl) fun w' hg => (at_pendL hD D.S.df (q) fun w'' hb => ⟨rfl, gr_trans (gr_trans D.S.gr hg (by simp)) (gr_bel (r := []) hb) (by simp)⟩)
  · refine nx_op 25 D (by kernel_rfl) (Nat.le_refl _) (by kernel_rfl) (by kernel_rfl) fun bs aa w D hl => ?_
    refine dr_any [13] (by kernel_rfl) (by kernel_rfl) rfl (na1 ?_)
    · refine nx_call1 13 D (by kernel_rfl) (word_any R.L R.a w hok) (by kernel_rfl) fun aa w D => ?_
      refine dr_any [23] (by kernel_rfl) (by kernel_rfl) rfl (na1 ?_)
      · refine nx_call1 23 D (by kernel_rfl) (val_any R.L R.a w hok) (by kernel_rfl) fun aa w D => ?_
        refine dr_any [24] (by kernel_rfl) (by kernel_rfl) rfl (na1 ?_)
        · exact nx_pan (G := [g]) 24 D ((hC w (D.S.fact (f := rfRun g (l)) (by simp))).mono fun e w' h => ⟨h.1, gr_gb' h.2⟩) (by kernel_rfl) fun w' hg => (at_pendL hD D.S.df (q) fun w'' hb => ⟨rfl, gr_trans (gr_trans D.S.gr hg (by simp)) (gr_bel (r := []) hb) (by simp)⟩)
noncomputable def atK (n : Nat) : List It := goZ 3 [] (.code (bodyL atC) :: .rnd n (bodyL atC) :: atC.k.tail)
noncomputable def atF (g : Nat) (R : Rd) (q0 : Oq) (clk : Int) (sh : Bool) (fd : OutD) : SS := ⟨77, [(0, .p 0 0), (2, .p 1 0), (3, .p 2 0), (4, .p 3 0)], [⟨62, rdC g R q0 clk sh⟩, ⟨42, [.int .i64 0, .int .i64 0, .int .i64 0, .int .i64 0, .bool false, .bool false, .int .i64 0]⟩, ⟨4, [.bool false]⟩, ⟨42, outL fd⟩]⟩
section
variable [DD : DF] (w0 : World) (g h B C : Nat) (hD : DD.d = attD B C) (R : Rd) (hok : R.L.ok) (q0 : Oq) (sh : Bool) (hgh : g < h) (b o : Nat) (hsg : ¬ (SZ.rfSeen b o R.Q).bl g) (n : Nat) (clk : Int)
include DD w0 g h B C hD R hok q0 sh hgh b o hsg n clk
set_option maxHeartbeats 8000000 in
theorem at_rd (l l' : List (Int × Bool)) (fd : OutD) (y : OutD × CSt) (hC : ∀ w, RunAt w g l → Calls Tryz.prog 42 #[.pointer (some ⟨g, 0, none⟩), .int .i64 (atWord R.L R.a), .int .i64 (atVal R.L R.a)] w fun e w' => e = .returned fd.v ∧ RunAt w' g l' ∧ w.grownBy w' (some g)) (hk : ∀ (F0 : Nat) (aa : Act) (w : World), Sy w0 [g, h] [h, B, C, F0] (atF g R q0 clk sh fd) [rfRun g l', SZ.rfSeen b o R.Q] aa w → post Tryz.prog (atK n) (bodyPostD Tryz.prog Tryz.f29 (AtPost y g h R q0 sh w0)) .normal aa w) (aa : Act) (w : World) (S : Sy w0 [g, h] [h, B, C] (atS g R q0 clk sh) [rfRun g (l), SZ.rfSeen b o R.Q] aa w) : post Tryz.prog (.rnd (n + 1) (bodyL atC) :: atC.k.tail) (bodyPostD Tryz.prog Tryz.f29 (AtPost (y) g h R q0 sh w0)) .normal aa w := by
  refine sy_run (c := ⟨(.rnd (n + 1) (bodyL atC) :: atC.k.tail), atS g R q0 clk sh⟩) ⟨0, []⟩ 60 S fun bs aa w S => ?_
  refine dr_enter [0, 1, 2] (by kernel_rfl) (by kernel_rfl) S (by kernel_rfl) fun aa w D => ?_
  refine dr_any [13, 25] (by kernel_rfl) (by kernel_rfl) rfl (na2 ?_ ?_)
  · refine nx_call1 13 D (by kernel_rfl) (word_any R.L R.a w hok) (by kernel_rfl) fun aa w D => ?_
    refine dr_any [23, 25] (by kernel_rfl) (by kernel_rfl) rfl (na2 ?_ ?_)
    · refine nx_call1 23 D (by kernel_rfl) (val_any R.L R.a w hok) (by kernel_rfl) fun aa w D => ?_
      refine dr_any [24, 25] (by kernel_rfl) (by kernel_rfl) rfl (na2 ?_ ?_)
      · refine nx_acc (l' := l') 24 D (Or.inl (by simp)) (by kernel_rfl) (hC w (D.S.fact (f := rfRun g (l)) (by simp))) (by kernel_rfl) (by intro f hf; simp at hf; subst hf; exact hsg) fun aa w D => ?_
        refine dr_any [25] (by kernel_rfl) (by kernel_rfl) rfl (na1 ?_)
        · refine nx_op 25 D (by kernel_rfl) (Nat.le_refl _) (by kernel_rfl) (by kernel_rfl) fun bs aa w D hl => ?_
          refine dr_any [26] (by kernel_rfl) (by kernel_rfl) rfl (na1 ?_)
          · refine nx_op 26 D (by kernel_rfl) hl (by kernel_rfl) (by kernel_rfl) fun bs aa w D hl => ?_
            refine dr_end D (by kernel_rfl) fun S => ?_
            have S' := S.to [0, 1, 2, 3] (atF g R q0 clk sh fd) (by kernel_rfl) (by kernel_rfl) (by kernel_rfl) (by kernel_rfl) (by kernel_rfl)
            refine sy_at2 (k' := atK n) (by kernel_rfl) ?_
            exact hk _ _ _ S'
      · refine nx_op 25 D (by kernel_rfl) (Nat.le_refl _) (by kernel_rfl) (by kernel_rfl) fun bs aa w D hl => ?_
        refine dr_any [24] (by kernel_rfl) (by kernel_rfl) rfl (na1 ?_)
        · refine nx_acc (l' := l') 24 D (Or.inl (by simp)) (by kernel_rfl) (hC w (D.S.fact (f := rfRun g (l)) (by simp))) (by kernel_rfl) (by intro f hf; simp at hf; subst hf; exact hsg) fun aa w D => ?_
          refine dr_any [26] (by kernel_rfl) (by kernel_rfl) rfl (na1 ?_)
          · refine nx_op 26 D (by kernel_rfl) hl (by kernel_rfl) (by kernel_rfl) fun bs aa w D hl => ?_
            refine dr_end D (by kernel_rfl) fun S => ?_
            have S' := S.to [0, 1, 2, 3] (atF g R q0 clk sh fd) (by kernel_rfl) (by kernel_rfl) (by kernel_rfl) (by kernel_rfl) (by kernel_rfl)
            refine sy_at2 (k' := atK n) (by kernel_rfl) ?_
            exact hk _ _ _ S'
    · refine nx_op 25 D (by kernel_rfl) (Nat.le_refl _) (by kernel_rfl) (by kernel_rfl) fun bs aa w D hl => ?_
      refine dr_any [23] (by kernel_rfl) (by kernel_rfl) rfl (na1 ?_)
      · refine nx_call1 23 D (by kernel_rfl) (val_any R.L R.a w hok) (by kernel_rfl) fun aa w D => ?_
        refine dr_any [24] (by kernel_rfl) (by kernel_rfl) rfl (na1 ?_)
        · refine nx_acc (l' := l') 24 D (Or.inl (by simp)) (by kernel_rfl) (hC w (D.S.fact (f := rfRun g (l)) (by simp))) (by kernel_rfl) (by intro f hf; simp at hf; subst hf; exact hsg) fun aa w D => ?_
          refine dr_any [26] (by kernel_rfl) (by kernel_rfl) rfl (na1 ?_)
          · refine nx_op 26 D (by kernel_rfl) hl (by kernel_rfl) (by kernel_rfl) fun bs aa w D hl => ?_
            refine dr_end D (by kernel_rfl) fun S => ?_
            have S' := S.to [0, 1, 2, 3] (atF g R q0 clk sh fd) (by kernel_rfl) (by kernel_rfl) (by kernel_rfl) (by kernel_rfl) (by kernel_rfl)
            refine sy_at2 (k' := atK n) (by kernel_rfl) ?_
            exact hk _ _ _ S'
  · refine nx_op 25 D (by kernel_rfl) (Nat.le_refl _) (by kernel_rfl) (by kernel_rfl) fun bs aa w D hl => ?_
    refine dr_any [13] (by kernel_rfl) (by kernel_rfl) rfl (na1 ?_)
    · refine nx_call1 13 D (by kernel_rfl) (word_any R.L R.a w hok) (by kernel_rfl) fun aa w D => ?_
      refine dr_any [23] (by kernel_rfl) (by kernel_rfl) rfl (na1 ?_)
      · refine nx_call1 23 D (by kernel_rfl) (val_any R.L R.a w hok) (by kernel_rfl) fun aa w D => ?_
        refine dr_any [24] (by kernel_rfl) (by kernel_rfl) rfl (na1 ?_)
        · refine nx_acc (l' := l') 24 D (Or.inl (by simp)) (by kernel_rfl) (hC w (D.S.fact (f := rfRun g (l)) (by simp))) (by kernel_rfl) (by intro f hf; simp at hf; subst hf; exact hsg) fun aa w D => ?_
          refine dr_any [26] (by kernel_rfl) (by kernel_rfl) rfl (na1 ?_)
          · refine nx_op 26 D (by kernel_rfl) hl (by kernel_rfl) (by kernel_rfl) fun bs aa w D hl => ?_
            refine dr_end D (by kernel_rfl) fun S => ?_
            have S' := S.to [0, 1, 2, 3] (atF g R q0 clk sh fd) (by kernel_rfl) (by kernel_rfl) (by kernel_rfl) (by kernel_rfl) (by kernel_rfl)
            refine sy_at2 (k' := atK n) (by kernel_rfl) ?_
            exact hk _ _ _ S'
set_option maxHeartbeats 8000000 in
theorem at_f (r v u : Int × Bool) (l : List (Int × Bool)) (hq : ¬ r.1 % 2 = 1) (hu : ¬ u.1 = r.1) (y : OutD × CSt) (ih : ∀ (aa : Act) (w : World) (S : Sy w0 [g, h] [h, B, C] (atS g R q0 clk sh) [rfRun g (l), SZ.rfSeen b o R.Q] aa w), post Tryz.prog (.rnd (n) (bodyL atC) :: atC.k.tail) (bodyPostD Tryz.prog Tryz.f29 (AtPost (y) g h R q0 sh w0)) .normal aa w) (aa : Act) (w : World) (S : Sy w0 [g, h] [h, B, C] (atS g R q0 clk sh) [rfRun g (r :: v :: u :: l), SZ.rfSeen b o R.Q] aa w) : post Tryz.prog (.rnd (n + 1) (bodyL atC) :: atC.k.tail) (bodyPostD Tryz.prog Tryz.f29 (AtPost (y) g h R q0 sh w0)) .normal aa w := by
  refine at_rd w0 g h B C hD R hok q0 sh hgh b o hsg n clk _ (l) { val := -1, ver := -1 } _ (fun w hR => lr_f w g (atWord R.L R.a) (atVal R.L R.a) r v u l hq hu hR) (fun F0 aa w S => ?_) aa w S
  refine sy_run (c := ⟨atK n, atF g R q0 clk sh _⟩) ⟨0, [999]⟩ 60 S fun bs aa w S => ?_
  have S' := S.to [0, 1, 2] (atS g R q0 (clk) sh) (by kernel_rfl) (by kernel_rfl) (by kernel_rfl) (by kernel_rfl) (by kernel_rfl)
  refine sy_at2 (k' := (.rnd (n) (bodyL atC) :: atC.k.tail)) (by kernel_rfl) ?_
  exact ih _ _ S'
section
variable (r : Int × Bool) (l : List (Int × Bool)) (hq : r.1 % 2 = 1)
include r l hq
set_option maxHeartbeats 8000000 in
theorem at_neg (hn : ¬ r.1 / 2 ≥ 0) (y : OutD × CSt) (ih : ∀ (aa : Act) (w : World) (S : Sy w0 [g, h] [h, B, C] (atS g R q0 clk sh) [rfRun g (l), SZ.rfSeen b o R.Q] aa w), post Tryz.prog (.rnd (n) (bodyL atC) :: atC.k.tail) (bodyPostD Tryz.prog Tryz.f29 (AtPost (y) g h R q0 sh w0)) .normal aa w) (aa : Act) (w : World) (S : Sy w0 [g, h] [h, B, C] (atS g R q0 clk sh) [rfRun g (r :: l), SZ.rfSeen b o R.Q] aa w) : post Tryz.prog (.rnd (n + 1) (bodyL atC) :: atC.k.tail) (bodyPostD Tryz.prog Tryz.f29 (AtPost (y) g h R q0 sh w0)) .normal aa w := by
  refine at_rd w0 g h B C hD R hok q0 sh hgh b o hsg n clk _ (l) { val := r.1 / 2, ver := -1 } _ (fun w hR => lr_h w g (atWord R.L R.a) (atVal R.L R.a) r l hq hR) (fun F0 aa w S => ?_) aa w S
  refine sy_run (c := ⟨atK n, atF g R q0 clk sh _⟩) ⟨0, [4]⟩ 60 S fun bs aa w S => ?_
  refine sy_reg S fun S => ?_
  refine sy_ops 3 S fun bs aa w S => ?_
  refine sy_cast 36 S (congrArg Value.bool (decide_eq_false hn : decide (r.1 / 2 ≥ 0) = false)) (by kernel_rfl) fun S => ?_
  refine sy_run ⟨0, [999]⟩ 60 S fun bs aa w S => ?_
  have S' := S.to [0, 1, 2] (atS g R q0 (clk) sh) (by kernel_rfl) (by kernel_rfl) (by kernel_rfl) (by kernel_rfl) (by kernel_rfl)
  refine sy_at2 (k' := (.rnd (n) (bodyL atC) :: atC.k.tail)) (by kernel_rfl) ?_
  exact ih _ _ S'
set_option maxHeartbeats 8000000 in
theorem at_hp (q : Ask) (l' : List (Int × Bool)) (o' : OutD) (hn : r.1 / 2 ≥ 0) (hC : ∀ w, RunAt w g l → w.heap[h]? = some (.cells (rdC g R q0 clk sh).toArray 62 (0, 0)) → Calls Tryz.prog 44 #[.pointer (some ⟨h, 0, none⟩), .int .i64 (r.1 / 2)] w fun e w' => e = .panicked (pnd q) ∧ w.grownBy w' (some g)) (aa : Act) (w : World) (S : Sy w0 [g, h] [h, B, C] (atS g R q0 clk sh) [rfRun g (r :: l), SZ.rfSeen b o R.Q] aa w) : post Tryz.prog (.rnd (n + 1) (bodyL atC) :: atC.k.tail) (bodyPostD Tryz.prog Tryz.f29 (AtPost ((o', (l', some q))) g h R q0 sh w0)) .normal aa w := by
  refine at_rd w0 g h B C hD R hok q0 sh hgh b o hsg n clk _ (l) { val := r.1 / 2, ver := -1 } _ (fun w hR => lr_h w g (atWord R.L R.a) (atVal R.L R.a) r l hq hR) (fun F0 aa w S => ?_) aa w S
  refine sy_run (c := ⟨atK n, atF g R q0 clk sh _⟩) ⟨0, [4]⟩ 60 S fun bs aa w S => ?_
  refine sy_reg S fun S => ?_
  refine sy_ops 3 S fun bs aa w S => ?_
  refine sy_cast 36 S (congrArg Value.bool (decide_eq_true hn : decide (r.1 / 2 ≥ 0) = true)) (by kernel_rfl) fun S => ?_
  refine sy_run ⟨0, []⟩ 60 S fun bs aa w S => ?_
  have e0 := S.bx 0 ⟨62, rdC g R q0 clk sh⟩ (by kernel_rfl)
  exact sy_panicQ (G := [g]) S ((hC w S.run e0).mono fun e w' h => ⟨h.1, gr_gb' h.2⟩) (by kernel_rfl) fun w' hg => (at_pendL hD S.df (q) fun w'' hb => ⟨rfl, gr_trans (gr_trans S.gr hg (by simp)) (gr_bel (r := []) hb) (by simp)⟩)
set_option maxHeartbeats 8000000 in
theorem at_hl (l' : List (Int × Bool)) (hn : r.1 / 2 ≥ 0) (hC : ∀ w, RunAt w g l → w.heap[h]? = some (.cells (rdC g R q0 clk sh).toArray 62 (0, 0)) → Calls Tryz.prog 44 #[.pointer (some ⟨h, 0, none⟩), .int .i64 (r.1 / 2)] w fun e w' => e = .panicked lostP ∧ RunAt w' g l' ∧ w.grownBy w' (some g)) (aa : Act) (w : World) (S : Sy w0 [g, h] [h, B, C] (atS g R q0 clk sh) [rfRun g (r :: l), SZ.rfSeen b o R.Q] aa w) : post Tryz.prog (.rnd (n + 1) (bodyL atC) :: atC.k.tail) (bodyPostD Tryz.prog Tryz.f29 (AtPost ((({ lost := true } : OutD), (l', none))) g h R q0 sh w0)) .normal aa w := by
  refine at_rd w0 g h B C hD R hok q0 sh hgh b o hsg n clk _ (l) { val := r.1 / 2, ver := -1 } _ (fun w hR => lr_h w g (atWord R.L R.a) (atVal R.L R.a) r l hq hR) (fun F0 aa w S => ?_) aa w S
  refine sy_run (c := ⟨atK n, atF g R q0 clk sh _⟩) ⟨0, [4]⟩ 60 S fun bs aa w S => ?_
  refine sy_reg S fun S => ?_
  refine sy_ops 3 S fun bs aa w S => ?_
  refine sy_cast 36 S (congrArg Value.bool (decide_eq_true hn : decide (r.1 / 2 ≥ 0) = true)) (by kernel_rfl) fun S => ?_
  refine sy_run ⟨0, []⟩ 60 S fun bs aa w S => ?_
  have e0 := S.bx 0 ⟨62, rdC g R q0 clk sh⟩ (by kernel_rfl)
  exact sy_panicS S (Or.inl (by simp)) (hC w S.run e0) (by kernel_rfl) (by intro f hf; simp at hf; subst hf; exact hsg) fun w' S => at_lostL S hD (by kernel_rfl) (by kernel_rfl) (ys := [.v (OutD.v { lost := true }), .v (.bool true)]) (by kernel_rfl) fun w'' S => ⟨clk, rfl, S.run, S.bx 0 ⟨62, rdC g R q0 clk sh⟩ (by kernel_rfl), S.gr⟩
set_option maxHeartbeats 8000000 in
theorem at_hg (l' : List (Int × Bool)) (v : Int) (hn : r.1 / 2 ≥ 0) (hC : ∀ w, RunAt w g l → w.heap[h]? = some (.cells (rdC g R q0 clk sh).toArray 62 (0, 0)) → Calls Tryz.prog 44 #[.pointer (some ⟨h, 0, none⟩), .int .i64 (r.1 / 2)] w fun e w' => e = .returned (.int .i64 v) ∧ RunAt w' g l' ∧ w.grownBy w' (some g)) (y : OutD × CSt) (ih : ∀ (aa : Act) (w : World) (S : Sy w0 [g, h] [h, B, C] (atS g R q0 clk sh) [rfRun g (l'), SZ.rfSeen b o R.Q] aa w), post Tryz.prog (.rnd (n) (bodyL atC) :: atC.k.tail) (bodyPostD Tryz.prog Tryz.f29 (AtPost (y) g h R q0 sh w0)) .normal aa w) (aa : Act) (w : World) (S : Sy w0 [g, h] [h, B, C] (atS g R q0 clk sh) [rfRun g (r :: l), SZ.rfSeen b o R.Q] aa w) : post Tryz.prog (.rnd (n + 1) (bodyL atC) :: atC.k.tail) (bodyPostD Tryz.prog Tryz.f29 (AtPost (y) g h R q0 sh w0)) .normal aa w := by
  refine at_rd w0 g h B C hD R hok q0 sh hgh b o hsg n clk _ (l) { val := r.1 / 2, ver := -1 } _ (fun w hR => lr_h w g (atWord R.L R.a) (atVal R.L R.a) r l hq hR) (fun F0 aa w S => ?_) aa w S
  refine sy_run (c := ⟨atK n, atF g R q0 clk sh _⟩) ⟨0, [4]⟩ 60 S fun bs aa w S => ?_
  refine sy_reg S fun S => ?_
  refine sy_ops 3 S fun bs aa w S => ?_
  refine sy_cast 36 S (congrArg Value.bool (decide_eq_true hn : decide (r.1 / 2 ≥ 0) = true)) (by kernel_rfl) fun S => ?_
  refine sy_run ⟨0, []⟩ 60 S fun bs aa w S => ?_
  have e0 := S.bx 0 ⟨62, rdC g R q0 clk sh⟩ (by kernel_rfl)
  refine sy_acc (l' := l') S (Or.inl (by simp)) (hC w S.run e0) (by kernel_rfl) (by intro f hf; simp at hf; subst hf; exact hsg) fun aa w S => ?_
  refine sy_run ⟨0, [999]⟩ 60 S fun bs aa w S => ?_
  have S' := S.to [0, 1, 2] (atS g R q0 (clk) sh) (by kernel_rfl) (by kernel_rfl) (by kernel_rfl) (by kernel_rfl) (by kernel_rfl)
  refine sy_at2 (k' := (.rnd (n) (bodyL atC) :: atC.k.tail)) (by kernel_rfl) ?_
  exact ih _ _ S'
end
section
variable (r v u : Int × Bool) (l : List (Int × Bool)) (hq : ¬ r.1 % 2 = 1) (hu : u.1 = r.1)
include r v u l hq hu
set_option maxHeartbeats 8000000 in
theorem at_ep (q : Ask) (l' : List (Int × Bool)) (o' : OutD) (hn : r.1 / 2 > clk) (hC : ∀ w, RunAt w g l → SeenAt w b o R.Q → w.heap[h]? = some (.cells (rdC g R q0 clk sh).toArray 62 (0, 0)) → Calls Tryz.prog 45 #[.pointer (some ⟨h, 0, none⟩)] w fun e w' => e = .panicked (pnd q) ∧ w.grownBy w' (some g)) (aa : Act) (w : World) (S : Sy w0 [g, h] [h, B, C] (atS g R q0 clk sh) [rfRun g (r :: v :: u :: l), SZ.rfSeen b o R.Q] aa w) : post Tryz.prog (.rnd (n + 1) (bodyL atC) :: atC.k.tail) (bodyPostD Tryz.prog Tryz.f29 (AtPost ((o', (l', some q))) g h R q0 sh w0)) .normal aa w := by
  refine at_rd w0 g h B C hD R hok q0 sh hgh b o hsg n clk _ (l) { val := v.1, ver := r.1 / 2, ok := true } _ (fun w hR => lr_t w g (atWord R.L R.a) (atVal R.L R.a) r v u (l) hq hu hR) (fun F0 aa w S => ?_) aa w S
  refine sy_run (c := ⟨atK n, atF g R q0 clk sh _⟩) ⟨0, []⟩ 60 S fun bs aa w S => ?_
  refine dr_enter [0, 1, 2, 3] (by kernel_rfl) (by kernel_rfl) S (by kernel_rfl) fun aa w D => ?_
  refine dr_end D (by kernel_rfl) fun S => ?_
  refine sy_cast 47 S (congrArg Value.bool (decide_eq_true hn : decide (r.1 / 2 > clk) = true)) (by kernel_rfl) fun S => ?_
  refine sy_run ⟨0, []⟩ 60 S fun bs aa w S => ?_
  have e0 := S.bx 0 ⟨62, rdC g R q0 clk sh⟩ (by kernel_rfl)
  have eS := S.fact (f := SZ.rfSeen b o R.Q) (by simp)
  exact sy_panicQ (G := [g]) S ((hC w S.run eS e0).mono fun e w' h => ⟨h.1, gr_gb' h.2⟩) (by kernel_rfl) fun w' hg => (at_pendL hD S.df (q) fun w'' hb => ⟨rfl, gr_trans (gr_trans S.gr hg (by simp)) (gr_bel (r := []) hb) (by simp)⟩)
set_option maxHeartbeats 8000000 in
theorem at_el (l' : List (Int × Bool)) (hn : r.1 / 2 > clk) (hC : ∀ w, RunAt w g l → SeenAt w b o R.Q → w.heap[h]? = some (.cells (rdC g R q0 clk sh).toArray 62 (0, 0)) → Calls Tryz.prog 45 #[.pointer (some ⟨h, 0, none⟩)] w fun e w' => e = .panicked lostP ∧ RunAt w' g l' ∧ w.grownBy w' (some g)) (aa : Act) (w : World) (S : Sy w0 [g, h] [h, B, C] (atS g R q0 clk sh) [rfRun g (r :: v :: u :: l), SZ.rfSeen b o R.Q] aa w) : post Tryz.prog (.rnd (n + 1) (bodyL atC) :: atC.k.tail) (bodyPostD Tryz.prog Tryz.f29 (AtPost ((({ lost := true } : OutD), (l', none))) g h R q0 sh w0)) .normal aa w := by
  refine at_rd w0 g h B C hD R hok q0 sh hgh b o hsg n clk _ (l) { val := v.1, ver := r.1 / 2, ok := true } _ (fun w hR => lr_t w g (atWord R.L R.a) (atVal R.L R.a) r v u (l) hq hu hR) (fun F0 aa w S => ?_) aa w S
  refine sy_run (c := ⟨atK n, atF g R q0 clk sh _⟩) ⟨0, []⟩ 60 S fun bs aa w S => ?_
  refine dr_enter [0, 1, 2, 3] (by kernel_rfl) (by kernel_rfl) S (by kernel_rfl) fun aa w D => ?_
  refine dr_end D (by kernel_rfl) fun S => ?_
  refine sy_cast 47 S (congrArg Value.bool (decide_eq_true hn : decide (r.1 / 2 > clk) = true)) (by kernel_rfl) fun S => ?_
  refine sy_run ⟨0, []⟩ 60 S fun bs aa w S => ?_
  have e0 := S.bx 0 ⟨62, rdC g R q0 clk sh⟩ (by kernel_rfl)
  have eS := S.fact (f := SZ.rfSeen b o R.Q) (by simp)
  exact sy_panicS S (Or.inl (by simp)) (hC w S.run eS e0) (by kernel_rfl) (by intro f hf; simp at hf; subst hf; exact hsg) fun w' S => at_lostL S hD (by kernel_rfl) (by kernel_rfl) (ys := [.v (OutD.v { lost := true }), .v (.bool true)]) (by kernel_rfl) fun w'' S => ⟨clk, rfl, S.run, S.bx 0 ⟨62, rdC g R q0 clk sh⟩ (by kernel_rfl), S.gr⟩
set_option maxHeartbeats 8000000 in
theorem at_eg (l' : List (Int × Bool)) (now : Int) (hn : r.1 / 2 > clk) (hC : ∀ w, RunAt w g l → SeenAt w b o R.Q → w.heap[h]? = some (.cells (rdC g R q0 clk sh).toArray 62 (0, 0)) → Calls Tryz.prog 45 #[.pointer (some ⟨h, 0, none⟩)] w fun e w' => e = .returned (.tuple #[]) ∧ RunAt w' g l' ∧ w'.heap[h]? = some (.cells (rdC g R q0 now sh).toArray 62 (0, 0)) ∧ Gr w w' [g, h]) (y : OutD × CSt) (ih : ∀ (aa : Act) (w : World) (S : Sy w0 [g, h] [h, B, C] (atS g R q0 now sh) [rfRun g (l'), SZ.rfSeen b o R.Q] aa w), post Tryz.prog (.rnd (n) (bodyL atC) :: atC.k.tail) (bodyPostD Tryz.prog Tryz.f29 (AtPost (y) g h R q0 sh w0)) .normal aa w) (aa : Act) (w : World) (S : Sy w0 [g, h] [h, B, C] (atS g R q0 clk sh) [rfRun g (r :: v :: u :: l), SZ.rfSeen b o R.Q] aa w) : post Tryz.prog (.rnd (n + 1) (bodyL atC) :: atC.k.tail) (bodyPostD Tryz.prog Tryz.f29 (AtPost (y) g h R q0 sh w0)) .normal aa w := by
  refine at_rd w0 g h B C hD R hok q0 sh hgh b o hsg n clk _ (l) { val := v.1, ver := r.1 / 2, ok := true } _ (fun w hR => lr_t w g (atWord R.L R.a) (atVal R.L R.a) r v u (l) hq hu hR) (fun F0 aa w S => ?_) aa w S
  refine sy_run (c := ⟨atK n, atF g R q0 clk sh _⟩) ⟨0, []⟩ 60 S fun bs aa w S => ?_
  refine dr_enter [0, 1, 2, 3] (by kernel_rfl) (by kernel_rfl) S (by kernel_rfl) fun aa w D => ?_
  refine dr_end D (by kernel_rfl) fun S => ?_
  refine sy_cast 47 S (congrArg Value.bool (decide_eq_true hn : decide (r.1 / 2 > clk) = true)) (by kernel_rfl) fun S => ?_
  refine sy_run ⟨0, []⟩ 60 S fun bs aa w S => ?_
  have e0 := S.bx 0 ⟨62, rdC g R q0 clk sh⟩ (by kernel_rfl)
  have eS := S.fact (f := SZ.rfSeen b o R.Q) (by simp)
  have hap := (S.fs _ (by simp : rfRun g l ∈ [rfRun g l, SZ.rfSeen b o R.Q])).2
  refine sy_callH S 0 ⟨62, rdC g R q0 clk sh⟩ ⟨62, rdC g R q0 now sh⟩ [g] (by kernel_rfl) (by intro x hx; simp at hx; subst hx; simp) (C := fun w' => RunAt w' g l') ((hC w S.run eS e0).mono fun e w' h => ⟨h.1, h.2.1, h.2.2.1, gr_sub h.2.2.2 (by intro x hx; simp at hx ⊢; exact hx.symm)⟩) (by kernel_rfl) [SZ.rfSeen b o R.Q] (by intro f hf; simp at hf; subst hf; exact ⟨by simp, by intro x hx; simp at hx; subst hx; exact hsg⟩) (fun j hj he => by simp only [List.mem_singleton] at he; exact hap j hj (by show _ ≤ g; rw [he]; exact Nat.le_refl _)) fun aa w hR S => ?_
  have S := S.add (rfRun g l') hR hap
  refine sy_run ⟨0, [999]⟩ 60 S fun bs aa w S => ?_
  have S' := S.to [0, 1, 2] (atS g R q0 (now) sh) (by kernel_rfl) (by kernel_rfl) (by kernel_rfl) (by kernel_rfl) (by kernel_rfl)
  refine sy_at2 (k' := (.rnd (n) (bodyL atC) :: atC.k.tail)) (by kernel_rfl) ?_
  exact ih _ _ S'
end
set_option maxHeartbeats 8000000 in
theorem at_sp (o2 : OutD) (l2 : List (Int × Bool)) (r v u : Int × Bool) (hq : ¬ r.1 % 2 = 1) (hu : u.1 = r.1) (hn : ¬ r.1 / 2 > clk) (aa : Act) (w : World) (S : Sy w0 [g, h] [h, B, C] (atS g R q0 clk sh) [rfRun g (r :: v :: u :: []), SZ.rfSeen b o R.Q] aa w) : post Tryz.prog (.rnd (n + 1) (bodyL atC) :: atC.k.tail) (bodyPostD Tryz.prog Tryz.f29 (AtPost ((o2, ((l2, some (⟨1, atStatus R.L R.me, 0, 0⟩)) : CSt))) g h R q0 sh w0)) .normal aa w := by
  refine at_rd w0 g h B C hD R hok q0 sh hgh b o hsg n clk _ ([]) { val := v.1, ver := r.1 / 2, ok := true } _ (fun w hR => lr_t w g (atWord R.L R.a) (atVal R.L R.a) r v u ([]) hq hu hR) (fun F0 aa w S => ?_) aa w S
  refine sy_run (c := ⟨atK n, atF g R q0 clk sh _⟩) ⟨0, []⟩ 60 S fun bs aa w S => ?_
  refine dr_enter [0, 1, 2, 3] (by kernel_rfl) (by kernel_rfl) S (by kernel_rfl) fun aa w D => ?_
  refine dr_end D (by kernel_rfl) fun S => ?_
  refine sy_cast 47 S (congrArg Value.bool (decide_eq_false hn : decide (r.1 / 2 > clk) = false)) (by kernel_rfl) fun S => ?_
  refine sy_run ⟨0, []⟩ 60 S fun bs aa w S => ?_
  refine dr_enter [0, 1, 2, 3] (by kernel_rfl) (by kernel_rfl) S (by kernel_rfl) fun aa w D => ?_
  refine dr_any [12] (by kernel_rfl) (by kernel_rfl) rfl (na1 ?_)
  · refine nx_call1 12 D (by kernel_rfl) (status_any R.L R.me w hok) (by kernel_rfl) fun aa w D => ?_
    refine dr_any [13] (by kernel_rfl) (by kernel_rfl) rfl (na1 ?_)
    · exact nx_pan (G := [g]) 13 D ((load_noneG w g (atStatus R.L R.me) (D.S.fact (f := rfRun g ([])) (by simp))).mono fun e w' h => ⟨h.1, gr_gb' h.2⟩) (by kernel_rfl) fun w' hg => (at_pendL hD D.S.df (⟨1, atStatus R.L R.me, 0, 0⟩) fun w'' hb => ⟨rfl, gr_trans (gr_trans D.S.gr hg (by simp)) (gr_bel (r := []) hb) (by simp)⟩)
section
variable (r v u d : Int × Bool) (l : List (Int × Bool)) (hq : ¬ r.1 % 2 = 1) (hu : u.1 = r.1) (hn : ¬ r.1 / 2 > clk)
include r v u d l hq hu hn
set_option maxHeartbeats 8000000 in
theorem at_doom (hk : d.1 % 4 = 3) (aa : Act) (w : World) (S : Sy w0 [g, h] [h, B, C] (atS g R q0 clk sh) [rfRun g (r :: v :: u :: d :: l), SZ.rfSeen b o R.Q] aa w) : post Tryz.prog (.rnd (n + 1) (bodyL atC) :: atC.k.tail) (bodyPostD Tryz.prog Tryz.f29 (AtPost ((({ lost := true } : OutD), (l, none))) g h R q0 sh w0)) .normal aa w := by
  refine at_rd w0 g h B C hD R hok q0 sh hgh b o hsg n clk _ (d :: l) { val := v.1, ver := r.1 / 2, ok := true } _ (fun w hR => lr_t w g (atWord R.L R.a) (atVal R.L R.a) r v u (d :: l) hq hu hR) (fun F0 aa w S => ?_) aa w S
  refine sy_run (c := ⟨atK n, atF g R q0 clk sh _⟩) ⟨0, []⟩ 60 S fun bs aa w S => ?_
  refine dr_enter [0, 1, 2, 3] (by kernel_rfl) (by kernel_rfl) S (by kernel_rfl) fun aa w D => ?_
  refine dr_end D (by kernel_rfl) fun S => ?_
  refine sy_cast 47 S (congrArg Value.bool (decide_eq_false hn : decide (r.1 / 2 > clk) = false)) (by kernel_rfl) fun S => ?_
  refine sy_run ⟨0, []⟩ 60 S fun bs aa w S => ?_
  refine dr_enter [0, 1, 2, 3] (by kernel_rfl) (by kernel_rfl) S (by kernel_rfl) fun aa w D => ?_
  refine dr_any [12] (by kernel_rfl) (by kernel_rfl) rfl (na1 ?_)
  · refine nx_call1 12 D (by kernel_rfl) (status_any R.L R.me w hok) (by kernel_rfl) fun aa w D => ?_
    refine dr_any [13] (by kernel_rfl) (by kernel_rfl) rfl (na1 ?_)
    · refine nx_acc (l' := l) 13 D (Or.inl (by simp)) (by kernel_rfl) (load_some w g d l (atStatus R.L R.me) (D.S.fact (f := rfRun g (d :: l)) (by simp))) (by kernel_rfl) (by intro f hf; simp at hf; subst hf; exact hsg) fun aa w D => ?_
      refine dr_any [14] (by kernel_rfl) (by kernel_rfl) rfl (na1 ?_)
      · refine nx_call1 14 D (by kernel_rfl) (toBelow (kind_any d.1 w)) (by kernel_rfl) fun aa w D => ?_
        refine dr_end D (by kernel_rfl) fun S => ?_
        refine sy_cast 65 S (congrArg Value.bool (decide_eq_true hk : decide (d.1 % 4 = 3) = true)) (by kernel_rfl) fun S => ?_
        refine sy_run ⟨0, []⟩ 60 S fun bs aa w S => ?_
        exact sy_thr S (by kernel_rfl) (at_lostL S hD (by kernel_rfl) (by kernel_rfl) (ys := [.v (OutD.v { lost := true }), .v (.bool true)]) (by kernel_rfl) fun w'' S => ⟨clk, rfl, S.run, S.bx 0 ⟨62, rdC g R q0 clk sh⟩ (by kernel_rfl), S.gr⟩)
set_option maxHeartbeats 8000000 in
theorem at_done (hk : ¬ d.1 % 4 = 3) (aa : Act) (w : World) (S : Sy w0 [g, h] [h, B, C] (atS g R q0 clk sh) [rfRun g (r :: v :: u :: d :: l), SZ.rfSeen b o R.Q] aa w) : post Tryz.prog (.rnd (n + 1) (bodyL atC) :: atC.k.tail) (bodyPostD Tryz.prog Tryz.f29 (AtPost ((({ val := v.1, ver := r.1 / 2, rv := clk, ok := true } : OutD), (l, none))) g h R q0 sh w0)) .normal aa w := by
  refine at_rd w0 g h B C hD R hok q0 sh hgh b o hsg n clk _ (d :: l) { val := v.1, ver := r.1 / 2, ok := true } _ (fun w hR => lr_t w g (atWord R.L R.a) (atVal R.L R.a) r v u (d :: l) hq hu hR) (fun F0 aa w S => ?_) aa w S
  refine sy_run (c := ⟨atK n, atF g R q0 clk sh _⟩) ⟨0, []⟩ 60 S fun bs aa w S => ?_
  refine dr_enter [0, 1, 2, 3] (by kernel_rfl) (by kernel_rfl) S (by kernel_rfl) fun aa w D => ?_
  refine dr_end D (by kernel_rfl) fun S => ?_
  refine sy_cast 47 S (congrArg Value.bool (decide_eq_false hn : decide (r.1 / 2 > clk) = false)) (by kernel_rfl) fun S => ?_
  refine sy_run ⟨0, []⟩ 60 S fun bs aa w S => ?_
  refine dr_enter [0, 1, 2, 3] (by kernel_rfl) (by kernel_rfl) S (by kernel_rfl) fun aa w D => ?_
  refine dr_any [12] (by kernel_rfl) (by kernel_rfl) rfl (na1 ?_)
  · refine nx_call1 12 D (by kernel_rfl) (status_any R.L R.me w hok) (by kernel_rfl) fun aa w D => ?_
    refine dr_any [13] (by kernel_rfl) (by kernel_rfl) rfl (na1 ?_)
    · refine nx_acc (l' := l) 13 D (Or.inl (by simp)) (by kernel_rfl) (load_some w g d l (atStatus R.L R.me) (D.S.fact (f := rfRun g (d :: l)) (by simp))) (by kernel_rfl) (by intro f hf; simp at hf; subst hf; exact hsg) fun aa w D => ?_
      refine dr_any [14] (by kernel_rfl) (by kernel_rfl) rfl (na1 ?_)
      · refine nx_call1 14 D (by kernel_rfl) (toBelow (kind_any d.1 w)) (by kernel_rfl) fun aa w D => ?_
        refine dr_end D (by kernel_rfl) fun S => ?_
        refine sy_cast 65 S (congrArg Value.bool (decide_eq_false hk : decide (d.1 % 4 = 3) = false)) (by kernel_rfl) fun S => ?_
        refine sy_run ⟨0, []⟩ 60 S fun bs aa w S => ?_
        refine dr_enter [0, 3] (by kernel_rfl) (by kernel_rfl) S (by kernel_rfl) fun aa w D => ?_
        refine dr_any [9] (by kernel_rfl) (by kernel_rfl) rfl (na1 ?_)
        · refine nx_op 9 D (by kernel_rfl) (Nat.le_refl _) (by kernel_rfl) (by kernel_rfl) fun bs aa w D hl => ?_
          refine dr_any [10] (by kernel_rfl) (by kernel_rfl) rfl (na1 ?_)
          · refine nx_op 10 D (by kernel_rfl) hl (by kernel_rfl) (by kernel_rfl) fun bs aa w D hl => ?_
            refine dr_end D (by kernel_rfl) fun S => ?_
            refine sy_run ⟨0, []⟩ 60 S fun bs aa w S => ?_
            exact sy_retQ (by kernel_rfl) (fun _ _ h => h) (at_retL hD S (ys := [.v (OutD.v { val := v.1, ver := r.1 / 2, rv := clk, ok := true }), .v (.bool false)]) (by kernel_rfl) ⟨clk, rfl, S.run, S.bx 0 ⟨62, rdC g R q0 clk sh⟩ (by kernel_rfl), S.gr⟩)
end
end
end Go.Proofs.YtfahnmpcclhjlaaGreat

namespace Go.Proofs.YtfahnmpcclhjlaaGreat
open Go Go.RowKit SZ
set_option linter.unusedVariables false
set_option linter.unusedSectionVars false
set_option linter.unusedSimpArgs false
set_option maxRecDepth 100000
attribute [local instance] attKP
attribute [local irreducible] post GD Nxt NxtAll
theorem triedS_eq (R : Rd) (n : Nat) (rv : Int) (l : List (Int × Bool)) : triedS R (n + 1) rv (l, none) = match rd16 R.L R.a (l, none) with
      | (_, (l1, some q)) => ({}, (l1, some q))
      | ((v, ver, who, ok), (l1, none)) => match ok with
        | false => if who ≥ 0 then (match (askS R who (l1, none)).1.lost with
            | true => ({ lost := true }, (askS R who (l1, none)).2)
            | false => triedS R n rv (askS R who (l1, none)).2) else triedS R n rv (l1, none)
        | true => if ver > rv then (match allK R R.Q (cdo (l1, none) ⟨1, R.L.clock, 0, 0⟩).2 with
            | (false, y) => ({ lost := true }, y)
            | (true, y) => triedS R n (cdo (l1, none) ⟨1, R.L.clock, 0, 0⟩).1.1 y)
          else if (cdo (l1, none) ⟨1, atStatus R.L R.me, 0, 0⟩).1.1 % 4 = 3 then ({ lost := true }, (cdo (l1, none) ⟨1, atStatus R.L R.me, 0, 0⟩).2)
          else ({ val := v, ver := ver, rv := rv, ok := true }, (cdo (l1, none) ⟨1, atStatus R.L R.me, 0, 0⟩).2) := rfl
theorem rd_1 (L : Ly) (a : Int) (r : Int × Bool) (hq : ¬ r.1 % 2 = 1) : ∃ X l2, rd16 L a ([r], none) = (X, (l2, some ⟨1, atVal L a, 0, 0⟩)) := by
  rw [show rd16 L a ([r], none) = if r.1 % 2 = 1 then ((0, 0, r.1 / 2, false), ([], none)) else if (0 : Int) = r.1 then ((0, r.1 / 2, -1, true), ([], some ⟨1, atVal L a, 0, 0⟩)) else ((0, 0, -1, false), ([], some ⟨1, atVal L a, 0, 0⟩)) from rfl, if_neg hq]
  by_cases h0 : (0 : Int) = r.1
  · rw [if_pos h0]; exact ⟨_, _, rfl⟩
  · rw [if_neg h0]; exact ⟨_, _, rfl⟩
theorem rd_2 (L : Ly) (a : Int) (r v : Int × Bool) (hq : ¬ r.1 % 2 = 1) : ∃ X l2, rd16 L a ([r, v], none) = (X, (l2, some ⟨1, atWord L a, 0, 0⟩)) := by
  rw [show rd16 L a ([r, v], none) = if r.1 % 2 = 1 then ((0, 0, r.1 / 2, false), ([v], none)) else if (0 : Int) = r.1 then ((v.1, r.1 / 2, -1, true), ([], some ⟨1, atWord L a, 0, 0⟩)) else ((0, 0, -1, false), ([], some ⟨1, atWord L a, 0, 0⟩)) from rfl, if_neg hq]
  by_cases h0 : (0 : Int) = r.1
  · rw [if_pos h0]; exact ⟨_, _, rfl⟩
  · rw [if_neg h0]; exact ⟨_, _, rfl⟩
theorem rd_h (L : Ly) (a : Int) (r : Int × Bool) (l : List (Int × Bool)) (hq : r.1 % 2 = 1) : rd16 L a (r :: l, none) = ((0, 0, r.1 / 2, false), (l, none)) := by
  unfold rd16
  exact if_pos hq
theorem rd_3 (L : Ly) (a : Int) (r v u : Int × Bool) (l : List (Int × Bool)) (hq : ¬ r.1 % 2 = 1) : rd16 L a (r :: v :: u :: l, none) = if u.1 = r.1 then ((v.1, r.1 / 2, -1, true), (l, none)) else ((0, 0, -1, false), (l, none)) := by
  unfold rd16
  exact if_neg hq
set_option maxHeartbeats 8000000 in
theorem at_all [DD : DF] (w0 : World) (g h B C : Nat) (hD : DD.d = attD B C) (R : Rd) (hok : R.L.ok) (q0 : Oq) (sh : Bool) (hgh : g < h) (b o : Nat) (hsg : ¬ (SZ.rfSeen b o R.Q).bl g) (hsh : ¬ (SZ.rfSeen b o R.Q).bl h) (hQ : R.Q.length = q0.sl) (hsa : q0.sl = 0 ∨ q0.sa = some ⟨b, o, none⟩) (hsl : q0.sl ≤ 1000000) (I : List (Int × Bool)) (hI : ∀ x ∈ I, I64 x.1) : ∀ (n : Nat) (clk : Int) (l : List (Int × Bool)), l.length < n → (∀ x ∈ l, x ∈ I) → ∀ (aa : Act) (w : World) (S : Sy w0 [g, h] [h, B, C] (atS g R q0 clk sh) [rfRun g (l), SZ.rfSeen b o R.Q] aa w), post Tryz.prog (.rnd (n) (bodyL atC) :: atC.k.tail) (bodyPostD Tryz.prog Tryz.f29 (AtPost (triedS R n clk (l, none)) g h R q0 sh w0)) .normal aa w := by
  intro n
  induction n with
  | zero => intro clk l h; omega
  | succ n ih =>
    intro clk l hl hm aa w S
    have hh' : ∀ l' : List (Int × Bool), (∀ x ∈ l', x ∈ I) → ∀ who w, RunAt w g l' → w.heap[h]? = some (.cells (rdC g R q0 clk sh).toArray 62 (0, 0)) → Calls Tryz.prog 44 #[.pointer (some ⟨h, 0, none⟩), .int .i64 who] w (HdPost (askS R who (l', none)) g w) := fun l' hs who w hR hw => handle_any w g h R hok q0 clk sh l' hgh who hR hw (fun x hx => hI x (hs x hx))
    rcases l with _ | ⟨r, l⟩
    · obtain ⟨X, e⟩ := rd16_nil R.L R.a
      rw [triedS_eq, e]
      exact at_pn w0 g h B C hD R hok q0 sh hgh b o hsg n clk _ _ [] _ (fun w hR => lr_0 w g _ _ hR) aa w S
    · have hml : ∀ x ∈ l, x ∈ I := fun x hx => hm x (List.mem_cons_of_mem _ hx)
      simp only [List.length_cons] at hl
      by_cases hq : r.1 % 2 = 1
      · rw [triedS_eq, rd_h R.L R.a r l hq]
        simp only
        by_cases hn : r.1 / 2 ≥ 0
        · rw [if_pos hn]
          have hrest := askS_rest R (r.1 / 2) (l, none)
          have hC := hh' l hml (r.1 / 2)
          obtain ⟨⟨o', l', oq⟩, hA⟩ : ∃ A, askS R (r.1 / 2) (l, none) = A := ⟨_, rfl⟩
          rw [hA] at hrest hC ⊢
          simp only at hrest ⊢
          cases oq with
          | some q =>
            cases hlst : o'.lost with
            | true => exact at_hp w0 g h B C hD R hok q0 sh hgh b o hsg n clk r l hq q l' _ hn (fun w hR hw => hC w hR hw) aa w S
            | false =>
              simp only
              rw [triedS_stop]
              exact at_hp w0 g h B C hD R hok q0 sh hgh b o hsg n clk r l hq q l' _ hn (fun w hR hw => hC w hR hw) aa w S
          | none =>
            cases hlst : o'.lost with
            | true => exact at_hl w0 g h B C hD R hok q0 sh hgh b o hsg n clk r l hq l' hn (fun w hR hw => (hC w hR hw).mono fun e w' h => by simpa only [HdPost, hlst] using h) aa w S
            | false =>
              exact at_hg w0 g h B C hD R hok q0 sh hgh b o hsg n clk r l hq l' o'.val hn (fun w hR hw => (hC w hR hw).mono fun e w' h => by simpa only [HdPost, hlst] using h) _ (fun aa w S => ih clk l' (by have := hrest.2; omega) (fun x hx => hml x (hrest.1 x hx)) aa w S) aa w S
        · rw [if_neg hn]
          exact at_neg w0 g h B C hD R hok q0 sh hgh b o hsg n clk r l hq hn _ (fun aa w S => ih clk l (by omega) hml aa w S) aa w S
      · rcases l with _ | ⟨v, l⟩
        · obtain ⟨X, l2, e⟩ := rd_1 R.L R.a r hq
          rw [triedS_eq, e]
          exact at_pn w0 g h B C hD R hok q0 sh hgh b o hsg n clk _ _ [r] _ (fun w hR => lr_1 w g _ _ r hq hR) aa w S
        · rcases l with _ | ⟨u, l⟩
          · obtain ⟨X, l2, e⟩ := rd_2 R.L R.a r v hq
            rw [triedS_eq, e]
            exact at_pn w0 g h B C hD R hok q0 sh hgh b o hsg n clk _ _ [r, v] _ (fun w hR => lr_2 w g _ _ r v hq hR) aa w S
          · have hmk : ∀ x ∈ l, x ∈ I := fun x hx => hml x (List.mem_cons_of_mem _ (List.mem_cons_of_mem _ hx))
            simp only [List.length_cons] at hl
            rw [triedS_eq, rd_3 R.L R.a r v u l hq]
            by_cases hu : u.1 = r.1
            · rw [if_pos hu]
              simp only
              by_cases hn : r.1 / 2 > clk
              · rw [if_pos hn]
                rcases l with _ | ⟨c, l⟩
                · have hst := allK_stop R R.Q [] ⟨1, R.L.clock, 0, 0⟩
                  have hcd : cdo (([] : List (Int × Bool)), none) ⟨1, R.L.clock, 0, 0⟩ = ((0, false), ([], some ⟨1, R.L.clock, 0, 0⟩)) := rfl
                  rw [hcd]
                  simp only
                  obtain ⟨⟨bv, l2, q2⟩, hA⟩ : ∃ A, allK R R.Q (([] : List (Int × Bool)), some ⟨1, R.L.clock, 0, 0⟩) = A := ⟨_, rfl⟩
                  rw [hA] at hst ⊢
                  simp only at hst
                  subst hst
                  have hE : ∀ w, RunAt w g [] → SeenAt w b o R.Q → w.heap[h]? = some (.cells (rdC g R q0 clk sh).toArray 62 (0, 0)) → Calls Tryz.prog 45 #[.pointer (some ⟨h, 0, none⟩)] w fun e w' => e = .panicked (pnd ⟨1, R.L.clock, 0, 0⟩) ∧ w.grownBy w' (some g) := fun w hR hA hw => ext_nil w g h R hok q0 clk sh hgh hw b o hsg hQ hsa hsl hsh hA hR
                  cases bv with
                  | false => exact at_ep w0 g h B C hD R hok q0 sh hgh b o hsg n clk r v u [] hq hu _ l2 _ hn hE aa w S
                  | true =>
                    simp only
                    rw [triedS_stop]
                    exact at_ep w0 g h B C hD R hok q0 sh hgh b o hsg n clk r v u [] hq hu _ l2 _ hn hE aa w S
                · have hcd : cdo (c :: l, none) ⟨1, R.L.clock, 0, 0⟩ = (c, (l, none)) := rfl
                  rw [hcd]
                  simp only
                  have hmc : ∀ x ∈ l, x ∈ I := fun x hx => hmk x (List.mem_cons_of_mem _ hx)
                  simp only [List.length_cons] at hl
                  have hrest := allK_rest R R.Q (l, none)
                  have hE : ∀ w, RunAt w g (c :: l) → SeenAt w b o R.Q → w.heap[h]? = some (.cells (rdC g R q0 clk sh).toArray 62 (0, 0)) → Calls Tryz.prog 45 #[.pointer (some ⟨h, 0, none⟩)] w (ExPost (allK R R.Q (l, none)) c.1 g h R q0 sh w) := fun w hR hA hw => ext_cons w g h R hok q0 clk sh hgh hw b o hsg hQ hsa hsl hsh hA c l (fun x hx => hI x (hmk x hx)) hR
                  obtain ⟨⟨bv, l', oq⟩, hA⟩ : ∃ A, allK R R.Q (l, none) = A := ⟨_, rfl⟩
                  rw [hA] at hrest hE ⊢
                  simp only at hrest
                  cases oq with
                  | some q =>
                    have hE' : ∀ w, RunAt w g (c :: l) → SeenAt w b o R.Q → w.heap[h]? = some (.cells (rdC g R q0 clk sh).toArray 62 (0, 0)) → Calls Tryz.prog 45 #[.pointer (some ⟨h, 0, none⟩)] w fun e w' => e = .panicked (pnd q) ∧ w.grownBy w' (some g) := fun w hR hA hw => (hE w hR hA hw).mono fun e w' h => by cases bv <;> exact h
                    cases bv with
                    | false => exact at_ep w0 g h B C hD R hok q0 sh hgh b o hsg n clk r v u (c :: l) hq hu q l' _ hn hE' aa w S
                    | true =>
                      simp only
                      rw [triedS_stop]
                      exact at_ep w0 g h B C hD R hok q0 sh hgh b o hsg n clk r v u (c :: l) hq hu q l' _ hn hE' aa w S
                  | none =>
                    cases bv with
                    | false => exact at_el w0 g h B C hD R hok q0 sh hgh b o hsg n clk r v u (c :: l) hq hu l' hn (fun w hR hA hw => hE w hR hA hw) aa w S
                    | true => exact at_eg w0 g h B C hD R hok q0 sh hgh b o hsg n clk r v u (c :: l) hq hu l' c.1 hn (fun w hR hA hw => hE w hR hA hw) _ (fun aa w S => ih c.1 l' (by have := hrest.2; omega) (fun x hx => hmc x (hrest.1 x hx)) aa w S) aa w S
              · rw [if_neg hn]
                rcases l with _ | ⟨d, l⟩
                · have hcd : cdo (([] : List (Int × Bool)), none) ⟨1, atStatus R.L R.me, 0, 0⟩ = ((0, false), ([], some ⟨1, atStatus R.L R.me, 0, 0⟩)) := rfl
                  rw [hcd]
                  simp only
                  rw [if_neg (by decide)]
                  exact at_sp w0 g h B C hD R hok q0 sh hgh b o hsg n clk _ _ r v u hq hu hn aa w S
                · have hcd : cdo (d :: l, none) ⟨1, atStatus R.L R.me, 0, 0⟩ = (d, (l, none)) := rfl
                  rw [hcd]
                  simp only
                  by_cases hk : d.1 % 4 = 3
                  · rw [if_pos hk]
                    exact at_doom w0 g h B C hD R hok q0 sh hgh b o hsg n clk r v u d l hq hu hn hk aa w S
                  · rw [if_neg hk]
                    exact at_done w0 g h B C hD R hok q0 sh hgh b o hsg n clk r v u d l hq hu hn hk aa w S
            · rw [if_neg hu]
              simp only
              rw [if_neg (by decide)]
              exact at_f w0 g h B C hD R hok q0 sh hgh b o hsg n clk r v u l hq hu _ (fun aa w S => ih clk l (by omega) hmk aa w S) aa w S
set_option maxHeartbeats 8000000 in
theorem att_any (w0 : World) (g h : Nat) (R : Rd) (hok : R.L.ok) (q0 : Oq) (clk : Int) (sh : Bool) (hgh : g < h) (hh : w0.heap[h]? = some (.cells (rdC g R q0 clk sh).toArray 62 (0, 0))) (b o : Nat) (hsg : ¬ (SZ.rfSeen b o R.Q).bl g) (hsh : ¬ (SZ.rfSeen b o R.Q).bl h) (hQ : R.Q.length = q0.sl) (hsa : q0.sl = 0 ∨ q0.sa = some ⟨b, o, none⟩) (hsl : q0.sl ≤ 1000000) (hA : SeenAt w0 b o R.Q) (l : List (Int × Bool)) (hI : ∀ x ∈ l, I64 x.1) (hR : RunAt w0 g l) :
    Calls Tryz.prog 29 #[.pointer (some ⟨h, 0, none⟩)] w0 (AtPost (triedS R (l.length + 1) clk (l, none)) g h R q0 sh w0) := by
  refine sy_enter1D g h ⟨62, rdC g R q0 clk sh⟩ [.p 0 0] [rfRun g l, SZ.rfSeen b o R.Q] hh ?_ ?_ Tryz.func29 rfl fun aa S => ?_
  · intro x hx
    simp only [List.mem_cons, List.not_mem_nil, or_false] at hx
    subst hx
    exact Nat.succ_pos _
  · intro f hf
    simp only [List.mem_cons, List.not_mem_nil, or_false] at hf
    rcases hf with rfl | rfl
    · exact ⟨hR, fun hb => absurd (show h ≤ g from hb) (by omega)⟩
    · exact ⟨hA, hsh⟩
  refine sy_run ⟨0, []⟩ 60 S fun bs aa w S => ?_
  have hl : ([h] ++ bs).length = 3 := S.bl.trans (by kernel_rfl)
  obtain ⟨B, C, rfl⟩ : ∃ B C, bs = [B, C] := by
    rcases bs with _ | ⟨B, _ | ⟨C, _ | ⟨_, _⟩⟩⟩
    · simp at hl
    · simp at hl
    · exact ⟨B, C, rfl⟩
    · simp at hl
  refine sy_defer (D := ⟨attD B C⟩) (f := 41) (caps := [(1, 0), (2, 0)]) S (by kernel_rfl) rfl fun aa S => ?_
  letI : DF := ⟨attD B C⟩
  refine sy_run ⟨0, []⟩ 60 S fun bs aa w S => ?_
  have S' := S.to [0, 1, 2] (atS g R q0 clk sh) (by kernel_rfl) (by kernel_rfl) (by kernel_rfl) (by kernel_rfl) (by kernel_rfl)
  refine sy_loop (l.length + 1) (by kernel_rfl) ?_
  refine sy_at2 (k' := (.rnd (l.length + 1) (bodyL atC) :: atC.k.tail)) (by kernel_rfl) ?_
  exact at_all w0 g h B C rfl R hok q0 sh hgh b o hsg hsh hQ hsa hsl l hI (l.length + 1) clk l (Nat.lt_succ_self _) (fun x hx => hx) _ _ S'
end Go.Proofs.YtfahnmpcclhjlaaGreat

namespace Go.Proofs.YtfahnmpcclhjlaaGreat
open Go Go.RowKit SZ
set_option linter.unusedVariables false
set_option linter.unusedSectionVars false
set_option linter.unusedSimpArgs false
set_option maxRecDepth 100000
theorem triedS_len (R : Rd) : ∀ (n : Nat) (rv : Int) (x : CSt), (triedS R n rv x).2.1.length ≤ x.1.length
  | 0, _, x => Nat.le_refl _
  | n + 1, rv, (l, some q) => Nat.le_refl _
  | n + 1, rv, (l, none) => by
    have hrest : (rd16 R.L R.a (l, none)).2.1.length ≤ l.length := by
      rcases l with _ | ⟨r, l⟩
      · obtain ⟨X, e⟩ := rd16_nil R.L R.a
        rw [e]
        exact Nat.le_refl _
      · exact Nat.le_trans (rd16_rest R.L R.a r l).2 (by simp)
    simp only [triedS]
    obtain ⟨⟨⟨v, ver, who, ok⟩, l1, q1⟩, hX⟩ : ∃ X, rd16 R.L R.a (l, none) = X := ⟨_, rfl⟩
    rw [hX] at hrest ⊢
    refine Nat.le_trans ?_ hrest
    cases q1 with
    | some q => exact Nat.le_refl _
    | none =>
      cases ok with
      | false =>
        simp only
        split
        · split
          · exact (askS_rest R who (l1, none)).2
          · exact Nat.le_trans (triedS_len R n rv _) (askS_rest R who (l1, none)).2
        · exact triedS_len R n rv _
      | true =>
        simp only
        split
        · have hk := (allK_rest R R.Q (cdo (l1, none) ⟨1, R.L.clock, 0, 0⟩).2).2
          have hc := (cdo_rest (l1, none) ⟨1, R.L.clock, 0, 0⟩).2
          split
          · rename_i y' e
            rw [e] at hk
            exact Nat.le_trans hk hc
          · rename_i y' e
            rw [e] at hk
            exact Nat.le_trans (triedS_len R n _ y') (Nat.le_trans hk hc)
        · split
          · exact (cdo_rest (l1, none) ⟨1, atStatus R.L R.me, 0, 0⟩).2
          · exact (cdo_rest (l1, none) ⟨1, atStatus R.L R.me, 0, 0⟩).2
section
variable (R : Rd) (rv : Int) (nd : Bool) (l : List (Int × Bool)) (sh : Bool) (l1 : List (Int × Bool))
include R rv nd l sh l1
theorem readS_pend (q : Ask) (h : showX R nd l = (sh, (l1, some q))) : readS R rv nd l = ({}, (l1, some q)) := by
  unfold readS
  rw [h]
  simp only
  rw [triedS_stop]
  rfl
theorem readS_go (o' : OutD) (x' : CSt) (h : showX R nd l = (sh, (l1, none))) (hT : triedS R (l1.length + 1) rv (l1, none) = (o', x')) : readS R rv nd l = match o'.lost && sh with | true => (o', outX R x') | false => (o', x') := by
  unfold readS
  rw [h]
  simp only
  rw [hT]
  rfl
end
def pch (tw : Bool) (q : Ask) : List PanicEntry := match tw with
  | true => pnd2 q
  | false => pnd q
def twoS (R : Rd) (rv : Int) (nd : Bool) (l : List (Int × Bool)) : Bool := match showX R nd l with
  | (_, (_, some _)) => false
  | (_, (l1, none)) => (triedS R (l1.length + 1) rv (l1, none)).2.2.isSome
def RunPost (y : OutD × CSt) (tw : Bool) (g h : Nat) (R : Rd) (q0 : Oq) (w : World) (e : Ending) (w' : World) : Prop := match y with
  | (_, (_, some q)) => e = .panicked (pch tw q) ∧ Gr w w' [g, h]
  | (o, (l', none)) => ∃ x : Int × Bool, e = .returned o.v ∧ RunAt w' g l' ∧ w'.heap[h]? = some (.cells (rdC g R q0 x.1 x.2).toArray 62 (0, 0)) ∧ Gr w w' [g, h]
attribute [local irreducible] post GD Nxt NxtAll
section
variable (w0 : World) (g h : Nat) (R : Rd) (hok : R.L.ok) (q0 : Oq) (clk : Int) (hgh : g < h) (hh : w0.heap[h]? = some (.cells (rdC g R q0 clk false).toArray 62 (0, 0))) (b o : Nat) (hsg : ¬ (SZ.rfSeen b o R.Q).bl g) (hsh : ¬ (SZ.rfSeen b o R.Q).bl h) (hQ : R.Q.length = q0.sl) (hsa : q0.sl = 0 ∨ q0.sa = some ⟨b, o, none⟩) (hsl : q0.sl ≤ 1000000) (hA : SeenAt w0 b o R.Q) (l : List (Int × Bool)) (hI : ∀ x ∈ l, I64 x.1) (hR : RunAt w0 g l) (hl : l.length ≤ 1000000) (ht : 0 ≤ R.me ∧ R.me ≤ 61) (hc : decide (atReaders R.L R.a < 0) = false) (hs : decide (atStatus R.L R.me < 0) = false)
include w0 g h R hok q0 clk hgh hh b o hsg hsh hQ hsa hsl hA l hI hR hl ht hc hs
section
variable (hnd : needsV R.L.c.m R.m.a = false) (o' : OutD) (l' : List (Int × Bool))
include hnd o' l'
set_option maxHeartbeats 8000000 in
theorem run_np (q : Ask) (hT : triedS R (l.length + 1) clk (l, none) = (o', (l', some q))) : Calls Tryz.prog 18 #[.pointer (some ⟨h, 0, none⟩)] w0 (RunPost ((o', (l', some q))) true g h R q0 w0) := by
  refine sy_enter1 g h ⟨62, rdC g R q0 clk false⟩ [.p 0 0] [rfRun g l, SZ.rfSeen b o R.Q] hh ?_ ?_ Tryz.func18 rfl rfl fun aa S => ?_
  · intro x hx
    simp only [List.mem_cons, List.not_mem_nil, or_false] at hx
    subst hx
    exact Nat.succ_pos _
  · intro f hf
    simp only [List.mem_cons, List.not_mem_nil, or_false] at hf
    rcases hf with rfl | rfl
    · exact ⟨hR, fun hb => absurd (show h ≤ g from hb) (by omega)⟩
    · exact ⟨hA, hsh⟩
  have hN := fun w => needs_any w R.L R.m.s R.m.k R.m.a
  rw [hnd] at hN
  refine sy_run ⟨0, []⟩ 60 S fun bs aa w S => ?_
  refine dr_enter [0] (by kernel_rfl) (by kernel_rfl) S (by kernel_rfl) fun aa w D => ?_
  refine dr_any [9] (by kernel_rfl) (by kernel_rfl) rfl (na1 ?_)
  · refine nx_call1 9 D (by kernel_rfl) (hN w) (by kernel_rfl) fun aa w D => ?_
    refine dr_end D (by kernel_rfl) fun S => ?_
    refine sy_run ⟨0, []⟩ 60 S fun bs aa w S => ?_
    have e0 := S.bx 0 ⟨62, rdC g R q0 clk false⟩ (by kernel_rfl)
    have hAtt := att_any w g h R hok q0 clk false hgh e0 b o hsg hsh hQ hsa hsl (S.fact (f := SZ.rfSeen b o R.Q) (by simp)) l hI S.run
    rw [hT] at hAtt
    exact sy_panicQ (G := [g, h]) S (hAtt.mono fun e w' h => ⟨h.1, h.2⟩) (by kernel_rfl) fun w' hg => ⟨S.df, rfl, gr_trans S.gr hg (by simp)⟩
set_option maxHeartbeats 8000000 in
theorem run_no (hT : triedS R (l.length + 1) clk (l, none) = (o', (l', none))) (hlst : o'.lost = false) : Calls Tryz.prog 18 #[.pointer (some ⟨h, 0, none⟩)] w0 (RunPost ((o', (l', none))) false g h R q0 w0) := by
  refine sy_enter1 g h ⟨62, rdC g R q0 clk false⟩ [.p 0 0] [rfRun g l, SZ.rfSeen b o R.Q] hh ?_ ?_ Tryz.func18 rfl rfl fun aa S => ?_
  · intro x hx
    simp only [List.mem_cons, List.not_mem_nil, or_false] at hx
    subst hx
    exact Nat.succ_pos _
  · intro f hf
    simp only [List.mem_cons, List.not_mem_nil, or_false] at hf
    rcases hf with rfl | rfl
    · exact ⟨hR, fun hb => absurd (show h ≤ g from hb) (by omega)⟩
    · exact ⟨hA, hsh⟩
  have hN := fun w => needs_any w R.L R.m.s R.m.k R.m.a
  rw [hnd] at hN
  refine sy_run ⟨0, []⟩ 60 S fun bs aa w S => ?_
  refine dr_enter [0] (by kernel_rfl) (by kernel_rfl) S (by kernel_rfl) fun aa w D => ?_
  refine dr_any [9] (by kernel_rfl) (by kernel_rfl) rfl (na1 ?_)
  · refine nx_call1 9 D (by kernel_rfl) (hN w) (by kernel_rfl) fun aa w D => ?_
    refine dr_end D (by kernel_rfl) fun S => ?_
    refine sy_run ⟨0, []⟩ 60 S fun bs aa w S => ?_
    have e0 := S.bx 0 ⟨62, rdC g R q0 clk false⟩ (by kernel_rfl)
    have hAtt := att_any w g h R hok q0 clk false hgh e0 b o hsg hsh hQ hsa hsl (S.fact (f := SZ.rfSeen b o R.Q) (by simp)) l hI S.run
    rw [hT] at hAtt
    have hap := (S.fs _ (by simp : rfRun g l ∈ [rfRun g l, SZ.rfSeen b o R.Q])).2
    refine sy_callX (X := Int) S 0 ⟨62, rdC g R q0 clk false⟩ (fun c => ⟨62, rdC g R q0 c false⟩) [g] (by kernel_rfl) (by intro x hx; simp at hx; subst hx; simp) (v := fun _ => .tuple #[o'.v, .bool false]) (C := fun _ w' => RunAt w' g l') (hAtt.mono fun e w' hx => by obtain ⟨c, h1, h2, h3, h4⟩ := hx; exact ⟨c, by rw [h1, hlst], h2, h3, gr_sub h4 (by intro x hx; simp at hx ⊢; exact hx.symm)⟩) (by kernel_rfl) [SZ.rfSeen b o R.Q] (by intro f hf; simp at hf; subst hf; exact ⟨by simp, by intro x hx; simp at hx; subst hx; exact hsg⟩) (fun j hj he => by simp only [List.mem_singleton] at he; exact hap j hj (by show _ ≤ g; rw [he]; exact Nat.le_refl _)) fun c aa w hR S => ?_
    have S := S.add (rfRun g l') hR hap
    refine sy_run ⟨0, []⟩ 60 S fun bs aa w S => ?_
    exact sy_ret S (by kernel_rfl) (by kernel_rfl) fun hg => ⟨(c, false), rfl, S.run, S.bx 0 ⟨62, rdC g R q0 c false⟩ (by kernel_rfl), hg⟩
set_option maxHeartbeats 8000000 in
theorem run_nl (hT : triedS R (l.length + 1) clk (l, none) = (o', (l', none))) (hlst : o'.lost = true) : Calls Tryz.prog 18 #[.pointer (some ⟨h, 0, none⟩)] w0 (RunPost ((o', (l', none))) false g h R q0 w0) := by
  refine sy_enter1 g h ⟨62, rdC g R q0 clk false⟩ [.p 0 0] [rfRun g l, SZ.rfSeen b o R.Q] hh ?_ ?_ Tryz.func18 rfl rfl fun aa S => ?_
  · intro x hx
    simp only [List.mem_cons, List.not_mem_nil, or_false] at hx
    subst hx
    exact Nat.succ_pos _
  · intro f hf
    simp only [List.mem_cons, List.not_mem_nil, or_false] at hf
    rcases hf with rfl | rfl
    · exact ⟨hR, fun hb => absurd (show h ≤ g from hb) (by omega)⟩
    · exact ⟨hA, hsh⟩
  have hN := fun w => needs_any w R.L R.m.s R.m.k R.m.a
  rw [hnd] at hN
  refine sy_run ⟨0, []⟩ 60 S fun bs aa w S => ?_
  refine dr_enter [0] (by kernel_rfl) (by kernel_rfl) S (by kernel_rfl) fun aa w D => ?_
  refine dr_any [9] (by kernel_rfl) (by kernel_rfl) rfl (na1 ?_)
  · refine nx_call1 9 D (by kernel_rfl) (hN w) (by kernel_rfl) fun aa w D => ?_
    refine dr_end D (by kernel_rfl) fun S => ?_
    refine sy_run ⟨0, []⟩ 60 S fun bs aa w S => ?_
    have e0 := S.bx 0 ⟨62, rdC g R q0 clk false⟩ (by kernel_rfl)
    have hAtt := att_any w g h R hok q0 clk false hgh e0 b o hsg hsh hQ hsa hsl (S.fact (f := SZ.rfSeen b o R.Q) (by simp)) l hI S.run
    rw [hT] at hAtt
    have hap := (S.fs _ (by simp : rfRun g l ∈ [rfRun g l, SZ.rfSeen b o R.Q])).2
    refine sy_callX (X := Int) S 0 ⟨62, rdC g R q0 clk false⟩ (fun c => ⟨62, rdC g R q0 c false⟩) [g] (by kernel_rfl) (by intro x hx; simp at hx; subst hx; simp) (v := fun _ => .tuple #[o'.v, .bool true]) (C := fun _ w' => RunAt w' g l') (hAtt.mono fun e w' hx => by obtain ⟨c, h1, h2, h3, h4⟩ := hx; exact ⟨c, by rw [h1, hlst], h2, h3, gr_sub h4 (by intro x hx; simp at hx ⊢; exact hx.symm)⟩) (by kernel_rfl) [SZ.rfSeen b o R.Q] (by intro f hf; simp at hf; subst hf; exact ⟨by simp, by intro x hx; simp at hx; subst hx; exact hsg⟩) (fun j hj he => by simp only [List.mem_singleton] at he; exact hap j hj (by show _ ≤ g; rw [he]; exact Nat.le_refl _)) fun c aa w hR S => ?_
    have S := S.add (rfRun g l') hR hap
    refine sy_run ⟨0, []⟩ 60 S fun bs aa w S => ?_
    exact sy_ret S (by kernel_rfl) (by kernel_rfl) fun hg => ⟨(c, false), rfl, S.run, S.bx 0 ⟨62, rdC g R q0 c false⟩ (by kernel_rfl), hg⟩
end
section
variable (hnd : needsV R.L.c.m R.m.a = true) (l1 : List (Int × Bool)) (hX : runP (fun m => isIn m R.me) (fun m => withT m R.me) (atReaders R.L R.a) l = (true, (l1, none))) (hI1 : ∀ x ∈ l1, I64 x.1) (o' : OutD) (l' : List (Int × Bool))
include hnd l1 hX hI1 o' l'
set_option maxHeartbeats 8000000 in
theorem run_tp (q : Ask) (hT : triedS R (l1.length + 1) clk (l1, none) = (o', (l', some q))) : Calls Tryz.prog 18 #[.pointer (some ⟨h, 0, none⟩)] w0 (RunPost ((o', (l', some q))) true g h R q0 w0) := by
  refine sy_enter1 g h ⟨62, rdC g R q0 clk false⟩ [.p 0 0] [rfRun g l, SZ.rfSeen b o R.Q] hh ?_ ?_ Tryz.func18 rfl rfl fun aa S => ?_
  · intro x hx
    simp only [List.mem_cons, List.not_mem_nil, or_false] at hx
    subst hx
    exact Nat.succ_pos _
  · intro f hf
    simp only [List.mem_cons, List.not_mem_nil, or_false] at hf
    rcases hf with rfl | rfl
    · exact ⟨hR, fun hb => absurd (show h ≤ g from hb) (by omega)⟩
    · exact ⟨hA, hsh⟩
  have hN := fun w => needs_any w R.L R.m.s R.m.k R.m.a
  rw [hnd] at hN
  refine sy_run ⟨0, []⟩ 60 S fun bs aa w S => ?_
  refine dr_enter [0] (by kernel_rfl) (by kernel_rfl) S (by kernel_rfl) fun aa w D => ?_
  refine dr_any [9] (by kernel_rfl) (by kernel_rfl) rfl (na1 ?_)
  · refine nx_call1 9 D (by kernel_rfl) (hN w) (by kernel_rfl) fun aa w D => ?_
    refine dr_end D (by kernel_rfl) fun S => ?_
    refine sy_run ⟨0, []⟩ 60 S fun bs aa w S => ?_
    have e1 := S.bx 0 ⟨62, rdC g R q0 clk false⟩ (by kernel_rfl)
    have hM := mask_1 w g h R hok q0 clk false l hl hgh hI S.run e1 ht hc hs
    rw [hX] at hM
    refine sy_acc (l' := l1) S (Or.inl (by simp)) (hM.mono fun e w' h => h) (by kernel_rfl) (by intro f hf; simp at hf; subst hf; exact hsg) fun aa w S => ?_
    refine sy_run ⟨0, []⟩ 60 S fun bs aa w S => ?_
    have e0 := S.bx 0 ⟨62, rdC g R q0 clk true⟩ (by kernel_rfl)
    have hAtt := att_any w g h R hok q0 clk true hgh e0 b o hsg hsh hQ hsa hsl (S.fact (f := SZ.rfSeen b o R.Q) (by simp)) l1 hI1 S.run
    rw [hT] at hAtt
    exact sy_panicQ (G := [g, h]) S (hAtt.mono fun e w' h => ⟨h.1, h.2⟩) (by kernel_rfl) fun w' hg => ⟨S.df, rfl, gr_trans S.gr hg (by simp)⟩
section
variable (hT : triedS R (l1.length + 1) clk (l1, none) = (o', (l', none)))
include hT
set_option maxHeartbeats 8000000 in
theorem run_to (hlst : o'.lost = false) : Calls Tryz.prog 18 #[.pointer (some ⟨h, 0, none⟩)] w0 (RunPost ((o', (l', none))) false g h R q0 w0) := by
  refine sy_enter1 g h ⟨62, rdC g R q0 clk false⟩ [.p 0 0] [rfRun g l, SZ.rfSeen b o R.Q] hh ?_ ?_ Tryz.func18 rfl rfl fun aa S => ?_
  · intro x hx
    simp only [List.mem_cons, List.not_mem_nil, or_false] at hx
    subst hx
    exact Nat.succ_pos _
  · intro f hf
    simp only [List.mem_cons, List.not_mem_nil, or_false] at hf
    rcases hf with rfl | rfl
    · exact ⟨hR, fun hb => absurd (show h ≤ g from hb) (by omega)⟩
    · exact ⟨hA, hsh⟩
  have hN := fun w => needs_any w R.L R.m.s R.m.k R.m.a
  rw [hnd] at hN
  refine sy_run ⟨0, []⟩ 60 S fun bs aa w S => ?_
  refine dr_enter [0] (by kernel_rfl) (by kernel_rfl) S (by kernel_rfl) fun aa w D => ?_
  refine dr_any [9] (by kernel_rfl) (by kernel_rfl) rfl (na1 ?_)
  · refine nx_call1 9 D (by kernel_rfl) (hN w) (by kernel_rfl) fun aa w D => ?_
    refine dr_end D (by kernel_rfl) fun S => ?_
    refine sy_run ⟨0, []⟩ 60 S fun bs aa w S => ?_
    have e1 := S.bx 0 ⟨62, rdC g R q0 clk false⟩ (by kernel_rfl)
    have hM := mask_1 w g h R hok q0 clk false l hl hgh hI S.run e1 ht hc hs
    rw [hX] at hM
    refine sy_acc (l' := l1) S (Or.inl (by simp)) (hM.mono fun e w' h => h) (by kernel_rfl) (by intro f hf; simp at hf; subst hf; exact hsg) fun aa w S => ?_
    refine sy_run ⟨0, []⟩ 60 S fun bs aa w S => ?_
    have e0 := S.bx 0 ⟨62, rdC g R q0 clk true⟩ (by kernel_rfl)
    have hAtt := att_any w g h R hok q0 clk true hgh e0 b o hsg hsh hQ hsa hsl (S.fact (f := SZ.rfSeen b o R.Q) (by simp)) l1 hI1 S.run
    rw [hT] at hAtt
    have hap := (S.fs _ (by simp : rfRun g l1 ∈ [rfRun g l1, SZ.rfSeen b o R.Q])).2
    refine sy_callX (X := Int) S 0 ⟨62, rdC g R q0 clk true⟩ (fun c => ⟨62, rdC g R q0 c true⟩) [g] (by kernel_rfl) (by intro x hx; simp at hx; subst hx; simp) (v := fun _ => .tuple #[o'.v, .bool false]) (C := fun _ w' => RunAt w' g l') (hAtt.mono fun e w' hx => by obtain ⟨c, h1, h2, h3, h4⟩ := hx; exact ⟨c, by rw [h1, hlst], h2, h3, gr_sub h4 (by intro x hx; simp at hx ⊢; exact hx.symm)⟩) (by kernel_rfl) [SZ.rfSeen b o R.Q] (by intro f hf; simp at hf; subst hf; exact ⟨by simp, by intro x hx; simp at hx; subst hx; exact hsg⟩) (fun j hj he => by simp only [List.mem_singleton] at he; exact hap j hj (by show _ ≤ g; rw [he]; exact Nat.le_refl _)) fun c aa w hR S => ?_
    have S := S.add (rfRun g l') hR hap
    refine sy_run ⟨0, []⟩ 60 S fun bs aa w S => ?_
    exact sy_ret S (by kernel_rfl) (by kernel_rfl) fun hg => ⟨(c, true), rfl, S.run, S.bx 0 ⟨62, rdC g R q0 c true⟩ (by kernel_rfl), hg⟩
section
variable (hlst : o'.lost = true) (hl' : l'.length ≤ 1000000) (hI' : ∀ x ∈ l', I64 x.1) (z : Bool) (l2 : List (Int × Bool))
include hlst hl' hI' z l2
set_option maxHeartbeats 8000000 in
theorem run_tlp (q : Ask) (hY : runP (fun m => !isIn m R.me) (fun m => sansT m R.me) (atReaders R.L R.a) l' = (z, (l2, some q))) : Calls Tryz.prog 18 #[.pointer (some ⟨h, 0, none⟩)] w0 (RunPost ((o', (l2, some q))) false g h R q0 w0) := by
  refine sy_enter1 g h ⟨62, rdC g R q0 clk false⟩ [.p 0 0] [rfRun g l, SZ.rfSeen b o R.Q] hh ?_ ?_ Tryz.func18 rfl rfl fun aa S => ?_
  · intro x hx
    simp only [List.mem_cons, List.not_mem_nil, or_false] at hx
    subst hx
    exact Nat.succ_pos _
  · intro f hf
    simp only [List.mem_cons, List.not_mem_nil, or_false] at hf
    rcases hf with rfl | rfl
    · exact ⟨hR, fun hb => absurd (show h ≤ g from hb) (by omega)⟩
    · exact ⟨hA, hsh⟩
  have hN := fun w => needs_any w R.L R.m.s R.m.k R.m.a
  rw [hnd] at hN
  refine sy_run ⟨0, []⟩ 60 S fun bs aa w S => ?_
  refine dr_enter [0] (by kernel_rfl) (by kernel_rfl) S (by kernel_rfl) fun aa w D => ?_
  refine dr_any [9] (by kernel_rfl) (by kernel_rfl) rfl (na1 ?_)
  · refine nx_call1 9 D (by kernel_rfl) (hN w) (by kernel_rfl) fun aa w D => ?_
    refine dr_end D (by kernel_rfl) fun S => ?_
    refine sy_run ⟨0, []⟩ 60 S fun bs aa w S => ?_
    have e1 := S.bx 0 ⟨62, rdC g R q0 clk false⟩ (by kernel_rfl)
    have hM := mask_1 w g h R hok q0 clk false l hl hgh hI S.run e1 ht hc hs
    rw [hX] at hM
    refine sy_acc (l' := l1) S (Or.inl (by simp)) (hM.mono fun e w' h => h) (by kernel_rfl) (by intro f hf; simp at hf; subst hf; exact hsg) fun aa w S => ?_
    refine sy_run ⟨0, []⟩ 60 S fun bs aa w S => ?_
    have e0 := S.bx 0 ⟨62, rdC g R q0 clk true⟩ (by kernel_rfl)
    have hAtt := att_any w g h R hok q0 clk true hgh e0 b o hsg hsh hQ hsa hsl (S.fact (f := SZ.rfSeen b o R.Q) (by simp)) l1 hI1 S.run
    rw [hT] at hAtt
    have hap := (S.fs _ (by simp : rfRun g l1 ∈ [rfRun g l1, SZ.rfSeen b o R.Q])).2
    refine sy_callX (X := Int) S 0 ⟨62, rdC g R q0 clk true⟩ (fun c => ⟨62, rdC g R q0 c true⟩) [g] (by kernel_rfl) (by intro x hx; simp at hx; subst hx; simp) (v := fun _ => .tuple #[o'.v, .bool true]) (C := fun _ w' => RunAt w' g l') (hAtt.mono fun e w' hx => by obtain ⟨c, h1, h2, h3, h4⟩ := hx; exact ⟨c, by rw [h1, hlst], h2, h3, gr_sub h4 (by intro x hx; simp at hx ⊢; exact hx.symm)⟩) (by kernel_rfl) [SZ.rfSeen b o R.Q] (by intro f hf; simp at hf; subst hf; exact ⟨by simp, by intro x hx; simp at hx; subst hx; exact hsg⟩) (fun j hj he => by simp only [List.mem_singleton] at he; exact hap j hj (by show _ ≤ g; rw [he]; exact Nat.le_refl _)) fun c aa w hR S => ?_
    have S := S.add (rfRun g l') hR hap
    refine sy_run ⟨0, []⟩ 60 S fun bs aa w S => ?_
    have e2 := S.bx 0 ⟨62, rdC g R q0 c true⟩ (by kernel_rfl)
    have hM := mask_2 w g h R hok q0 c true l' hl' hgh hI' S.run e2 ht hc hs
    rw [hY] at hM
    exact sy_panicQ (G := [g]) S (hM.mono fun e w' h => ⟨h.1, gr_gb' h.2⟩) (by kernel_rfl) fun w' hg => ⟨S.df, rfl, gr_trans S.gr hg (by simp)⟩
set_option maxHeartbeats 8000000 in
theorem run_tl (hY : runP (fun m => !isIn m R.me) (fun m => sansT m R.me) (atReaders R.L R.a) l' = (z, (l2, none))) : Calls Tryz.prog 18 #[.pointer (some ⟨h, 0, none⟩)] w0 (RunPost ((o', (l2, none))) false g h R q0 w0) := by
  refine sy_enter1 g h ⟨62, rdC g R q0 clk false⟩ [.p 0 0] [rfRun g l, SZ.rfSeen b o R.Q] hh ?_ ?_ Tryz.func18 rfl rfl fun aa S => ?_
  · intro x hx
    simp only [List.mem_cons, List.not_mem_nil, or_false] at hx
    subst hx
    exact Nat.succ_pos _
  · intro f hf
    simp only [List.mem_cons, List.not_mem_nil, or_false] at hf
    rcases hf with rfl | rfl
    · exact ⟨hR, fun hb => absurd (show h ≤ g from hb) (by omega)⟩
    · exact ⟨hA, hsh⟩
  have hN := fun w => needs_any w R.L R.m.s R.m.k R.m.a
  rw [hnd] at hN
  refine sy_run ⟨0, []⟩ 60 S fun bs aa w S => ?_
  refine dr_enter [0] (by kernel_rfl) (by kernel_rfl) S (by kernel_rfl) fun aa w D => ?_
  refine dr_any [9] (by kernel_rfl) (by kernel_rfl) rfl (na1 ?_)
  · refine nx_call1 9 D (by kernel_rfl) (hN w) (by kernel_rfl) fun aa w D => ?_
    refine dr_end D (by kernel_rfl) fun S => ?_
    refine sy_run ⟨0, []⟩ 60 S fun bs aa w S => ?_
    have e1 := S.bx 0 ⟨62, rdC g R q0 clk false⟩ (by kernel_rfl)
    have hM := mask_1 w g h R hok q0 clk false l hl hgh hI S.run e1 ht hc hs
    rw [hX] at hM
    refine sy_acc (l' := l1) S (Or.inl (by simp)) (hM.mono fun e w' h => h) (by kernel_rfl) (by intro f hf; simp at hf; subst hf; exact hsg) fun aa w S => ?_
    refine sy_run ⟨0, []⟩ 60 S fun bs aa w S => ?_
    have e0 := S.bx 0 ⟨62, rdC g R q0 clk true⟩ (by kernel_rfl)
    have hAtt := att_any w g h R hok q0 clk true hgh e0 b o hsg hsh hQ hsa hsl (S.fact (f := SZ.rfSeen b o R.Q) (by simp)) l1 hI1 S.run
    rw [hT] at hAtt
    have hap := (S.fs _ (by simp : rfRun g l1 ∈ [rfRun g l1, SZ.rfSeen b o R.Q])).2
    refine sy_callX (X := Int) S 0 ⟨62, rdC g R q0 clk true⟩ (fun c => ⟨62, rdC g R q0 c true⟩) [g] (by kernel_rfl) (by intro x hx; simp at hx; subst hx; simp) (v := fun _ => .tuple #[o'.v, .bool true]) (C := fun _ w' => RunAt w' g l') (hAtt.mono fun e w' hx => by obtain ⟨c, h1, h2, h3, h4⟩ := hx; exact ⟨c, by rw [h1, hlst], h2, h3, gr_sub h4 (by intro x hx; simp at hx ⊢; exact hx.symm)⟩) (by kernel_rfl) [SZ.rfSeen b o R.Q] (by intro f hf; simp at hf; subst hf; exact ⟨by simp, by intro x hx; simp at hx; subst hx; exact hsg⟩) (fun j hj he => by simp only [List.mem_singleton] at he; exact hap j hj (by show _ ≤ g; rw [he]; exact Nat.le_refl _)) fun c aa w hR S => ?_
    have S := S.add (rfRun g l') hR hap
    refine sy_run ⟨0, []⟩ 60 S fun bs aa w S => ?_
    have e2 := S.bx 0 ⟨62, rdC g R q0 c true⟩ (by kernel_rfl)
    have hM := mask_2 w g h R hok q0 c true l' hl' hgh hI' S.run e2 ht hc hs
    rw [hY] at hM
    refine sy_acc (l' := l2) S (Or.inl (by simp)) (hM.mono fun e w' h => h) (by kernel_rfl) (by intro f hf; simp at hf; subst hf; exact hsg) fun aa w S => ?_
    refine sy_run ⟨0, []⟩ 60 S fun bs aa w S => ?_
    exact sy_ret S (by kernel_rfl) (by kernel_rfl) fun hg => ⟨(c, true), rfl, S.run, S.bx 0 ⟨62, rdC g R q0 c true⟩ (by kernel_rfl), hg⟩
end
end
end
section
variable (hnd : needsV R.L.c.m R.m.a = true) (l1 : List (Int × Bool)) (hX : runP (fun m => isIn m R.me) (fun m => withT m R.me) (atReaders R.L R.a) l = (false, (l1, none))) (hI1 : ∀ x ∈ l1, I64 x.1) (o' : OutD) (l' : List (Int × Bool))
include hnd l1 hX hI1 o' l'
set_option maxHeartbeats 8000000 in
theorem run_fp (q : Ask) (hT : triedS R (l1.length + 1) clk (l1, none) = (o', (l', some q))) : Calls Tryz.prog 18 #[.pointer (some ⟨h, 0, none⟩)] w0 (RunPost ((o', (l', some q))) true g h R q0 w0) := by
  refine sy_enter1 g h ⟨62, rdC g R q0 clk false⟩ [.p 0 0] [rfRun g l, SZ.rfSeen b o R.Q] hh ?_ ?_ Tryz.func18 rfl rfl fun aa S => ?_
  · intro x hx
    simp only [List.mem_cons, List.not_mem_nil, or_false] at hx
    subst hx
    exact Nat.succ_pos _
  · intro f hf
    simp only [List.mem_cons, List.not_mem_nil, or_false] at hf
    rcases hf with rfl | rfl
    · exact ⟨hR, fun hb => absurd (show h ≤ g from hb) (by omega)⟩
    · exact ⟨hA, hsh⟩
  have hN := fun w => needs_any w R.L R.m.s R.m.k R.m.a
  rw [hnd] at hN
  refine sy_run ⟨0, []⟩ 60 S fun bs aa w S => ?_
  refine dr_enter [0] (by kernel_rfl) (by kernel_rfl) S (by kernel_rfl) fun aa w D => ?_
  refine dr_any [9] (by kernel_rfl) (by kernel_rfl) rfl (na1 ?_)
  · refine nx_call1 9 D (by kernel_rfl) (hN w) (by kernel_rfl) fun aa w D => ?_
    refine dr_end D (by kernel_rfl) fun S => ?_
    refine sy_run ⟨0, []⟩ 60 S fun bs aa w S => ?_
    have e1 := S.bx 0 ⟨62, rdC g R q0 clk false⟩ (by kernel_rfl)
    have hM := mask_1 w g h R hok q0 clk false l hl hgh hI S.run e1 ht hc hs
    rw [hX] at hM
    refine sy_acc (l' := l1) S (Or.inl (by simp)) (hM.mono fun e w' h => h) (by kernel_rfl) (by intro f hf; simp at hf; subst hf; exact hsg) fun aa w S => ?_
    refine sy_run ⟨0, []⟩ 60 S fun bs aa w S => ?_
    have e0 := S.bx 0 ⟨62, rdC g R q0 clk false⟩ (by kernel_rfl)
    have hAtt := att_any w g h R hok q0 clk false hgh e0 b o hsg hsh hQ hsa hsl (S.fact (f := SZ.rfSeen b o R.Q) (by simp)) l1 hI1 S.run
    rw [hT] at hAtt
    exact sy_panicQ (G := [g, h]) S (hAtt.mono fun e w' h => ⟨h.1, h.2⟩) (by kernel_rfl) fun w' hg => ⟨S.df, rfl, gr_trans S.gr hg (by simp)⟩
set_option maxHeartbeats 8000000 in
theorem run_fo (hT : triedS R (l1.length + 1) clk (l1, none) = (o', (l', none))) (hlst : o'.lost = false) : Calls Tryz.prog 18 #[.pointer (some ⟨h, 0, none⟩)] w0 (RunPost ((o', (l', none))) false g h R q0 w0) := by
  refine sy_enter1 g h ⟨62, rdC g R q0 clk false⟩ [.p 0 0] [rfRun g l, SZ.rfSeen b o R.Q] hh ?_ ?_ Tryz.func18 rfl rfl fun aa S => ?_
  · intro x hx
    simp only [List.mem_cons, List.not_mem_nil, or_false] at hx
    subst hx
    exact Nat.succ_pos _
  · intro f hf
    simp only [List.mem_cons, List.not_mem_nil, or_false] at hf
    rcases hf with rfl | rfl
    · exact ⟨hR, fun hb => absurd (show h ≤ g from hb) (by omega)⟩
    · exact ⟨hA, hsh⟩
  have hN := fun w => needs_any w R.L R.m.s R.m.k R.m.a
  rw [hnd] at hN
  refine sy_run ⟨0, []⟩ 60 S fun bs aa w S => ?_
  refine dr_enter [0] (by kernel_rfl) (by kernel_rfl) S (by kernel_rfl) fun aa w D => ?_
  refine dr_any [9] (by kernel_rfl) (by kernel_rfl) rfl (na1 ?_)
  · refine nx_call1 9 D (by kernel_rfl) (hN w) (by kernel_rfl) fun aa w D => ?_
    refine dr_end D (by kernel_rfl) fun S => ?_
    refine sy_run ⟨0, []⟩ 60 S fun bs aa w S => ?_
    have e1 := S.bx 0 ⟨62, rdC g R q0 clk false⟩ (by kernel_rfl)
    have hM := mask_1 w g h R hok q0 clk false l hl hgh hI S.run e1 ht hc hs
    rw [hX] at hM
    refine sy_acc (l' := l1) S (Or.inl (by simp)) (hM.mono fun e w' h => h) (by kernel_rfl) (by intro f hf; simp at hf; subst hf; exact hsg) fun aa w S => ?_
    refine sy_run ⟨0, []⟩ 60 S fun bs aa w S => ?_
    have e0 := S.bx 0 ⟨62, rdC g R q0 clk false⟩ (by kernel_rfl)
    have hAtt := att_any w g h R hok q0 clk false hgh e0 b o hsg hsh hQ hsa hsl (S.fact (f := SZ.rfSeen b o R.Q) (by simp)) l1 hI1 S.run
    rw [hT] at hAtt
    have hap := (S.fs _ (by simp : rfRun g l1 ∈ [rfRun g l1, SZ.rfSeen b o R.Q])).2
    refine sy_callX (X := Int) S 0 ⟨62, rdC g R q0 clk false⟩ (fun c => ⟨62, rdC g R q0 c false⟩) [g] (by kernel_rfl) (by intro x hx; simp at hx; subst hx; simp) (v := fun _ => .tuple #[o'.v, .bool false]) (C := fun _ w' => RunAt w' g l') (hAtt.mono fun e w' hx => by obtain ⟨c, h1, h2, h3, h4⟩ := hx; exact ⟨c, by rw [h1, hlst], h2, h3, gr_sub h4 (by intro x hx; simp at hx ⊢; exact hx.symm)⟩) (by kernel_rfl) [SZ.rfSeen b o R.Q] (by intro f hf; simp at hf; subst hf; exact ⟨by simp, by intro x hx; simp at hx; subst hx; exact hsg⟩) (fun j hj he => by simp only [List.mem_singleton] at he; exact hap j hj (by show _ ≤ g; rw [he]; exact Nat.le_refl _)) fun c aa w hR S => ?_
    have S := S.add (rfRun g l') hR hap
    refine sy_run ⟨0, []⟩ 60 S fun bs aa w S => ?_
    exact sy_ret S (by kernel_rfl) (by kernel_rfl) fun hg => ⟨(c, false), rfl, S.run, S.bx 0 ⟨62, rdC g R q0 c false⟩ (by kernel_rfl), hg⟩
set_option maxHeartbeats 8000000 in
theorem run_fl (hT : triedS R (l1.length + 1) clk (l1, none) = (o', (l', none))) (hlst : o'.lost = true) : Calls Tryz.prog 18 #[.pointer (some ⟨h, 0, none⟩)] w0 (RunPost ((o', (l', none))) false g h R q0 w0) := by
  refine sy_enter1 g h ⟨62, rdC g R q0 clk false⟩ [.p 0 0] [rfRun g l, SZ.rfSeen b o R.Q] hh ?_ ?_ Tryz.func18 rfl rfl fun aa S => ?_
  · intro x hx
    simp only [List.mem_cons, List.not_mem_nil, or_false] at hx
    subst hx
    exact Nat.succ_pos _
  · intro f hf
    simp only [List.mem_cons, List.not_mem_nil, or_false] at hf
    rcases hf with rfl | rfl
    · exact ⟨hR, fun hb => absurd (show h ≤ g from hb) (by omega)⟩
    · exact ⟨hA, hsh⟩
  have hN := fun w => needs_any w R.L R.m.s R.m.k R.m.a
  rw [hnd] at hN
  refine sy_run ⟨0, []⟩ 60 S fun bs aa w S => ?_
  refine dr_enter [0] (by kernel_rfl) (by kernel_rfl) S (by kernel_rfl) fun aa w D => ?_
  refine dr_any [9] (by kernel_rfl) (by kernel_rfl) rfl (na1 ?_)
  · refine nx_call1 9 D (by kernel_rfl) (hN w) (by kernel_rfl) fun aa w D => ?_
    refine dr_end D (by kernel_rfl) fun S => ?_
    refine sy_run ⟨0, []⟩ 60 S fun bs aa w S => ?_
    have e1 := S.bx 0 ⟨62, rdC g R q0 clk false⟩ (by kernel_rfl)
    have hM := mask_1 w g h R hok q0 clk false l hl hgh hI S.run e1 ht hc hs
    rw [hX] at hM
    refine sy_acc (l' := l1) S (Or.inl (by simp)) (hM.mono fun e w' h => h) (by kernel_rfl) (by intro f hf; simp at hf; subst hf; exact hsg) fun aa w S => ?_
    refine sy_run ⟨0, []⟩ 60 S fun bs aa w S => ?_
    have e0 := S.bx 0 ⟨62, rdC g R q0 clk false⟩ (by kernel_rfl)
    have hAtt := att_any w g h R hok q0 clk false hgh e0 b o hsg hsh hQ hsa hsl (S.fact (f := SZ.rfSeen b o R.Q) (by simp)) l1 hI1 S.run
    rw [hT] at hAtt
    have hap := (S.fs _ (by simp : rfRun g l1 ∈ [rfRun g l1, SZ.rfSeen b o R.Q])).2
    refine sy_callX (X := Int) S 0 ⟨62, rdC g R q0 clk false⟩ (fun c => ⟨62, rdC g R q0 c false⟩) [g] (by kernel_rfl) (by intro x hx; simp at hx; subst hx; simp) (v := fun _ => .tuple #[o'.v, .bool true]) (C := fun _ w' => RunAt w' g l') (hAtt.mono fun e w' hx => by obtain ⟨c, h1, h2, h3, h4⟩ := hx; exact ⟨c, by rw [h1, hlst], h2, h3, gr_sub h4 (by intro x hx; simp at hx ⊢; exact hx.symm)⟩) (by kernel_rfl) [SZ.rfSeen b o R.Q] (by intro f hf; simp at hf; subst hf; exact ⟨by simp, by intro x hx; simp at hx; subst hx; exact hsg⟩) (fun j hj he => by simp only [List.mem_singleton] at he; exact hap j hj (by show _ ≤ g; rw [he]; exact Nat.le_refl _)) fun c aa w hR S => ?_
    have S := S.add (rfRun g l') hR hap
    refine sy_run ⟨0, []⟩ 60 S fun bs aa w S => ?_
    exact sy_ret S (by kernel_rfl) (by kernel_rfl) fun hg => ⟨(c, false), rfl, S.run, S.bx 0 ⟨62, rdC g R q0 c false⟩ (by kernel_rfl), hg⟩
end
set_option maxHeartbeats 8000000 in
theorem run_m (hnd : needsV R.L.c.m R.m.a = true) (z : Bool) (l1 : List (Int × Bool)) (q : Ask) (hX : runP (fun m => isIn m R.me) (fun m => withT m R.me) (atReaders R.L R.a) l = (z, (l1, some q))) : Calls Tryz.prog 18 #[.pointer (some ⟨h, 0, none⟩)] w0 (RunPost ((({} : OutD), (l1, some q))) false g h R q0 w0) := by
  refine sy_enter1 g h ⟨62, rdC g R q0 clk false⟩ [.p 0 0] [rfRun g l, SZ.rfSeen b o R.Q] hh ?_ ?_ Tryz.func18 rfl rfl fun aa S => ?_
  · intro x hx
    simp only [List.mem_cons, List.not_mem_nil, or_false] at hx
    subst hx
    exact Nat.succ_pos _
  · intro f hf
    simp only [List.mem_cons, List.not_mem_nil, or_false] at hf
    rcases hf with rfl | rfl
    · exact ⟨hR, fun hb => absurd (show h ≤ g from hb) (by omega)⟩
    · exact ⟨hA, hsh⟩
  have hN := fun w => needs_any w R.L R.m.s R.m.k R.m.a
  rw [hnd] at hN
  refine sy_run ⟨0, []⟩ 60 S fun bs aa w S => ?_
  refine dr_enter [0] (by kernel_rfl) (by kernel_rfl) S (by kernel_rfl) fun aa w D => ?_
  refine dr_any [9] (by kernel_rfl) (by kernel_rfl) rfl (na1 ?_)
  · refine nx_call1 9 D (by kernel_rfl) (hN w) (by kernel_rfl) fun aa w D => ?_
    refine dr_end D (by kernel_rfl) fun S => ?_
    refine sy_run ⟨0, []⟩ 60 S fun bs aa w S => ?_
    have e1 := S.bx 0 ⟨62, rdC g R q0 clk false⟩ (by kernel_rfl)
    have hM := mask_1 w g h R hok q0 clk false l hl hgh hI S.run e1 ht hc hs
    rw [hX] at hM
    exact sy_panicQ (G := [g]) S (hM.mono fun e w' h => ⟨h.1, gr_gb' h.2⟩) (by kernel_rfl) fun w' hg => ⟨S.df, rfl, gr_trans S.gr hg (by simp)⟩
theorem run_any : Calls Tryz.prog 18 #[.pointer (some ⟨h, 0, none⟩)] w0 (RunPost (readS R clk (needsV R.L.c.m R.m.a) l) (twoS R clk (needsV R.L.c.m R.m.a) l) g h R q0 w0) := by
  cases hnd : needsV R.L.c.m R.m.a with
  | false =>
    obtain ⟨⟨o', l', oq⟩, hT⟩ : ∃ X, triedS R (l.length + 1) clk (l, none) = X := ⟨_, rfl⟩
    rw [readS_go R clk false l false l o' (l', oq) rfl hT, show twoS R clk false l = oq.isSome from by show (triedS R (l.length + 1) clk (l, none)).2.2.isSome = _; rw [hT]]
    rw [Bool.and_false]
    cases oq with
    | some q => exact run_np w0 g h R hok q0 clk hgh hh b o hsg hsh hQ hsa hsl hA l hI hR hl ht hc hs hnd o' l' q hT
    | none =>
      cases hlst : o'.lost with
      | true => exact run_nl w0 g h R hok q0 clk hgh hh b o hsg hsh hQ hsa hsl hA l hI hR hl ht hc hs hnd o' l' hT hlst
      | false => exact run_no w0 g h R hok q0 clk hgh hh b o hsg hsh hQ hsa hsl hA l hI hR hl ht hc hs hnd o' l' hT hlst
  | true =>
    have hrest := runP_rest (has := fun m => isIn m R.me) (ap := fun m => withT m R.me) (atReaders R.L R.a) (l.length + 1) l (by omega)
    obtain ⟨⟨z, l1, oq1⟩, hX⟩ : ∃ X, runP (fun m => isIn m R.me) (fun m => withT m R.me) (atReaders R.L R.a) l = X := ⟨_, rfl⟩
    have hS : showX R true l = (z, (l1, oq1)) := hX
    rw [hX] at hrest
    simp only at hrest
    have hI1 : ∀ x ∈ l1, I64 x.1 := fun x hx => hI x (hrest.1 x hx)
    cases oq1 with
    | some q =>
      rw [readS_pend R clk true l z l1 q hS, show twoS R clk true l = false from by unfold twoS; rw [hS]]
      exact run_m w0 g h R hok q0 clk hgh hh b o hsg hsh hQ hsa hsl hA l hI hR hl ht hc hs hnd z l1 q hX
    | none =>
      have hlen := triedS_len R (l1.length + 1) clk (l1, none)
      have hmem := triedS_rest R (l1.length + 1) clk (l1, none)
      obtain ⟨⟨o', l', oq⟩, hT⟩ : ∃ X, triedS R (l1.length + 1) clk (l1, none) = X := ⟨_, rfl⟩
      rw [hT] at hlen hmem
      simp only at hlen hmem
      rw [readS_go R clk true l z l1 o' (l', oq) hS hT, show twoS R clk true l = oq.isSome from by unfold twoS; rw [hS]; show (triedS R (l1.length + 1) clk (l1, none)).2.2.isSome = _; rw [hT]]
      cases oq with
      | some q =>
        have e : ∀ bb : Bool, (match bb with | true => (o', outX R (l', some q)) | false => (o', (l', some q)) : OutD × CSt) = (o', (l', some q)) := fun bb => by cases bb <;> rfl
        rw [e]
        cases z with
        | true => exact run_tp w0 g h R hok q0 clk hgh hh b o hsg hsh hQ hsa hsl hA l hI hR hl ht hc hs hnd l1 hX hI1 o' l' q hT
        | false => exact run_fp w0 g h R hok q0 clk hgh hh b o hsg hsh hQ hsa hsl hA l hI hR hl ht hc hs hnd l1 hX hI1 o' l' q hT
      | none =>
        cases hlst : o'.lost with
        | false =>
          cases z with
          | true => exact run_to w0 g h R hok q0 clk hgh hh b o hsg hsh hQ hsa hsl hA l hI hR hl ht hc hs hnd l1 hX hI1 o' l' hT hlst
          | false => exact run_fo w0 g h R hok q0 clk hgh hh b o hsg hsh hQ hsa hsl hA l hI hR hl ht hc hs hnd l1 hX hI1 o' l' hT hlst
        | true =>
          cases z with
          | false => exact run_fl w0 g h R hok q0 clk hgh hh b o hsg hsh hQ hsa hsl hA l hI hR hl ht hc hs hnd l1 hX hI1 o' l' hT hlst
          | true =>
            have hl' : l'.length ≤ 1000000 := by have := hrest.2; omega
            have hI' : ∀ x ∈ l', I64 x.1 := fun x hx => hI1 x (hmem x hx)
            show Calls Tryz.prog 18 #[.pointer (some ⟨h, 0, none⟩)] w0 (RunPost (o', (runP (fun m => !isIn m R.me) (fun m => sansT m R.me) (atReaders R.L R.a) l').2) false g h R q0 w0)
            obtain ⟨⟨z2, l2, oq2⟩, hY⟩ : ∃ X, runP (fun m => !isIn m R.me) (fun m => sansT m R.me) (atReaders R.L R.a) l' = X := ⟨_, rfl⟩
            rw [hY]
            cases oq2 with
            | some q => exact run_tlp w0 g h R hok q0 clk hgh hh b o hsg hsh hQ hsa hsl hA l hI hR hl ht hc hs hnd l1 hX hI1 o' l' hT hlst hl' hI' z2 l2 q hY
            | none => exact run_tl w0 g h R hok q0 clk hgh hh b o hsg hsh hQ hsa hsl hA l hI hR hl ht hc hs hnd l1 hX hI1 o' l' hT hlst hl' hI' z2 l2 hY
end
end Go.Proofs.YtfahnmpcclhjlaaGreat

namespace Go.Proofs.YtfahnmpcclhjlaaGreat
open Go Go.RowKit SZ
set_option linter.unusedVariables false
set_option linter.unusedSectionVars false
set_option linter.unusedSimpArgs false
set_option maxRecDepth 100000
def NxPost (y : OutD × CSt) (tw : Bool) (g : Nat) (w : World) (e : Ending) (w' : World) : Prop := match y with
  | (_, (_, some q)) => e = .panicked (pch tw q) ∧ w.grownBy w' (some g)
  | (o, (_, none)) => e = .returned o.v ∧ w.grownBy w' (some g)
theorem gb_ownR {w0 w w' : World} {g h : Nat} (hh : w0.heap.size ≤ h) (G : Gr w0 w [g]) (hg : Gr w w' [g, h]) : w0.grownBy w' (some g) :=
  gb_of_gr1 ⟨hg.os.trans G.os, hg.tape.trans G.tape, hg.output.trans G.output, Nat.le_trans G.size hg.size, fun k hk hn => (hg.block k (Nat.lt_of_lt_of_le hk G.size) (by intro hm; simp at hm hn; omega)).trans (G.block k hk hn)⟩
attribute [local irreducible] post GD Nxt NxtAll
set_option maxHeartbeats 8000000 in
theorem nx1_any (g : Nat) (w0 : World) (b1 b2 b3 : Nat) (R : Rd) (hok : R.L.ok) (q0 : Oq) (b o : Nat) (hsg : ¬ (SZ.rfSeen b o R.Q).bl g) (hQ : R.Q.length = q0.sl) (hsa : q0.sl = 0 ∨ q0.sa = some ⟨b, o, none⟩) (hsl : q0.sl ≤ 1000000) (hA : SeenAt w0 b o R.Q) (l : List (Int × Bool)) (hI : ∀ x ∈ l, I64 x.1) (hR : RunAt w0 g l) (hl : l.length ≤ 1000000) (ht : 0 ≤ R.me ∧ R.me ≤ 61) (hc : decide (atReaders R.L R.a < 0) = false) (hs : decide (atStatus R.L R.me < 0) = false)
    (h1 : w0.heap[b1]? = some (.cells ([.int .i64 R.L.c.t, .int .i64 R.L.c.l, .int .i64 R.L.c.k, .int .i64 R.L.c.s, .int .i64 R.L.c.m, .int .i64 R.L.clock, .int .i64 R.L.stamps, .int .i64 R.L.log, .int .i64 R.L.fin, .int .i64 R.L.thread, .int .i64 R.L.lock, .int .i64 R.L.loc, .int .i64 R.L.size] : List Value).toArray 25 (0, 0))) (h2 : w0.heap[b2]? = some (.cells ([.int .i64 R.me] : List Value).toArray 3 (0, 0))) (h3 : w0.heap[b3]? = some (.cells ([.int .i64 q0.k, .int .i64 R.a, .int .i64 q0.bb, .int .i64 q0.ty, .int .i64 R.m.s, .int .i64 R.m.k, .int .i64 R.m.a, .slice q0.sa q0.sl q0.sc, .slice q0.wa q0.wl q0.wc, .slice q0.da q0.dl q0.dc] : List Value).toArray 32 (0, 0))) :
    Calls Tryz.prog 17 #[.pointer (some ⟨g, 0, none⟩), .pointer (some ⟨b1, 0, none⟩), .pointer (some ⟨b2, 0, none⟩), .pointer (some ⟨b3, 0, none⟩)] w0 (NxPost (readS R q0.bb (needsV R.L.c.m R.m.a) l) (twoS R q0.bb (needsV R.L.c.m R.m.a) l) g w0) := by
  refine sy_enterF [g] [rfRun g l, rfBox b1 25 [.int .i64 R.L.c.t, .int .i64 R.L.c.l, .int .i64 R.L.c.k, .int .i64 R.L.c.s, .int .i64 R.L.c.m, .int .i64 R.L.clock, .int .i64 R.L.stamps, .int .i64 R.L.log, .int .i64 R.L.fin, .int .i64 R.L.thread, .int .i64 R.L.lock, .int .i64 R.L.loc, .int .i64 R.L.size], rfBox b2 3 [.int .i64 R.me], rfBox b3 32 [.int .i64 q0.k, .int .i64 R.a, .int .i64 q0.bb, .int .i64 q0.ty, .int .i64 R.m.s, .int .i64 R.m.k, .int .i64 R.m.a, .slice q0.sa q0.sl q0.sc, .slice q0.wa q0.wl q0.wc, .slice q0.da q0.dl q0.dc], SZ.rfSeen b o R.Q] (by
    intro f hf
    simp only [List.mem_cons, List.not_mem_nil, or_false] at hf
    rcases hf with rfl | rfl | rfl | rfl | rfl
    · exact hR
    · exact h1
    · exact h2
    · exact h3
    · exact hA) Tryz.func17 rfl rfl fun aa S => ?_
  refine sy_run ⟨0, []⟩ 60 S fun bs aa w S => ?_
  refine sy_ldo S (S.ldBox (b := b1) (ty' := 25) (cs := [.int .i64 R.L.c.t, .int .i64 R.L.c.l, .int .i64 R.L.c.k, .int .i64 R.L.c.s, .int .i64 R.L.c.m, .int .i64 R.L.clock, .int .i64 R.L.stamps, .int .i64 R.L.log, .int .i64 R.L.fin, .int .i64 R.L.thread, .int .i64 R.L.lock, .int .i64 R.L.loc, .int .i64 R.L.size]) (o := 0) (ty := 25) (v := R.L.v) (by simp) (by kernel_rfl)) (by kernel_rfl) fun aa S => ?_
  refine sy_run ⟨0, []⟩ 60 S fun bs aa w S => ?_
  refine sy_ldo S (S.ldBox (b := b2) (ty' := 3) (cs := [.int .i64 R.me]) (o := 0) (ty := 3) (v := .int .i64 R.me) (by simp) (by kernel_rfl)) (by kernel_rfl) fun aa S => ?_
  refine sy_run ⟨0, []⟩ 60 S fun bs aa w S => ?_
  refine sy_ldo S (S.ldBox (b := b3) (ty' := 32) (cs := [.int .i64 q0.k, .int .i64 R.a, .int .i64 q0.bb, .int .i64 q0.ty, .int .i64 R.m.s, .int .i64 R.m.k, .int .i64 R.m.a, .slice q0.sa q0.sl q0.sc, .slice q0.wa q0.wl q0.wc, .slice q0.da q0.dl q0.dc]) (o := 0) (ty := 32) (v := .agg #[.int .i64 q0.k, .int .i64 R.a, .int .i64 q0.bb, .int .i64 q0.ty, .int .i64 R.m.s, .int .i64 R.m.k, .int .i64 R.m.a, .slice q0.sa q0.sl q0.sc, .slice q0.wa q0.wl q0.wc, .slice q0.da q0.dl q0.dc]) (by simp) (by kernel_rfl)) (by kernel_rfl) fun aa S => ?_
  refine sy_run ⟨0, []⟩ 60 S fun bs aa w S => ?_
  refine sy_ldo S (S.ldBox (b := b3) (ty' := 32) (cs := [.int .i64 q0.k, .int .i64 R.a, .int .i64 q0.bb, .int .i64 q0.ty, .int .i64 R.m.s, .int .i64 R.m.k, .int .i64 R.m.a, .slice q0.sa q0.sl q0.sc, .slice q0.wa q0.wl q0.wc, .slice q0.da q0.dl q0.dc]) (o := 2) (ty := 3) (v := .int .i64 q0.bb) (by simp) (by kernel_rfl)) (by kernel_rfl) fun aa S => ?_
  refine sy_run ⟨0, []⟩ 60 S fun bs aa w S => ?_
  generalize hBS : (_ ++ bs : List Nat) = BS at S
  have e0 := S.bx 1 ⟨62, rdC g R q0 q0.bb false⟩ (by kernel_rfl)
  have hi : 1 < BS.length := by rw [S.bl.trans ((by kernel_rfl) : _ = 2)]; omega
  have hrf := (S.fs (rfRun g l) (by simp)).2
  have hgh : g < BS.getD 1 0 := Nat.lt_of_not_le (hrf 1 hi)
  have hlo : w0.heap.size ≤ BS.getD 1 0 := by
    rcases S.lo 1 hi with h | h
    · exact h
    · simp only [List.mem_singleton] at h; omega
  have hsh := (S.fs (SZ.rfSeen b o R.Q) (by simp)).2 1 hi
  have hRun := run_any w g (BS.getD 1 0) R hok q0 q0.bb hgh e0 b o hsg hsh hQ hsa hsl (S.fact (f := SZ.rfSeen b o R.Q) (by simp)) l hI (S.fact (f := rfRun g l) (by simp)) hl ht hc hs
  obtain ⟨⟨ov, l', oq⟩, hX⟩ : ∃ X, readS R q0.bb (needsV R.L.c.m R.m.a) l = X := ⟨_, rfl⟩
  rw [hX] at hRun ⊢
  cases oq with
  | some q => exact sy_panicQ (G := [g, BS.getD 1 0]) S (hRun.mono fun e w' h => ⟨h.1, h.2⟩) (by kernel_rfl) fun w' hg => ⟨S.df, rfl, gb_ownR hlo S.gr hg⟩
  | none =>
    refine sy_callX (X := Int × Bool) S 1 ⟨62, rdC g R q0 q0.bb false⟩ (fun x => ⟨62, rdC g R q0 x.1 x.2⟩) [g] (by kernel_rfl) (by intro x hx; simp at hx; subst hx; simp) (v := fun _ => ov.v) (C := fun _ _ => True) (hRun.mono fun e w' hx => by obtain ⟨x, h1, h2, h3, h4⟩ := hx; exact ⟨x, h1, trivial, h3, gr_sub h4 (by intro x hx; simp at hx ⊢; exact hx.symm)⟩) (by kernel_rfl) [] (by simp) (fun j hj he => by simp only [List.mem_singleton] at he; exact hrf j hj (by show _ ≤ g; rw [he]; exact Nat.le_refl _)) fun x aa w _ S => ?_
    refine sy_run ⟨0, []⟩ 60 S fun bs aa w S => ?_
    exact sy_ret S (by kernel_rfl) (by kernel_rfl) fun hg => ⟨rfl, gb_of_gr1 hg⟩
end Go.Proofs.YtfahnmpcclhjlaaGreat

namespace Go.Proofs.YtfahnmpcclhjlaaGreat
open Go Go.RowKit SX
set_option linter.unusedVariables false
set_option linter.unusedSectionVars false
set_option linter.unusedSimpArgs false
set_option maxRecDepth 100000
theorem cellN_ge {e c s f o o2 : Int} (h : 0 ≤ cellN e c s f o) (hf : 0 ≤ f) (ho : 0 ≤ o2) (hs : 0 ≤ s) : 0 ≤ e ∧ e < c ∧ 0 ≤ cellN e c s f o2 := by
  unfold cellN at h ⊢
  by_cases hc : e < 0 ∨ c ≤ e
  · rw [if_pos hc] at h; omega
  · rw [if_neg hc]
    have : 0 ≤ e * s := Int.mul_nonneg (by omega) hs
    omega
theorem view_facts {R : Rd} (hok : R.L.ok) (hct : R.L.c.t ≤ 62) (h1 : ¬ atWord R.L R.a < 0) (h2 : ¬ atStatus R.L R.me < 0) : (0 ≤ R.me ∧ R.me ≤ 61) ∧ decide (atReaders R.L R.a < 0) = false ∧ decide (atStatus R.L R.me < 0) = false := by
  obtain ⟨_, _, _, ht, _, hlo, _, _, _⟩ := hok
  obtain ⟨g1, g2, g3⟩ := cellN_ge (o2 := 0) (show 0 ≤ cellN R.me R.L.c.t 4 R.L.thread 0 by have := h2; unfold atStatus at this; omega) ht (by omega) (by omega)
  obtain ⟨_, _, k3⟩ := cellN_ge (o2 := 2) (show 0 ≤ cellN R.a R.L.c.l 4 R.L.loc 0 by have := h1; unfold atWord at this; omega) hlo (by omega) (by omega)
  exact ⟨by omega, decide_eq_false (by unfold atReaders; omega), decide_eq_false h2⟩
attribute [local irreducible] post GD
section
variable (w : World) (R : Rd) (hok : R.L.ok) (q0 : Oq) (b o : Nat) (hQ : R.Q.length = q0.sl) (hsa : q0.sl = 0 ∨ q0.sa = some ⟨b, o, none⟩) (hsl : q0.sl ≤ 1000000) (v : Value) (l : List (Int × Bool)) (hv : LogOf w v l) (hA : SeenAt w b o R.Q)
include w R hok q0 b o hQ hsa hsl v l hv hA
set_option maxHeartbeats 8000000 in
theorem vn_no (hk : ¬ q0.k = 2) : Calls Tryz.prog 6 #[R.L.v, .int .i64 R.me, .agg #[.int .i64 q0.k, .int .i64 R.a, .int .i64 q0.bb, .int .i64 q0.ty, .int .i64 R.m.s, .int .i64 R.m.k, .int .i64 R.m.a, .slice q0.sa q0.sl q0.sc, .slice q0.wa q0.wl q0.wc, .slice q0.da q0.dl q0.dc], v] w fun e w' => e = .returned (nextV (.inr { err := 1 })) ∧ Below w.heap.size w w' := by
  refine sy_enterF none [rfLog v l, rfSeen b o R.Q] (by
    intro f hf
    simp only [List.mem_cons, List.not_mem_nil, or_false] at hf
    rcases hf with rfl | rfl
    · exact hv
    · exact hA) Tryz.func6 rfl fun aa S => ?_
  refine sy_run ⟨0, [1]⟩ 60 S fun bs aa w S => ?_
  refine sy_reg S fun S => ?_
  refine sy_ops 3 S fun bs aa w S => ?_
  refine sy_cast 13 S (congrArg Value.bool (by simp [hk] : (!decide (q0.k = 2)) = true)) (by kernel_rfl) fun S => ?_
  refine sy_run ⟨0, []⟩ 60 S fun bs aa w S => ?_
  refine sy_call1 S (refuse_any 1 w) (by kernel_rfl) fun aa w2 hb S => ?_
  refine sy_run ⟨0, []⟩ 60 S fun bs aa w S => ?_
  exact sy_ret S (by kernel_rfl) (by kernel_rfl) fun g => ⟨rfl, below_of_gr g⟩
set_option maxHeartbeats 8000000 in
theorem vn_word (hk : q0.k = 2) (h1 : atWord R.L R.a < 0) : Calls Tryz.prog 6 #[R.L.v, .int .i64 R.me, .agg #[.int .i64 q0.k, .int .i64 R.a, .int .i64 q0.bb, .int .i64 q0.ty, .int .i64 R.m.s, .int .i64 R.m.k, .int .i64 R.m.a, .slice q0.sa q0.sl q0.sc, .slice q0.wa q0.wl q0.wc, .slice q0.da q0.dl q0.dc], v] w fun e w' => e = .returned (nextV (.inr { err := 1 })) ∧ Below w.heap.size w w' := by
  refine sy_enterF none [rfLog v l, rfSeen b o R.Q] (by
    intro f hf
    simp only [List.mem_cons, List.not_mem_nil, or_false] at hf
    rcases hf with rfl | rfl
    · exact hv
    · exact hA) Tryz.func6 rfl fun aa S => ?_
  refine sy_run ⟨0, [1]⟩ 60 S fun bs aa w S => ?_
  refine sy_reg S fun S => ?_
  refine sy_ops 3 S fun bs aa w S => ?_
  refine sy_cast 13 S (congrArg Value.bool (by simp [hk] : (!decide (q0.k = 2)) = false)) (by kernel_rfl) fun S => ?_
  refine sy_run ⟨0, []⟩ 60 S fun bs aa w S => ?_
  refine sy_call1 S (word_any R.L R.a w hok) (by kernel_rfl) fun aa w hb S => ?_
  refine sy_ops 1 S fun bs aa w S => ?_
  refine sy_cast 19 S (congrArg Value.bool (decide_eq_true h1 : decide (atWord R.L R.a < 0) = true)) (by kernel_rfl) fun S => ?_
  refine sy_run ⟨0, []⟩ 60 S fun bs aa w S => ?_
  refine sy_call1 S (refuse_any 1 w) (by kernel_rfl) fun aa w2 hb S => ?_
  refine sy_run ⟨0, []⟩ 60 S fun bs aa w S => ?_
  exact sy_ret S (by kernel_rfl) (by kernel_rfl) fun g => ⟨rfl, below_of_gr g⟩
set_option maxHeartbeats 8000000 in
theorem vn_stat (hk : q0.k = 2) (h1 : ¬ atWord R.L R.a < 0) (h2 : atStatus R.L R.me < 0) : Calls Tryz.prog 6 #[R.L.v, .int .i64 R.me, .agg #[.int .i64 q0.k, .int .i64 R.a, .int .i64 q0.bb, .int .i64 q0.ty, .int .i64 R.m.s, .int .i64 R.m.k, .int .i64 R.m.a, .slice q0.sa q0.sl q0.sc, .slice q0.wa q0.wl q0.wc, .slice q0.da q0.dl q0.dc], v] w fun e w' => e = .returned (nextV (.inr { err := 1 })) ∧ Below w.heap.size w w' := by
  refine sy_enterF none [rfLog v l, rfSeen b o R.Q] (by
    intro f hf
    simp only [List.mem_cons, List.not_mem_nil, or_false] at hf
    rcases hf with rfl | rfl
    · exact hv
    · exact hA) Tryz.func6 rfl fun aa S => ?_
  refine sy_run ⟨0, [1]⟩ 60 S fun bs aa w S => ?_
  refine sy_reg S fun S => ?_
  refine sy_ops 3 S fun bs aa w S => ?_
  refine sy_cast 13 S (congrArg Value.bool (by simp [hk] : (!decide (q0.k = 2)) = false)) (by kernel_rfl) fun S => ?_
  refine sy_run ⟨0, []⟩ 60 S fun bs aa w S => ?_
  refine sy_call1 S (word_any R.L R.a w hok) (by kernel_rfl) fun aa w hb S => ?_
  refine sy_ops 1 S fun bs aa w S => ?_
  refine sy_cast 19 S (congrArg Value.bool (decide_eq_false h1 : decide (atWord R.L R.a < 0) = false)) (by kernel_rfl) fun S => ?_
  refine sy_run ⟨0, []⟩ 60 S fun bs aa w S => ?_
  refine sy_call1 S (status_any R.L R.me w hok) (by kernel_rfl) fun aa w hb S => ?_
  refine sy_ops 1 S fun bs aa w S => ?_
  refine sy_cast 25 S (congrArg Value.bool (decide_eq_true h2 : decide (atStatus R.L R.me < 0) = true)) (by kernel_rfl) fun S => ?_
  refine sy_run ⟨0, []⟩ 60 S fun bs aa w S => ?_
  refine sy_call1 S (refuse_any 1 w) (by kernel_rfl) fun aa w2 hb S => ?_
  refine sy_run ⟨0, []⟩ 60 S fun bs aa w S => ?_
  exact sy_ret S (by kernel_rfl) (by kernel_rfl) fun g => ⟨rfl, below_of_gr g⟩
set_option maxHeartbeats 8000000 in
theorem vn_ok (hk : q0.k = 2) (h1 : ¬ atWord R.L R.a < 0) (h2 : ¬ atStatus R.L R.me < 0) (hct : R.L.c.t ≤ 62) (hl : l.length ≤ 1000000) (hI : ∀ x ∈ l, I64 x.1) : Calls Tryz.prog 6 #[R.L.v, .int .i64 R.me, .agg #[.int .i64 q0.k, .int .i64 R.a, .int .i64 q0.bb, .int .i64 q0.ty, .int .i64 R.m.s, .int .i64 R.m.k, .int .i64 R.m.a, .slice q0.sa q0.sl q0.sc, .slice q0.wa q0.wl q0.wc, .slice q0.da q0.dl q0.dc], v] w fun e w' => e = .returned (nextV (toldX (readS R q0.bb (needsV R.L.c.m R.m.a) l))) ∧ Below w.heap.size w w' := by
  obtain ⟨ht, hc, hs⟩ := view_facts hok hct h1 h2
  refine sy_enterF none [rfLog v l, rfSeen b o R.Q] (by
    intro f hf
    simp only [List.mem_cons, List.not_mem_nil, or_false] at hf
    rcases hf with rfl | rfl
    · exact hv
    · exact hA) Tryz.func6 rfl fun aa S => ?_
  refine sy_run ⟨0, [1]⟩ 60 S fun bs aa w S => ?_
  refine sy_reg S fun S => ?_
  refine sy_ops 3 S fun bs aa w S => ?_
  refine sy_cast 13 S (congrArg Value.bool (by simp [hk] : (!decide (q0.k = 2)) = false)) (by kernel_rfl) fun S => ?_
  refine sy_run ⟨0, []⟩ 60 S fun bs aa w S => ?_
  refine sy_call1 S (word_any R.L R.a w hok) (by kernel_rfl) fun aa w hb S => ?_
  refine sy_ops 1 S fun bs aa w S => ?_
  refine sy_cast 19 S (congrArg Value.bool (decide_eq_false h1 : decide (atWord R.L R.a < 0) = false)) (by kernel_rfl) fun S => ?_
  refine sy_run ⟨0, []⟩ 60 S fun bs aa w S => ?_
  refine sy_call1 S (status_any R.L R.me w hok) (by kernel_rfl) fun aa w hb S => ?_
  refine sy_ops 1 S fun bs aa w S => ?_
  refine sy_cast 25 S (congrArg Value.bool (decide_eq_false h2 : decide (atStatus R.L R.me < 0) = false)) (by kernel_rfl) fun S => ?_
  refine sy_run ⟨0, []⟩ 60 S fun bs aa w1 S => ?_
  generalize hBS : (_ ++ bs : List Nat) = BS at S
  have hb0 := S.bx 0 ⟨25, [.int .i64 R.L.c.t, .int .i64 R.L.c.l, .int .i64 R.L.c.k, .int .i64 R.L.c.s, .int .i64 R.L.c.m, .int .i64 R.L.clock, .int .i64 R.L.stamps, .int .i64 R.L.log, .int .i64 R.L.fin, .int .i64 R.L.thread, .int .i64 R.L.lock, .int .i64 R.L.loc, .int .i64 R.L.size]⟩ (by kernel_rfl)
  have hn0 : BS.getD 0 0 < w1.heap.size := (Array.getElem?_eq_some_iff.1 hb0).1
  have hb1 := S.bx 1 ⟨3, [.int .i64 R.me]⟩ (by kernel_rfl)
  have hn1 : BS.getD 1 0 < w1.heap.size := (Array.getElem?_eq_some_iff.1 hb1).1
  have hb2 := S.bx 2 ⟨32, [.int .i64 q0.k, .int .i64 R.a, .int .i64 q0.bb, .int .i64 q0.ty, .int .i64 R.m.s, .int .i64 R.m.k, .int .i64 R.m.a, .slice q0.sa q0.sl q0.sc, .slice q0.wa q0.wl q0.wc, .slice q0.da q0.dl q0.dc]⟩ (by kernel_rfl)
  have hn2 : BS.getD 2 0 < w1.heap.size := (Array.getElem?_eq_some_iff.1 hb2).1
  have hA1 : SeenAt w1 b o R.Q := S.fact (f := rfSeen b o R.Q) (by simp)
  have hF : ∀ w2 g, Below w1.heap.size w1 w2 → w1.heap.size ≤ g → RunAt w2 g l → Calls Tryz.prog 17 #[.pointer (some ⟨g, 0, none⟩), .pointer (some ⟨BS.getD 0 0, 0, none⟩), .pointer (some ⟨BS.getD 1 0, 0, none⟩), .pointer (some ⟨BS.getD 2 0, 0, none⟩)] w2 (NxPost (readS R q0.bb (needsV R.L.c.m R.m.a) l) (twoS R q0.bb (needsV R.L.c.m R.m.a) l) g w2) := fun w2 g hb hg hR => by
    have hA2 : SeenAt w2 b o R.Q := by
      by_cases h0 : R.Q.length = 0
      · intro j hj; omega
      · exact seenAt_st hA1 (hb.block b (World.block_lt_of_cell? w1 _ (hA1 0 (by omega)).1))
    refine nx1_any g w2 _ _ _ R hok q0 b o ?_ hQ hsa hsl hA2 l hI hR hl ht hc hs ((hb.block _ hn0).trans hb0) ((hb.block _ hn1).trans hb1) ((hb.block _ hn2).trans hb2)
    rintro ⟨e, h0⟩
    have := World.block_lt_of_cell? w1 _ (hA1 0 (by omega)).1
    simp only at this
    omega
  obtain ⟨⟨ov, l', oq⟩, hX⟩ : ∃ X, readS R q0.bb (needsV R.L.c.m R.m.a) l = X := ⟨_, rfl⟩
  rw [hX] at hF ⊢
  cases oq with
  | none =>
    refine sy_call1 S (of_c3_ret w1 v l 17 (by intro args w; rfl) (.pointer (some ⟨BS.getD 0 0, 0, none⟩)) (.pointer (some ⟨BS.getD 1 0, 0, none⟩)) (.pointer (some ⟨BS.getD 2 0, 0, none⟩)) ov (S.fact (f := rfLog v l) (by simp)) fun w2 g hb hg hR => hF w2 g hb hg hR) (by kernel_rfl) fun aa w2 hb S => ?_
    refine sy_run ⟨0, []⟩ 60 S fun bs aa w S => ?_
    exact sy_ret S (by kernel_rfl) (by kernel_rfl) fun g => ⟨rfl, below_of_gr g⟩
  | some q =>
    cases htw : twoS R q0.bb (needsV R.L.c.m R.m.a) l with
    | false =>
      rw [htw] at hF
      refine sy_call1 S (of_c3_stop w1 v l 17 (by intro args w; rfl) (.pointer (some ⟨BS.getD 0 0, 0, none⟩)) (.pointer (some ⟨BS.getD 1 0, 0, none⟩)) (.pointer (some ⟨BS.getD 2 0, 0, none⟩)) q (S.fact (f := rfLog v l) (by simp)) fun w2 g hb hg hR => hF w2 g hb hg hR) (by kernel_rfl) fun aa w2 hb S => ?_
      refine sy_run ⟨0, []⟩ 60 S fun bs aa w S => ?_
      exact sy_ret S (by kernel_rfl) (by kernel_rfl) fun g => ⟨rfl, below_of_gr g⟩
    | true =>
      rw [htw] at hF
      refine sy_call1 S (of_c3_stop2 w1 v l 17 (by intro args w; rfl) (.pointer (some ⟨BS.getD 0 0, 0, none⟩)) (.pointer (some ⟨BS.getD 1 0, 0, none⟩)) (.pointer (some ⟨BS.getD 2 0, 0, none⟩)) q (S.fact (f := rfLog v l) (by simp)) fun w2 g hb hg hR => hF w2 g hb hg hR) (by kernel_rfl) fun aa w2 hb S => ?_
      refine sy_run ⟨0, []⟩ 60 S fun bs aa w S => ?_
      exact sy_ret S (by kernel_rfl) (by kernel_rfl) fun g => ⟨rfl, below_of_gr g⟩
theorem vnext_any (hct : R.L.c.t ≤ 62) (hl : l.length ≤ 1000000) (hI : ∀ x ∈ l, I64 x.1) : Calls Tryz.prog 6 #[R.L.v, .int .i64 R.me, .agg #[.int .i64 q0.k, .int .i64 R.a, .int .i64 q0.bb, .int .i64 q0.ty, .int .i64 R.m.s, .int .i64 R.m.k, .int .i64 R.m.a, .slice q0.sa q0.sl q0.sc, .slice q0.wa q0.wl q0.wc, .slice q0.da q0.dl q0.dc], v] w fun e w' => e = .returned (nextV (viewS R q0.k q0.bb l)) ∧ Below w.heap.size w w' := by
  unfold viewS
  by_cases hk : q0.k = 2
  · by_cases h1 : atWord R.L R.a < 0
    · rw [if_neg (by simp [h1])]; exact vn_word w R hok q0 b o hQ hsa hsl v l hv hA hk h1
    · by_cases h2 : atStatus R.L R.me < 0
      · rw [if_neg (by simp [h2])]; exact vn_stat w R hok q0 b o hQ hsa hsl v l hv hA hk h1 h2
      · rw [if_pos ⟨hk, h1, h2⟩]; exact vn_ok w R hok q0 b o hQ hsa hsl v l hv hA hk h1 h2 hct hl hI
  · rw [if_neg (by simp [hk])]; exact vn_no w R hok q0 b o hQ hsa hsl v l hv hA hk
end
end Go.Proofs.YtfahnmpcclhjlaaGreat
