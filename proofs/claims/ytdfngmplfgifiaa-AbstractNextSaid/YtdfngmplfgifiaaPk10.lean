/-
  Merged: AbsA, AbsN, MgrF, AbsG
-/
import Derived.Test.YtdfngmplfgifiaaRows
import Derived.Test.YtdfngmplfgifiaaPk1
import Derived.Test.YtdfngmplfgifiaaPk7
import Derived.Test.YtdfngmplfgifiaaPk8
import Derived.Test.YtdfngmplfgifiaaPk9
import Derived.WalkKit
import Derived.Test.YtdfngmplfgifiaaPk4
import Derived.Test.YtdfngmplfgifiaaPk2
import Derived.Test.YtdfngmplfgifiaaPk5
import Derived.WalkLawsBesides
import Derived.Lib.Hide

/-
  Layer 20: to take an abstract lock, over a run of accesses.
-/
namespace Go.Proofs.Ytdfngmplfgifiaa
open Go Go.RowKit SX
set_option linter.unusedVariables false
set_option maxRecDepth 100000
attribute [local irreducible] post

noncomputable def tkc (L : Ly) (me cell : Int) (g : Nat) (kind a b ty : Int) (m : Ct) (sa wa da : Option Addr) (sl sc wl wc dl dc : Nat) : Cfg := runC Try.prog ⟨0, []⟩ 50 (labC (runC Try.prog ⟨0, []⟩ 50 (aftC (runC Try.prog ⟨0, []⟩ 50 (scoC (runC Try.prog ⟨0, []⟩ 50 (cfg0 Try.f59 #[.pointer (some ⟨g, 0, none⟩), L.v, .int .i64 me, .agg #[.int .i64 kind, .int .i64 a, .int .i64 b, .int .i64 ty, .int .i64 m.s, .int .i64 m.k, .int .i64 m.a, .slice sa sl sc, .slice wa wl wc, .slice da dl dc]])))) (.v (.int .i64 cell)))))
noncomputable def tks (L : Ly) (me cell : Int) (g : Nat) (kind a b ty : Int) (m : Ct) (sa wa da : Option Addr) (sl sc wl wc dl dc : Nat) : SS := ⟨(tkc L me cell g kind a b ty m sa wa da sl sc wl wc dl dc).s.n, [(0, .v (.pointer (some ⟨g, 0, none⟩))), (2, .v (.int .i64 me)), (5, .p 0 0), (7, .p 1 0), (8, .p 2 0), (9, .p 3 0), (10, .v (.int .i64 cell)), (11, .p 4 0)], (tkc L me cell g kind a b ty m sa wa da sl sc wl wc dl dc).s.K⟩
set_option maxHeartbeats 8000000 in
theorem tk_0 (w0 : World) (L : Ly) (hok : L.ok) (me cell : Int) (g : Nat) (kind a b ty : Int) (m : Ct) (sa wa da : Option Addr) (sl sc wl wc dl dc : Nat) (n : Nat)  (bs : List Nat) (aa : Act) (w : World) (hI : ∀ x ∈ ([] : List (Int × Bool)), I64 x.1) (S : Sy w0 (some g) bs (tks L me cell g kind a b ty m sa wa da sl sc wl wc dl dc) [rfRun g ([])] aa w) : post Try.prog (.rnd (n + 1) (bodyL (tkc L me cell g kind a b ty m sa wa da sl sc wl wc dl dc)) :: (tkc L me cell g kind a b ty m sa wa da sl sc wl wc dl dc).k.tail) (bodyPost Try.prog Try.f59 (OpPost ((takeT L me cell m (n + 1)).run []) g w0)) .normal aa w := by
  refine sy_run (c := ⟨(.rnd (n + 1) (bodyL (tkc L me cell g kind a b ty m sa wa da sl sc wl wc dl dc)) :: (tkc L me cell g kind a b ty m sa wa da sl sc wl wc dl dc).k.tail), (tks L me cell g kind a b ty m sa wa da sl sc wl wc dl dc)⟩) ⟨0, []⟩ 60 S fun bs aa w S => ?_
  exact sy_panic S ((load_none w g cell S.run).mono fun e w' h => ⟨h.1, gb_of_below _ h.2⟩) (by kernel_rfl) fun w' hg => ⟨rfl, hg⟩
set_option maxHeartbeats 8000000 in
theorem tk_me (w0 : World) (L : Ly) (hok : L.ok) (me cell : Int) (g : Nat) (kind a b ty : Int) (m : Ct) (sa wa da : Option Addr) (sl sc wl wc dl dc : Nat) (n : Nat) (r : Int × Bool) (l : List (Int × Bool)) (h1 : r.1 = IntKind.i64.wrap (me + 1)) (bs : List Nat) (aa : Act) (w : World) (hI : ∀ x ∈ (r :: l : List (Int × Bool)), I64 x.1) (S : Sy w0 (some g) bs (tks L me cell g kind a b ty m sa wa da sl sc wl wc dl dc) [rfRun g (r :: l)] aa w) : post Try.prog (.rnd (n + 1) (bodyL (tkc L me cell g kind a b ty m sa wa da sl sc wl wc dl dc)) :: (tkc L me cell g kind a b ty m sa wa da sl sc wl wc dl dc).k.tail) (bodyPost Try.prog Try.f59 (OpPost ((takeT L me cell m (n + 1)).run (r :: l)) g w0)) .normal aa w := by
  have e : (takeT L me cell m (n + 1)).run (r :: l) = .inr { ok := true } := by unfold takeT; rw [trun_ask, if_pos h1, trun_ret]
  refine sy_run (c := ⟨(.rnd (n + 1) (bodyL (tkc L me cell g kind a b ty m sa wa da sl sc wl wc dl dc)) :: (tkc L me cell g kind a b ty m sa wa da sl sc wl wc dl dc).k.tail), (tks L me cell g kind a b ty m sa wa da sl sc wl wc dl dc)⟩) ⟨0, []⟩ 60 S fun bs aa w S => ?_
  refine sy_acc S (Or.inl rfl) (load_some w g r l cell S.run) (by kernel_rfl) (by simp) fun aa w S => ?_
  refine sy_run ⟨0, [10]⟩ 60 S fun bs aa w S => ?_
  refine sy_reg S fun S => ?_
  refine sy_ops 5 S fun bs aa w S => ?_
  refine sy_cond true S (decide_eq_true h1 : decide (r.1 = IntKind.i64.wrap (me + 1)) = true) (by kernel_rfl) fun S => ?_
  refine sy_run ⟨0, []⟩ 60 S fun bs aa w S => ?_
  exact sy_ret S (by kernel_rfl) (by kernel_rfl) fun hg => by rw [e]; exact ⟨rfl, hg⟩
set_option maxHeartbeats 8000000 in
theorem tk_c0 (w0 : World) (L : Ly) (hok : L.ok) (me cell : Int) (g : Nat) (kind a b ty : Int) (m : Ct) (sa wa da : Option Addr) (sl sc wl wc dl dc : Nat) (n : Nat) (r : Int × Bool) (h1 : ¬ r.1 = IntKind.i64.wrap (me + 1)) (h2 : r.1 = 0) (bs : List Nat) (aa : Act) (w : World) (hI : ∀ x ∈ ([r] : List (Int × Bool)), I64 x.1) (S : Sy w0 (some g) bs (tks L me cell g kind a b ty m sa wa da sl sc wl wc dl dc) [rfRun g ([r])] aa w) : post Try.prog (.rnd (n + 1) (bodyL (tkc L me cell g kind a b ty m sa wa da sl sc wl wc dl dc)) :: (tkc L me cell g kind a b ty m sa wa da sl sc wl wc dl dc).k.tail) (bodyPost Try.prog Try.f59 (OpPost ((takeT L me cell m (n + 1)).run [r]) g w0)) .normal aa w := by
  have e : (takeT L me cell m (n + 1)).run [r] = .inl ⟨3, cell, 0, IntKind.i64.wrap (me + 1)⟩ := by unfold takeT; rw [trun_ask, if_neg h1, if_pos h2]; rfl
  refine sy_run (c := ⟨(.rnd (n + 1) (bodyL (tkc L me cell g kind a b ty m sa wa da sl sc wl wc dl dc)) :: (tkc L me cell g kind a b ty m sa wa da sl sc wl wc dl dc).k.tail), (tks L me cell g kind a b ty m sa wa da sl sc wl wc dl dc)⟩) ⟨0, []⟩ 60 S fun bs aa w S => ?_
  refine sy_acc S (Or.inl rfl) (load_some w g r [] cell S.run) (by kernel_rfl) (by simp) fun aa w S => ?_
  refine sy_run ⟨0, [10]⟩ 60 S fun bs aa w S => ?_
  refine sy_reg S fun S => ?_
  refine sy_ops 5 S fun bs aa w S => ?_
  refine sy_cond false S (decide_eq_false h1 : decide (r.1 = IntKind.i64.wrap (me + 1)) = false) (by kernel_rfl) fun S => ?_
  refine sy_run ⟨0, [12]⟩ 60 S fun bs aa w S => ?_
  refine sy_reg S fun S => ?_
  refine sy_ops 3 S fun bs aa w S => ?_
  refine sy_cond true S (decide_eq_true h2 : decide (r.1 = 0) = true) (by kernel_rfl) fun S => ?_
  refine sy_run ⟨0, []⟩ 60 S fun bs aa w S => ?_
  exact sy_panic S ((swap_none w g cell 0 (IntKind.i64.wrap (me + 1)) S.run).mono fun e w' h => ⟨h.1, gb_of_below _ h.2⟩) (by kernel_rfl) fun w' hg => by rw [e]; exact ⟨rfl, hg⟩
set_option maxHeartbeats 8000000 in
theorem tk_ct (w0 : World) (L : Ly) (hok : L.ok) (me cell : Int) (g : Nat) (kind a b ty : Int) (m : Ct) (sa wa da : Option Addr) (sl sc wl wc dl dc : Nat) (n : Nat) (r : Int × Bool) (y : Int) (l : List (Int × Bool)) (hl : l.length < n) (h1 : ¬ r.1 = IntKind.i64.wrap (me + 1)) (h2 : r.1 = 0) (bs : List Nat) (aa : Act) (w : World) (hI : ∀ x ∈ (r :: (y, true) :: l : List (Int × Bool)), I64 x.1) (S : Sy w0 (some g) bs (tks L me cell g kind a b ty m sa wa da sl sc wl wc dl dc) [rfRun g (r :: (y, true) :: l)] aa w) : post Try.prog (.rnd (n + 1) (bodyL (tkc L me cell g kind a b ty m sa wa da sl sc wl wc dl dc)) :: (tkc L me cell g kind a b ty m sa wa da sl sc wl wc dl dc).k.tail) (bodyPost Try.prog Try.f59 (OpPost ((takeT L me cell m (n + 1)).run (r :: (y, true) :: l)) g w0)) .normal aa w := by
  have e : (takeT L me cell m (n + 1)).run (r :: (y, true) :: l) = .inr { ok := true } := by unfold takeT; rw [trun_ask, if_neg h1, if_pos h2, trun_ask, if_pos rfl, trun_ret]
  refine sy_run (c := ⟨(.rnd (n + 1) (bodyL (tkc L me cell g kind a b ty m sa wa da sl sc wl wc dl dc)) :: (tkc L me cell g kind a b ty m sa wa da sl sc wl wc dl dc).k.tail), (tks L me cell g kind a b ty m sa wa da sl sc wl wc dl dc)⟩) ⟨0, []⟩ 60 S fun bs aa w S => ?_
  refine sy_acc S (Or.inl rfl) (load_some w g r ((y, true) :: l) cell S.run) (by kernel_rfl) (by simp) fun aa w S => ?_
  refine sy_run ⟨0, [10]⟩ 60 S fun bs aa w S => ?_
  refine sy_reg S fun S => ?_
  refine sy_ops 5 S fun bs aa w S => ?_
  refine sy_cond false S (decide_eq_false h1 : decide (r.1 = IntKind.i64.wrap (me + 1)) = false) (by kernel_rfl) fun S => ?_
  refine sy_run ⟨0, [12]⟩ 60 S fun bs aa w S => ?_
  refine sy_reg S fun S => ?_
  refine sy_ops 3 S fun bs aa w S => ?_
  refine sy_cond true S (decide_eq_true h2 : decide (r.1 = 0) = true) (by kernel_rfl) fun S => ?_
  refine sy_run ⟨0, []⟩ 60 S fun bs aa w S => ?_
  refine sy_acc S (Or.inl rfl) (swap_some w g (y, true) l cell 0 (IntKind.i64.wrap (me + 1)) S.run) (by kernel_rfl) (by simp) fun aa w S => ?_
  refine sy_run ⟨0, []⟩ 60 S fun bs aa w S => ?_
  exact sy_ret S (by kernel_rfl) (by kernel_rfl) fun hg => by rw [e]; exact ⟨rfl, hg⟩
set_option maxHeartbeats 8000000 in
theorem tk_cf (w0 : World) (L : Ly) (hok : L.ok) (me cell : Int) (g : Nat) (kind a b ty : Int) (m : Ct) (sa wa da : Option Addr) (sl sc wl wc dl dc : Nat) (n : Nat) (r : Int × Bool) (y : Int) (l : List (Int × Bool)) (hl : l.length < n) (h1 : ¬ r.1 = IntKind.i64.wrap (me + 1)) (h2 : r.1 = 0) (ih : ∀ (l : List (Int × Bool)) (bs : List Nat) (aa : Act) (w : World), l.length < n → (∀ x ∈ l, I64 x.1) → Sy w0 (some g) bs (tks L me cell g kind a b ty m sa wa da sl sc wl wc dl dc) [rfRun g l] aa w → post Try.prog (.rnd n (bodyL (tkc L me cell g kind a b ty m sa wa da sl sc wl wc dl dc)) :: (tkc L me cell g kind a b ty m sa wa da sl sc wl wc dl dc).k.tail) (bodyPost Try.prog Try.f59 (OpPost ((takeT L me cell m n).run l) g w0)) .normal aa w) (bs : List Nat) (aa : Act) (w : World) (hI : ∀ x ∈ (r :: (y, false) :: l : List (Int × Bool)), I64 x.1) (S : Sy w0 (some g) bs (tks L me cell g kind a b ty m sa wa da sl sc wl wc dl dc) [rfRun g (r :: (y, false) :: l)] aa w) : post Try.prog (.rnd (n + 1) (bodyL (tkc L me cell g kind a b ty m sa wa da sl sc wl wc dl dc)) :: (tkc L me cell g kind a b ty m sa wa da sl sc wl wc dl dc).k.tail) (bodyPost Try.prog Try.f59 (OpPost ((takeT L me cell m (n + 1)).run (r :: (y, false) :: l)) g w0)) .normal aa w := by
  have e : (takeT L me cell m (n + 1)).run (r :: (y, false) :: l) = (takeT L me cell m n).run l := by rw [takeT, trun_ask, if_neg h1, if_pos h2, trun_ask, if_neg (fun h => by cases h)]
  rw [e]
  refine sy_run (c := ⟨(.rnd (n + 1) (bodyL (tkc L me cell g kind a b ty m sa wa da sl sc wl wc dl dc)) :: (tkc L me cell g kind a b ty m sa wa da sl sc wl wc dl dc).k.tail), (tks L me cell g kind a b ty m sa wa da sl sc wl wc dl dc)⟩) ⟨0, []⟩ 60 S fun bs aa w S => ?_
  refine sy_acc S (Or.inl rfl) (load_some w g r ((y, false) :: l) cell S.run) (by kernel_rfl) (by simp) fun aa w S => ?_
  refine sy_run ⟨0, [10]⟩ 60 S fun bs aa w S => ?_
  refine sy_reg S fun S => ?_
  refine sy_ops 5 S fun bs aa w S => ?_
  refine sy_cond false S (decide_eq_false h1 : decide (r.1 = IntKind.i64.wrap (me + 1)) = false) (by kernel_rfl) fun S => ?_
  refine sy_run ⟨0, [12]⟩ 60 S fun bs aa w S => ?_
  refine sy_reg S fun S => ?_
  refine sy_ops 3 S fun bs aa w S => ?_
  refine sy_cond true S (decide_eq_true h2 : decide (r.1 = 0) = true) (by kernel_rfl) fun S => ?_
  refine sy_run ⟨0, []⟩ 60 S fun bs aa w S => ?_
  refine sy_acc S (Or.inl rfl) (swap_some w g (y, false) l cell 0 (IntKind.i64.wrap (me + 1)) S.run) (by kernel_rfl) (by simp) fun aa w S => ?_
  refine sy_run ⟨0, [999]⟩ 60 S fun bs aa w S => ?_
  have S' := S.to [0, 1, 2, 3, 4] (tks L me cell g kind a b ty m sa wa da sl sc wl wc dl dc) (by kernel_rfl) (by kernel_rfl) (by kernel_rfl) (by kernel_rfl) (by kernel_rfl)
  refine sy_at (k := .rnd n (bodyL (tkc L me cell g kind a b ty m sa wa da sl sc wl wc dl dc)) :: (tkc L me cell g kind a b ty m sa wa da sl sc wl wc dl dc).k.tail) (by kernel_rfl) ?_
  exact ih l _ aa w hl (fun x hx => hI x (by simp [hx])) S'
set_option maxHeartbeats 8000000 in
theorem tk_rp (w0 : World) (L : Ly) (hok : L.ok) (me cell : Int) (g : Nat) (kind a b ty : Int) (m : Ct) (sa wa da : Option Addr) (sl sc wl wc dl dc : Nat) (n : Nat) (r : Int × Bool) (l : List (Int × Bool)) (h1 : ¬ r.1 = IntKind.i64.wrap (me + 1)) (h2 : ¬ r.1 = 0) (q : Ask) (hq : (resolveT L me (IntKind.i64.wrap (r.1 - 1)) true m).run l = .inl q) (bs : List Nat) (aa : Act) (w : World) (hI : ∀ x ∈ (r :: l : List (Int × Bool)), I64 x.1) (S : Sy w0 (some g) bs (tks L me cell g kind a b ty m sa wa da sl sc wl wc dl dc) [rfRun g (r :: l)] aa w) : post Try.prog (.rnd (n + 1) (bodyL (tkc L me cell g kind a b ty m sa wa da sl sc wl wc dl dc)) :: (tkc L me cell g kind a b ty m sa wa da sl sc wl wc dl dc).k.tail) (bodyPost Try.prog Try.f59 (OpPost ((takeT L me cell m (n + 1)).run (r :: l)) g w0)) .normal aa w := by
  have e : (takeT L me cell m (n + 1)).run (r :: l) = .inl q := by unfold takeT; rw [trun_ask, if_neg h1, if_neg h2, run_bind, hq]
  refine sy_run (c := ⟨(.rnd (n + 1) (bodyL (tkc L me cell g kind a b ty m sa wa da sl sc wl wc dl dc)) :: (tkc L me cell g kind a b ty m sa wa da sl sc wl wc dl dc).k.tail), (tks L me cell g kind a b ty m sa wa da sl sc wl wc dl dc)⟩) ⟨0, []⟩ 60 S fun bs aa w S => ?_
  refine sy_acc S (Or.inl rfl) (load_some w g r l cell S.run) (by kernel_rfl) (by simp) fun aa w S => ?_
  refine sy_run ⟨0, [10]⟩ 60 S fun bs aa w S => ?_
  refine sy_reg S fun S => ?_
  refine sy_ops 5 S fun bs aa w S => ?_
  refine sy_cond false S (decide_eq_false h1 : decide (r.1 = IntKind.i64.wrap (me + 1)) = false) (by kernel_rfl) fun S => ?_
  refine sy_run ⟨0, [12]⟩ 60 S fun bs aa w S => ?_
  refine sy_reg S fun S => ?_
  refine sy_ops 3 S fun bs aa w S => ?_
  refine sy_cond false S (decide_eq_false h2 : decide (r.1 = 0) = false) (by kernel_rfl) fun S => ?_
  refine sy_run ⟨0, []⟩ 60 S fun bs aa w S => ?_
  exact sy_panic S ((resolveR_any w g L hok me (IntKind.i64.wrap (r.1 - 1)) m l S.run (fun x hx => hI x (by simp [hx]))).mono fun e w' h => by rw [hq] at h; exact ⟨h.1.1, h.1.2⟩) (by kernel_rfl) fun w' hg => by rw [e]; exact ⟨rfl, hg⟩
set_option maxHeartbeats 8000000 in
theorem tk_r0 (w0 : World) (L : Ly) (hok : L.ok) (me cell : Int) (g : Nat) (kind a b ty : Int) (m : Ct) (sa wa da : Option Addr) (sl sc wl wc dl dc : Nat) (n : Nat) (r : Int × Bool) (l : List (Int × Bool)) (hl : l.length < n) (h1 : ¬ r.1 = IntKind.i64.wrap (me + 1)) (h2 : ¬ r.1 = 0) (hq : (resolveT L me (IntKind.i64.wrap (r.1 - 1)) true m).run l = .inr {}) (ih : ∀ (l : List (Int × Bool)) (bs : List Nat) (aa : Act) (w : World), l.length < n → (∀ x ∈ l, I64 x.1) → Sy w0 (some g) bs (tks L me cell g kind a b ty m sa wa da sl sc wl wc dl dc) [rfRun g l] aa w → post Try.prog (.rnd n (bodyL (tkc L me cell g kind a b ty m sa wa da sl sc wl wc dl dc)) :: (tkc L me cell g kind a b ty m sa wa da sl sc wl wc dl dc).k.tail) (bodyPost Try.prog Try.f59 (OpPost ((takeT L me cell m n).run l) g w0)) .normal aa w) (bs : List Nat) (aa : Act) (w : World) (hI : ∀ x ∈ (r :: l : List (Int × Bool)), I64 x.1) (S : Sy w0 (some g) bs (tks L me cell g kind a b ty m sa wa da sl sc wl wc dl dc) [rfRun g (r :: l)] aa w) : post Try.prog (.rnd (n + 1) (bodyL (tkc L me cell g kind a b ty m sa wa da sl sc wl wc dl dc)) :: (tkc L me cell g kind a b ty m sa wa da sl sc wl wc dl dc).k.tail) (bodyPost Try.prog Try.f59 (OpPost ((takeT L me cell m (n + 1)).run (r :: l)) g w0)) .normal aa w := by
  have e : (takeT L me cell m (n + 1)).run (r :: l) = (takeT L me cell m n).run ((resolveT L me (IntKind.i64.wrap (r.1 - 1)) true m).rest l) := by rw [takeT, trun_ask, if_neg h1, if_neg h2, run_bind, hq]; simp
  rw [e]
  refine sy_run (c := ⟨(.rnd (n + 1) (bodyL (tkc L me cell g kind a b ty m sa wa da sl sc wl wc dl dc)) :: (tkc L me cell g kind a b ty m sa wa da sl sc wl wc dl dc).k.tail), (tks L me cell g kind a b ty m sa wa da sl sc wl wc dl dc)⟩) ⟨0, []⟩ 60 S fun bs aa w S => ?_
  refine sy_acc S (Or.inl rfl) (load_some w g r l cell S.run) (by kernel_rfl) (by simp) fun aa w S => ?_
  refine sy_run ⟨0, [10]⟩ 60 S fun bs aa w S => ?_
  refine sy_reg S fun S => ?_
  refine sy_ops 5 S fun bs aa w S => ?_
  refine sy_cond false S (decide_eq_false h1 : decide (r.1 = IntKind.i64.wrap (me + 1)) = false) (by kernel_rfl) fun S => ?_
  refine sy_run ⟨0, [12]⟩ 60 S fun bs aa w S => ?_
  refine sy_reg S fun S => ?_
  refine sy_ops 3 S fun bs aa w S => ?_
  refine sy_cond false S (decide_eq_false h2 : decide (r.1 = 0) = false) (by kernel_rfl) fun S => ?_
  refine sy_run ⟨0, []⟩ 60 S fun bs aa w S => ?_
  refine sy_acc (l' := (resolveT L me (IntKind.i64.wrap (r.1 - 1)) true m).rest l) (v := ({} : OutD).v) S (Or.inl rfl) ((resolveR_any w g L hok me (IntKind.i64.wrap (r.1 - 1)) m l S.run (fun x hx => hI x (by simp [hx]))).mono fun e w' h => by rw [hq] at h; exact ⟨h.1.1, h.2 _ rfl, h.1.2⟩) (by kernel_rfl) (by simp) fun aa w S => ?_
  refine sy_run ⟨0, []⟩ 60 S fun bs aa w S => ?_
  refine sy_idx S fun aa S => ?_
  refine sy_run ⟨0, [999]⟩ 60 S fun bs aa w S => ?_
  have S' := S.to [0, 1, 2, 3, 4] (tks L me cell g kind a b ty m sa wa da sl sc wl wc dl dc) (by kernel_rfl) (by kernel_rfl) (by kernel_rfl) (by kernel_rfl) (by kernel_rfl)
  refine sy_at (k := .rnd n (bodyL (tkc L me cell g kind a b ty m sa wa da sl sc wl wc dl dc)) :: (tkc L me cell g kind a b ty m sa wa da sl sc wl wc dl dc).k.tail) (by kernel_rfl) ?_
  exact ih ((resolveT L me (IntKind.i64.wrap (r.1 - 1)) true m).rest l) _ aa w (Nat.lt_of_le_of_lt (rest_le _ _) hl) (fun x hx => hI x (by simp [rest_mem _ _ x hx])) S'
set_option maxHeartbeats 8000000 in
theorem tk_r1 (w0 : World) (L : Ly) (hok : L.ok) (me cell : Int) (g : Nat) (kind a b ty : Int) (m : Ct) (sa wa da : Option Addr) (sl sc wl wc dl dc : Nat) (n : Nat) (r : Int × Bool) (l : List (Int × Bool)) (hl : l.length < n) (h1 : ¬ r.1 = IntKind.i64.wrap (me + 1)) (h2 : ¬ r.1 = 0) (hq : (resolveT L me (IntKind.i64.wrap (r.1 - 1)) true m).run l = .inr { val := 1 }) (bs : List Nat) (aa : Act) (w : World) (hI : ∀ x ∈ (r :: l : List (Int × Bool)), I64 x.1) (S : Sy w0 (some g) bs (tks L me cell g kind a b ty m sa wa da sl sc wl wc dl dc) [rfRun g (r :: l)] aa w) : post Try.prog (.rnd (n + 1) (bodyL (tkc L me cell g kind a b ty m sa wa da sl sc wl wc dl dc)) :: (tkc L me cell g kind a b ty m sa wa da sl sc wl wc dl dc).k.tail) (bodyPost Try.prog Try.f59 (OpPost ((takeT L me cell m (n + 1)).run (r :: l)) g w0)) .normal aa w := by
  have e : (takeT L me cell m (n + 1)).run (r :: l) = .inr { lost := true } := by unfold takeT; rw [trun_ask, if_neg h1, if_neg h2, run_bind, hq]; simp [trun_ret]
  refine sy_run (c := ⟨(.rnd (n + 1) (bodyL (tkc L me cell g kind a b ty m sa wa da sl sc wl wc dl dc)) :: (tkc L me cell g kind a b ty m sa wa da sl sc wl wc dl dc).k.tail), (tks L me cell g kind a b ty m sa wa da sl sc wl wc dl dc)⟩) ⟨0, []⟩ 60 S fun bs aa w S => ?_
  refine sy_acc S (Or.inl rfl) (load_some w g r l cell S.run) (by kernel_rfl) (by simp) fun aa w S => ?_
  refine sy_run ⟨0, [10]⟩ 60 S fun bs aa w S => ?_
  refine sy_reg S fun S => ?_
  refine sy_ops 5 S fun bs aa w S => ?_
  refine sy_cond false S (decide_eq_false h1 : decide (r.1 = IntKind.i64.wrap (me + 1)) = false) (by kernel_rfl) fun S => ?_
  refine sy_run ⟨0, [12]⟩ 60 S fun bs aa w S => ?_
  refine sy_reg S fun S => ?_
  refine sy_ops 3 S fun bs aa w S => ?_
  refine sy_cond false S (decide_eq_false h2 : decide (r.1 = 0) = false) (by kernel_rfl) fun S => ?_
  refine sy_run ⟨0, []⟩ 60 S fun bs aa w S => ?_
  refine sy_acc (l' := (resolveT L me (IntKind.i64.wrap (r.1 - 1)) true m).rest l) (v := ({ val := 1 } : OutD).v) S (Or.inl rfl) ((resolveR_any w g L hok me (IntKind.i64.wrap (r.1 - 1)) m l S.run (fun x hx => hI x (by simp [hx]))).mono fun e w' h => by rw [hq] at h; exact ⟨h.1.1, h.2 _ rfl, h.1.2⟩) (by kernel_rfl) (by simp) fun aa w S => ?_
  refine sy_run ⟨0, []⟩ 60 S fun bs aa w S => ?_
  refine sy_idx S fun aa S => ?_
  refine sy_run ⟨0, []⟩ 60 S fun bs aa w S => ?_
  exact sy_ret S (by kernel_rfl) (by kernel_rfl) fun hg => by rw [e]; exact ⟨rfl, hg⟩
set_option maxHeartbeats 8000000 in
theorem tk_r1l (w0 : World) (L : Ly) (hok : L.ok) (me cell : Int) (g : Nat) (kind a b ty : Int) (m : Ct) (sa wa da : Option Addr) (sl sc wl wc dl dc : Nat) (n : Nat) (r : Int × Bool) (l : List (Int × Bool)) (hl : l.length < n) (h1 : ¬ r.1 = IntKind.i64.wrap (me + 1)) (h2 : ¬ r.1 = 0) (hq : (resolveT L me (IntKind.i64.wrap (r.1 - 1)) true m).run l = .inr { val := 1, lost := true }) (bs : List Nat) (aa : Act) (w : World) (hI : ∀ x ∈ (r :: l : List (Int × Bool)), I64 x.1) (S : Sy w0 (some g) bs (tks L me cell g kind a b ty m sa wa da sl sc wl wc dl dc) [rfRun g (r :: l)] aa w) : post Try.prog (.rnd (n + 1) (bodyL (tkc L me cell g kind a b ty m sa wa da sl sc wl wc dl dc)) :: (tkc L me cell g kind a b ty m sa wa da sl sc wl wc dl dc).k.tail) (bodyPost Try.prog Try.f59 (OpPost ((takeT L me cell m (n + 1)).run (r :: l)) g w0)) .normal aa w := by
  have e : (takeT L me cell m (n + 1)).run (r :: l) = .inr { lost := true } := by unfold takeT; rw [trun_ask, if_neg h1, if_neg h2, run_bind, hq]; simp [trun_ret]
  refine sy_run (c := ⟨(.rnd (n + 1) (bodyL (tkc L me cell g kind a b ty m sa wa da sl sc wl wc dl dc)) :: (tkc L me cell g kind a b ty m sa wa da sl sc wl wc dl dc).k.tail), (tks L me cell g kind a b ty m sa wa da sl sc wl wc dl dc)⟩) ⟨0, []⟩ 60 S fun bs aa w S => ?_
  refine sy_acc S (Or.inl rfl) (load_some w g r l cell S.run) (by kernel_rfl) (by simp) fun aa w S => ?_
  refine sy_run ⟨0, [10]⟩ 60 S fun bs aa w S => ?_
  refine sy_reg S fun S => ?_
  refine sy_ops 5 S fun bs aa w S => ?_
  refine sy_cond false S (decide_eq_false h1 : decide (r.1 = IntKind.i64.wrap (me + 1)) = false) (by kernel_rfl) fun S => ?_
  refine sy_run ⟨0, [12]⟩ 60 S fun bs aa w S => ?_
  refine sy_reg S fun S => ?_
  refine sy_ops 3 S fun bs aa w S => ?_
  refine sy_cond false S (decide_eq_false h2 : decide (r.1 = 0) = false) (by kernel_rfl) fun S => ?_
  refine sy_run ⟨0, []⟩ 60 S fun bs aa w S => ?_
  refine sy_acc (l' := (resolveT L me (IntKind.i64.wrap (r.1 - 1)) true m).rest l) (v := ({ val := 1, lost := true } : OutD).v) S (Or.inl rfl) ((resolveR_any w g L hok me (IntKind.i64.wrap (r.1 - 1)) m l S.run (fun x hx => hI x (by simp [hx]))).mono fun e w' h => by rw [hq] at h; exact ⟨h.1.1, h.2 _ rfl, h.1.2⟩) (by kernel_rfl) (by simp) fun aa w S => ?_
  refine sy_run ⟨0, []⟩ 60 S fun bs aa w S => ?_
  exact sy_ret S (by kernel_rfl) (by kernel_rfl) fun hg => by rw [e]; exact ⟨rfl, hg⟩
set_option maxHeartbeats 8000000 in
theorem tk_r2 (w0 : World) (L : Ly) (hok : L.ok) (me cell : Int) (g : Nat) (kind a b ty : Int) (m : Ct) (sa wa da : Option Addr) (sl sc wl wc dl dc : Nat) (n : Nat) (r : Int × Bool) (l : List (Int × Bool)) (hl : l.length < n) (h1 : ¬ r.1 = IntKind.i64.wrap (me + 1)) (h2 : ¬ r.1 = 0) (hq : (resolveT L me (IntKind.i64.wrap (r.1 - 1)) true m).run l = .inr { val := 2 }) (ih : ∀ (l : List (Int × Bool)) (bs : List Nat) (aa : Act) (w : World), l.length < n → (∀ x ∈ l, I64 x.1) → Sy w0 (some g) bs (tks L me cell g kind a b ty m sa wa da sl sc wl wc dl dc) [rfRun g l] aa w → post Try.prog (.rnd n (bodyL (tkc L me cell g kind a b ty m sa wa da sl sc wl wc dl dc)) :: (tkc L me cell g kind a b ty m sa wa da sl sc wl wc dl dc).k.tail) (bodyPost Try.prog Try.f59 (OpPost ((takeT L me cell m n).run l) g w0)) .normal aa w) (bs : List Nat) (aa : Act) (w : World) (hI : ∀ x ∈ (r :: l : List (Int × Bool)), I64 x.1) (S : Sy w0 (some g) bs (tks L me cell g kind a b ty m sa wa da sl sc wl wc dl dc) [rfRun g (r :: l)] aa w) : post Try.prog (.rnd (n + 1) (bodyL (tkc L me cell g kind a b ty m sa wa da sl sc wl wc dl dc)) :: (tkc L me cell g kind a b ty m sa wa da sl sc wl wc dl dc).k.tail) (bodyPost Try.prog Try.f59 (OpPost ((takeT L me cell m (n + 1)).run (r :: l)) g w0)) .normal aa w := by
  have e : (takeT L me cell m (n + 1)).run (r :: l) = (takeT L me cell m n).run ((resolveT L me (IntKind.i64.wrap (r.1 - 1)) true m).rest l) := by rw [takeT, trun_ask, if_neg h1, if_neg h2, run_bind, hq]; simp
  rw [e]
  refine sy_run (c := ⟨(.rnd (n + 1) (bodyL (tkc L me cell g kind a b ty m sa wa da sl sc wl wc dl dc)) :: (tkc L me cell g kind a b ty m sa wa da sl sc wl wc dl dc).k.tail), (tks L me cell g kind a b ty m sa wa da sl sc wl wc dl dc)⟩) ⟨0, []⟩ 60 S fun bs aa w S => ?_
  refine sy_acc S (Or.inl rfl) (load_some w g r l cell S.run) (by kernel_rfl) (by simp) fun aa w S => ?_
  refine sy_run ⟨0, [10]⟩ 60 S fun bs aa w S => ?_
  refine sy_reg S fun S => ?_
  refine sy_ops 5 S fun bs aa w S => ?_
  refine sy_cond false S (decide_eq_false h1 : decide (r.1 = IntKind.i64.wrap (me + 1)) = false) (by kernel_rfl) fun S => ?_
  refine sy_run ⟨0, [12]⟩ 60 S fun bs aa w S => ?_
  refine sy_reg S fun S => ?_
  refine sy_ops 3 S fun bs aa w S => ?_
  refine sy_cond false S (decide_eq_false h2 : decide (r.1 = 0) = false) (by kernel_rfl) fun S => ?_
  refine sy_run ⟨0, []⟩ 60 S fun bs aa w S => ?_
  refine sy_acc (l' := (resolveT L me (IntKind.i64.wrap (r.1 - 1)) true m).rest l) (v := ({ val := 2 } : OutD).v) S (Or.inl rfl) ((resolveR_any w g L hok me (IntKind.i64.wrap (r.1 - 1)) m l S.run (fun x hx => hI x (by simp [hx]))).mono fun e w' h => by rw [hq] at h; exact ⟨h.1.1, h.2 _ rfl, h.1.2⟩) (by kernel_rfl) (by simp) fun aa w S => ?_
  refine sy_run ⟨0, []⟩ 60 S fun bs aa w S => ?_
  refine sy_idx S fun aa S => ?_
  refine sy_run ⟨0, [999]⟩ 60 S fun bs aa w S => ?_
  have S' := S.to [0, 1, 2, 3, 4] (tks L me cell g kind a b ty m sa wa da sl sc wl wc dl dc) (by kernel_rfl) (by kernel_rfl) (by kernel_rfl) (by kernel_rfl) (by kernel_rfl)
  refine sy_at (k := .rnd n (bodyL (tkc L me cell g kind a b ty m sa wa da sl sc wl wc dl dc)) :: (tkc L me cell g kind a b ty m sa wa da sl sc wl wc dl dc).k.tail) (by kernel_rfl) ?_
  exact ih ((resolveT L me (IntKind.i64.wrap (r.1 - 1)) true m).rest l) _ aa w (Nat.lt_of_le_of_lt (rest_le _ _) hl) (fun x hx => hI x (by simp [rest_mem _ _ x hx])) S'
set_option maxHeartbeats 8000000 in
theorem tk_r3 (w0 : World) (L : Ly) (hok : L.ok) (me cell : Int) (g : Nat) (kind a b ty : Int) (m : Ct) (sa wa da : Option Addr) (sl sc wl wc dl dc : Nat) (n : Nat) (r : Int × Bool) (l : List (Int × Bool)) (hl : l.length < n) (h1 : ¬ r.1 = IntKind.i64.wrap (me + 1)) (h2 : ¬ r.1 = 0) (hq : (resolveT L me (IntKind.i64.wrap (r.1 - 1)) true m).run l = .inr { val := 3 }) (ih : ∀ (l : List (Int × Bool)) (bs : List Nat) (aa : Act) (w : World), l.length < n → (∀ x ∈ l, I64 x.1) → Sy w0 (some g) bs (tks L me cell g kind a b ty m sa wa da sl sc wl wc dl dc) [rfRun g l] aa w → post Try.prog (.rnd n (bodyL (tkc L me cell g kind a b ty m sa wa da sl sc wl wc dl dc)) :: (tkc L me cell g kind a b ty m sa wa da sl sc wl wc dl dc).k.tail) (bodyPost Try.prog Try.f59 (OpPost ((takeT L me cell m n).run l) g w0)) .normal aa w) (bs : List Nat) (aa : Act) (w : World) (hI : ∀ x ∈ (r :: l : List (Int × Bool)), I64 x.1) (S : Sy w0 (some g) bs (tks L me cell g kind a b ty m sa wa da sl sc wl wc dl dc) [rfRun g (r :: l)] aa w) : post Try.prog (.rnd (n + 1) (bodyL (tkc L me cell g kind a b ty m sa wa da sl sc wl wc dl dc)) :: (tkc L me cell g kind a b ty m sa wa da sl sc wl wc dl dc).k.tail) (bodyPost Try.prog Try.f59 (OpPost ((takeT L me cell m (n + 1)).run (r :: l)) g w0)) .normal aa w := by
  have e : (takeT L me cell m (n + 1)).run (r :: l) = (takeT L me cell m n).run ((resolveT L me (IntKind.i64.wrap (r.1 - 1)) true m).rest l) := by rw [takeT, trun_ask, if_neg h1, if_neg h2, run_bind, hq]; simp
  rw [e]
  refine sy_run (c := ⟨(.rnd (n + 1) (bodyL (tkc L me cell g kind a b ty m sa wa da sl sc wl wc dl dc)) :: (tkc L me cell g kind a b ty m sa wa da sl sc wl wc dl dc).k.tail), (tks L me cell g kind a b ty m sa wa da sl sc wl wc dl dc)⟩) ⟨0, []⟩ 60 S fun bs aa w S => ?_
  refine sy_acc S (Or.inl rfl) (load_some w g r l cell S.run) (by kernel_rfl) (by simp) fun aa w S => ?_
  refine sy_run ⟨0, [10]⟩ 60 S fun bs aa w S => ?_
  refine sy_reg S fun S => ?_
  refine sy_ops 5 S fun bs aa w S => ?_
  refine sy_cond false S (decide_eq_false h1 : decide (r.1 = IntKind.i64.wrap (me + 1)) = false) (by kernel_rfl) fun S => ?_
  refine sy_run ⟨0, [12]⟩ 60 S fun bs aa w S => ?_
  refine sy_reg S fun S => ?_
  refine sy_ops 3 S fun bs aa w S => ?_
  refine sy_cond false S (decide_eq_false h2 : decide (r.1 = 0) = false) (by kernel_rfl) fun S => ?_
  refine sy_run ⟨0, []⟩ 60 S fun bs aa w S => ?_
  refine sy_acc (l' := (resolveT L me (IntKind.i64.wrap (r.1 - 1)) true m).rest l) (v := ({ val := 3 } : OutD).v) S (Or.inl rfl) ((resolveR_any w g L hok me (IntKind.i64.wrap (r.1 - 1)) m l S.run (fun x hx => hI x (by simp [hx]))).mono fun e w' h => by rw [hq] at h; exact ⟨h.1.1, h.2 _ rfl, h.1.2⟩) (by kernel_rfl) (by simp) fun aa w S => ?_
  refine sy_run ⟨0, []⟩ 60 S fun bs aa w S => ?_
  refine sy_idx S fun aa S => ?_
  refine sy_run ⟨0, [999]⟩ 60 S fun bs aa w S => ?_
  have S' := S.to [0, 1, 2, 3, 4] (tks L me cell g kind a b ty m sa wa da sl sc wl wc dl dc) (by kernel_rfl) (by kernel_rfl) (by kernel_rfl) (by kernel_rfl) (by kernel_rfl)
  refine sy_at (k := .rnd n (bodyL (tkc L me cell g kind a b ty m sa wa da sl sc wl wc dl dc)) :: (tkc L me cell g kind a b ty m sa wa da sl sc wl wc dl dc).k.tail) (by kernel_rfl) ?_
  exact ih ((resolveT L me (IntKind.i64.wrap (r.1 - 1)) true m).rest l) _ aa w (Nat.lt_of_le_of_lt (rest_le _ _) hl) (fun x hx => hI x (by simp [rest_mem _ _ x hx])) S'
theorem tk_all (w0 : World) (L : Ly) (hok : L.ok) (me cell : Int) (g : Nat) (kind a b ty : Int) (m : Ct) (sa wa da : Option Addr) (sl sc wl wc dl dc : Nat) : ∀ (n : Nat) (l : List (Int × Bool)) (bs : List Nat) (aa : Act) (w : World), l.length < n → (∀ x ∈ l, I64 x.1) → Sy w0 (some g) bs (tks L me cell g kind a b ty m sa wa da sl sc wl wc dl dc) [rfRun g l] aa w → post Try.prog (.rnd n (bodyL (tkc L me cell g kind a b ty m sa wa da sl sc wl wc dl dc)) :: (tkc L me cell g kind a b ty m sa wa da sl sc wl wc dl dc).k.tail) (bodyPost Try.prog Try.f59 (OpPost ((takeT L me cell m n).run l) g w0)) .normal aa w := by
  intro n
  induction n with
  | zero => intro l bs aa w h; omega
  | succ n ih =>
    intro l bs aa w hl hI S
    rcases l with _ | ⟨r, l⟩
    · exact tk_0 w0 L hok me cell g kind a b ty m sa wa da sl sc wl wc dl dc n bs aa w hI S
    · by_cases h1 : r.1 = IntKind.i64.wrap (me + 1)
      · exact tk_me w0 L hok me cell g kind a b ty m sa wa da sl sc wl wc dl dc n r l h1 bs aa w hI S
      · by_cases h2 : r.1 = 0
        · rcases l with _ | ⟨⟨y, b⟩, l⟩
          · exact tk_c0 w0 L hok me cell g kind a b ty m sa wa da sl sc wl wc dl dc n r h1 h2 bs aa w hI S
          · cases b with
            | true => exact tk_ct w0 L hok me cell g kind a b ty m sa wa da sl sc wl wc dl dc n r y l (by simp at hl; omega) h1 h2 bs aa w hI S
            | false => exact tk_cf w0 L hok me cell g kind a b ty m sa wa da sl sc wl wc dl dc n r y l (by simp at hl; omega) h1 h2 ih bs aa w hI S
        · have hl' : l.length < n := by simp at hl; omega
          cases hq : (resolveT L me (IntKind.i64.wrap (r.1 - 1)) true m).run l with
          | inl q => exact tk_rp w0 L hok me cell g kind a b ty m sa wa da sl sc wl wc dl dc n r l h1 h2 q hq bs aa w hI S
          | inr o =>
            rcases resolve_form L me (IntKind.i64.wrap (r.1 - 1)) m l o hq with rfl | rfl | rfl | rfl | rfl
            · exact tk_r0 w0 L hok me cell g kind a b ty m sa wa da sl sc wl wc dl dc n r l hl' h1 h2 hq ih bs aa w hI S
            · exact tk_r1 w0 L hok me cell g kind a b ty m sa wa da sl sc wl wc dl dc n r l hl' h1 h2 hq bs aa w hI S
            · exact tk_r1l w0 L hok me cell g kind a b ty m sa wa da sl sc wl wc dl dc n r l hl' h1 h2 hq bs aa w hI S
            · exact tk_r2 w0 L hok me cell g kind a b ty m sa wa da sl sc wl wc dl dc n r l hl' h1 h2 hq ih bs aa w hI S
            · exact tk_r3 w0 L hok me cell g kind a b ty m sa wa da sl sc wl wc dl dc n r l hl' h1 h2 hq ih bs aa w hI S
set_option maxHeartbeats 4000000 in
theorem atake_any (w : World) (g : Nat) (L : Ly) (hok : L.ok) (me : Int) (kind a b ty : Int) (m : Ct) (sa wa da : Option Addr) (sl sc wl wc dl dc : Nat) (l : List (Int × Bool)) (hI : ∀ x ∈ l, I64 x.1) (hR : RunAt w g l) : Calls Try.prog 59 #[.pointer (some ⟨g, 0, none⟩), L.v, .int .i64 me, .agg #[.int .i64 kind, .int .i64 a, .int .i64 b, .int .i64 ty, .int .i64 m.s, .int .i64 m.k, .int .i64 m.a, .slice sa sl sc, .slice wa wl wc, .slice da dl dc]] w (OpPost ((takeT L me (atLock L a) m (l.length + 1)).run l) g w) := by
  refine sy_enterF (some g) [rfRun g l] (by intro f hf; simp at hf; subst hf; exact hR) Try.func59 rfl fun aa S => ?_
  refine sy_run ⟨0, []⟩ 50 S fun bs aa w1 S => ?_
  refine sy_scope S fun S => ?_
  refine sy_run ⟨0, []⟩ 50 S fun bs aa w1 S => ?_
  refine sy_call1 S (lock_any L a w1 hok) (by kernel_rfl) fun aa w1 hb S => ?_
  refine sy_run ⟨0, []⟩ 50 S fun bs aa w1 S => ?_
  refine sy_label S fun S => ?_
  refine sy_run ⟨0, []⟩ 50 S fun bs aa w1 S => ?_
  have S' := S.to [0, 1, 2, 3, 4] (tks L me (atLock L a) g kind a b ty m sa wa da sl sc wl wc dl dc) (by kernel_rfl) (by kernel_rfl) (by kernel_rfl) (by kernel_rfl) (by kernel_rfl)
  refine sy_loop (l.length + 1) (by kernel_rfl) ?_
  exact tk_all w L hok me (atLock L a) g kind a b ty m sa wa da sl sc wl wc dl dc (l.length + 1) l _ aa w1 (by omega) hI S'
end Go.Proofs.Ytdfngmplfgifiaa


/-
  Layer 20: the next access of an operation on an abstract lock.
-/
namespace Go.Proofs.Ytdfngmplfgifiaa
open Go Go.RowKit SX
set_option linter.unusedVariables false
set_option maxRecDepth 100000

/-- A call over a run of which nothing is wanted any more. -/
theorem sy_gone {P : Program} {w0 : World} {r : Option Nat} {bs : List Nat} {F : List RF} {aa : Act} {w : World} {g : Nat} {l : List (Int × Bool)} {c : Cfg} (S : Sy w0 r bs c.s (rfRun g l :: F) aa w) (h0 : r = some g ∨ w0.heap.size ≤ g) {v : Value} {f : FuncId} {args : Array Value} {Q : Exit → Act → World → Prop}
    (hC : Calls P f args w fun e w' => e = .returned v ∧ w.grownBy w' (some g))
    (hh : (headC P c).map (fun q => (q.1, q.2.map (den bs))) = some (f, args.toList))
    (h : ∀ a' w', Sy w0 r bs (aftC c (.v v)).s [] a' w' → post P (aftC c (.v v)).k Q .normal a' w') : post P c.k Q .normal aa w := by
  have hap := (S.fs _ (by simp : rfRun g l ∈ rfRun g l :: F)).2
  refine sy_callG S h0 (X := Unit) (val := fun _ => v) (C := fun _ _ => True) (hC.mono fun e w' h => ⟨(), h.1, trivial, h.2⟩) hh [] (by simp) (fun i hi he => hap i hi (by show _ ≤ g; rw [he]; exact Nat.le_refl _)) ?_
  intro _ a' w' _ _ S'
  exact h a' w' S'
theorem heap_below {w w' : World} {B b : Nat} {o : Obj} (hb : Below B w w') (hB : b < B) (h : w.heap[b]? = some o) : w'.heap[b]? = some o := (hb.block b hB).trans h
attribute [local irreducible] post
set_option maxHeartbeats 4000000 in
theorem anx1_any (w : World) (g b1 b2 b3 : Nat) (L : Ly) (hok : L.ok) (me : Int) (kind a b ty : Int) (m : Ct) (sa wa da : Option Addr) (sl sc wl wc dl dc : Nat) (l : List (Int × Bool)) (hI : ∀ x ∈ l, I64 x.1) (hR : RunAt w g l)
    (h1 : w.heap[b1]? = some (.cells ([.int .i64 L.c.t, .int .i64 L.c.l, .int .i64 L.c.k, .int .i64 L.c.s, .int .i64 L.c.m, .int .i64 L.clock, .int .i64 L.stamps, .int .i64 L.log, .int .i64 L.fin, .int .i64 L.thread, .int .i64 L.lock, .int .i64 L.loc, .int .i64 L.size] : List Value).toArray 25 (0, 0))) (h2 : w.heap[b2]? = some (.cells ([.int .i64 me] : List Value).toArray 3 (0, 0))) (h3 : w.heap[b3]? = some (.cells ([.int .i64 kind, .int .i64 a, .int .i64 b, .int .i64 ty, .int .i64 m.s, .int .i64 m.k, .int .i64 m.a, .slice sa sl sc, .slice wa wl wc, .slice da dl dc] : List Value).toArray 32 (0, 0))) :
    Calls Try.prog 58 #[.pointer (some ⟨g, 0, none⟩), .pointer (some ⟨b1, 0, none⟩), .pointer (some ⟨b2, 0, none⟩), .pointer (some ⟨b3, 0, none⟩)] w (OpPost ((takeT L me (atLock L a) m (l.length + 1)).run l) g w) := by
  refine sy_enterF (some g) [rfRun g l, rfBox b1 25 [.int .i64 L.c.t, .int .i64 L.c.l, .int .i64 L.c.k, .int .i64 L.c.s, .int .i64 L.c.m, .int .i64 L.clock, .int .i64 L.stamps, .int .i64 L.log, .int .i64 L.fin, .int .i64 L.thread, .int .i64 L.lock, .int .i64 L.loc, .int .i64 L.size], rfBox b2 3 [.int .i64 me], rfBox b3 32 [.int .i64 kind, .int .i64 a, .int .i64 b, .int .i64 ty, .int .i64 m.s, .int .i64 m.k, .int .i64 m.a, .slice sa sl sc, .slice wa wl wc, .slice da dl dc]] (by
    intro f hf
    simp only [List.mem_cons, List.not_mem_nil, or_false] at hf
    rcases hf with rfl | rfl | rfl | rfl
    · exact hR
    · exact h1
    · exact h2
    · exact h3) Try.func58 rfl fun aa S => ?_
  refine sy_run ⟨0, []⟩ 80 S fun bs aa w1 S => ?_
  refine sy_ldo S (S.ldBox (b := b1) (ty' := 25) (cs := [.int .i64 L.c.t, .int .i64 L.c.l, .int .i64 L.c.k, .int .i64 L.c.s, .int .i64 L.c.m, .int .i64 L.clock, .int .i64 L.stamps, .int .i64 L.log, .int .i64 L.fin, .int .i64 L.thread, .int .i64 L.lock, .int .i64 L.loc, .int .i64 L.size]) (o := 0) (ty := 25) (v := L.v) (by simp) (by kernel_rfl)) (by kernel_rfl) fun aa S => ?_
  refine sy_run ⟨0, []⟩ 80 S fun bs aa w1 S => ?_
  refine sy_ldo S (S.ldBox (b := b2) (ty' := 3) (cs := [.int .i64 me]) (o := 0) (ty := 3) (v := .int .i64 me) (by simp) (by kernel_rfl)) (by kernel_rfl) fun aa S => ?_
  refine sy_run ⟨0, []⟩ 80 S fun bs aa w1 S => ?_
  refine sy_ldo S (S.ldBox (b := b3) (ty' := 32) (cs := [.int .i64 kind, .int .i64 a, .int .i64 b, .int .i64 ty, .int .i64 m.s, .int .i64 m.k, .int .i64 m.a, .slice sa sl sc, .slice wa wl wc, .slice da dl dc]) (o := 0) (ty := 32) (v := .agg #[.int .i64 kind, .int .i64 a, .int .i64 b, .int .i64 ty, .int .i64 m.s, .int .i64 m.k, .int .i64 m.a, .slice sa sl sc, .slice wa wl wc, .slice da dl dc]) (by simp) (by kernel_rfl)) (by kernel_rfl) fun aa S => ?_
  refine sy_run ⟨0, []⟩ 80 S fun bs aa w1 S => ?_
  have hC := atake_any w1 g L hok me kind a b ty m sa wa da sl sc wl wc dl dc l hI S.run
  cases hx : (takeT L me (atLock L a) m (l.length + 1)).run l with
  | inl q =>
    rw [hx] at hC
    exact sy_panic S (hC.mono fun e w' h => ⟨h.1, h.2⟩) (by kernel_rfl) fun w' hg => ⟨rfl, hg⟩
  | inr o =>
    rw [hx] at hC
    refine sy_gone S (Or.inl rfl) (hC.mono fun e w' h => ⟨h.1, h.2⟩) (by kernel_rfl) fun aa w1 S => ?_
    refine sy_run ⟨0, []⟩ 80 S fun bs aa w1 S => ?_
    exact sy_ret S (by kernel_rfl) (by kernel_rfl) fun hg => ⟨rfl, hg⟩
set_option maxHeartbeats 4000000 in
theorem anx2_any (w : World) (g b1 : Nat) (cell : Int) (l : List (Int × Bool)) (hR : RunAt w g l)
    (h1 : w.heap[b1]? = some (.cells ([.int .i64 cell] : List Value).toArray 3 (0, 0))) :
    Calls Try.prog 60 #[.pointer (some ⟨g, 0, none⟩), .pointer (some ⟨b1, 0, none⟩)] w (OpPost ((Tree.ask ⟨2, cell, 0, 0⟩ fun _ => .ret { ok := true }).run l) g w) := by
  refine sy_enterF (some g) [rfRun g l, rfBox b1 3 [.int .i64 cell]] (by
    intro f hf
    simp only [List.mem_cons, List.not_mem_nil, or_false] at hf
    rcases hf with rfl | rfl
    · exact hR
    · exact h1) Try.func60 rfl fun aa S => ?_
  refine sy_run ⟨0, []⟩ 80 S fun bs aa w1 S => ?_
  refine sy_ldo S (S.ldBox (b := b1) (ty' := 3) (cs := [.int .i64 cell]) (o := 0) (ty := 3) (v := .int .i64 cell) (by simp) (by kernel_rfl)) (by kernel_rfl) fun aa S => ?_
  refine sy_run ⟨0, []⟩ 80 S fun bs aa w1 S => ?_
  rcases l with _ | ⟨r, l⟩
  · exact sy_panic S ((store_none w1 g cell 0 S.run).mono fun e w' h => ⟨h.1, gb_of_below _ h.2⟩) (by kernel_rfl) fun w' hg => ⟨rfl, hg⟩
  · have e : (Tree.ask ⟨2, cell, 0, 0⟩ fun _ => .ret { ok := true }).run (r :: l) = .inr { ok := true } := by rw [trun_ask, trun_ret]
    rw [e]
    refine sy_gone S (Or.inl rfl) ((store_some w1 g r l cell 0 S.run).mono fun e w' h => ⟨h.1, h.2.2⟩) (by kernel_rfl) fun aa w1 S => ?_
    refine sy_run ⟨0, []⟩ 80 S fun bs aa w1 S => ?_
    exact sy_ret S (by kernel_rfl) (by kernel_rfl) fun hg => ⟨rfl, hg⟩
set_option maxHeartbeats 4000000 in
theorem anext_lo (w : World) (L : Ly) (hok : L.ok) (me : Int) (kind a b ty : Int) (m : Ct) (sa wa da : Option Addr) (sl sc wl wc dl dc : Nat) (v : Value) (l : List (Int × Bool)) (hv : LogOf w v l) (hc : decide (atLock L a < 0) = true) : Calls Try.prog 30 #[L.v, .int .i64 me, .agg #[.int .i64 kind, .int .i64 a, .int .i64 b, .int .i64 ty, .int .i64 m.s, .int .i64 m.k, .int .i64 m.a, .slice sa sl sc, .slice wa wl wc, .slice da dl dc], v] w fun e w' => e = .returned (nextV (.inr { err := 1 })) ∧ Below w.heap.size w w' := by
  refine sy_enterF none [rfLog v l] (by intro f hf; simp at hf; subst hf; exact hv) Try.func30 rfl fun aa S => ?_
  refine sy_run ⟨0, []⟩ 80 S fun bs aa w1 S => ?_
  refine sy_call1 S (lock_any L a w1 hok) (by kernel_rfl) fun aa w1 hb S => ?_
  refine sy_run ⟨0, [2]⟩ 80 S fun bs aa w1 S => ?_
  refine sy_reg S fun S => ?_
  refine sy_ops 3 S fun bs aa w1 S => ?_
  refine sy_cond true S (hc : decide (atLock L a < 0) = true) (by kernel_rfl) fun S => ?_
  refine sy_run ⟨0, []⟩ 80 S fun bs aa w1 S => ?_
  refine sy_call1 S (refuse_any 1 w1) (by kernel_rfl) fun aa w2 hb S => ?_
  refine sy_run ⟨0, []⟩ 80 S fun bs aa w1 S => ?_
  exact sy_ret S (by kernel_rfl) (by kernel_rfl) fun g => ⟨rfl, below_of_gr g⟩
set_option maxHeartbeats 4000000 in
theorem anext_no (w : World) (L : Ly) (hok : L.ok) (me : Int) (kind a b ty : Int) (m : Ct) (sa wa da : Option Addr) (sl sc wl wc dl dc : Nat) (v : Value) (l : List (Int × Bool)) (hv : LogOf w v l) (hc : decide (atLock L a < 0) = false) (h7 : decide (kind = 7) = false) (h8 : decide (kind = 8) = false) : Calls Try.prog 30 #[L.v, .int .i64 me, .agg #[.int .i64 kind, .int .i64 a, .int .i64 b, .int .i64 ty, .int .i64 m.s, .int .i64 m.k, .int .i64 m.a, .slice sa sl sc, .slice wa wl wc, .slice da dl dc], v] w fun e w' => e = .returned (nextV (.inr { err := 1 })) ∧ Below w.heap.size w w' := by
  refine sy_enterF none [rfLog v l] (by intro f hf; simp at hf; subst hf; exact hv) Try.func30 rfl fun aa S => ?_
  refine sy_run ⟨0, []⟩ 80 S fun bs aa w1 S => ?_
  refine sy_call1 S (lock_any L a w1 hok) (by kernel_rfl) fun aa w1 hb S => ?_
  refine sy_run ⟨0, [2]⟩ 80 S fun bs aa w1 S => ?_
  refine sy_reg S fun S => ?_
  refine sy_ops 3 S fun bs aa w1 S => ?_
  refine sy_cond false S (hc : decide (atLock L a < 0) = false) (by kernel_rfl) fun S => ?_
  refine sy_run ⟨0, [5]⟩ 80 S fun bs aa w1 S => ?_
  refine sy_reg S fun S => ?_
  refine sy_ops 3 S fun bs aa w1 S => ?_
  refine sy_cond false S (h7 : decide (kind = 7) = false) (by kernel_rfl) fun S => ?_
  refine sy_run ⟨0, [7]⟩ 80 S fun bs aa w1 S => ?_
  refine sy_reg S fun S => ?_
  refine sy_ops 3 S fun bs aa w1 S => ?_
  refine sy_cond false S (h8 : decide (kind = 8) = false) (by kernel_rfl) fun S => ?_
  refine sy_run ⟨0, []⟩ 80 S fun bs aa w1 S => ?_
  refine sy_call1 S (refuse_any 1 w1) (by kernel_rfl) fun aa w2 hb S => ?_
  refine sy_run ⟨0, []⟩ 80 S fun bs aa w1 S => ?_
  exact sy_ret S (by kernel_rfl) (by kernel_rfl) fun g => ⟨rfl, below_of_gr g⟩
set_option maxHeartbeats 4000000 in
theorem anext_take (w : World) (L : Ly) (hok : L.ok) (me : Int) (kind a b ty : Int) (m : Ct) (sa wa da : Option Addr) (sl sc wl wc dl dc : Nat) (v : Value) (l : List (Int × Bool)) (hv : LogOf w v l) (hI : ∀ x ∈ l, I64 x.1) (hc : decide (atLock L a < 0) = false) (h7 : decide (kind = 7) = true) (x : Ask ⊕ OutD) (hx : (takeT L me (atLock L a) m (l.length + 1)).run l = x) : Calls Try.prog 30 #[L.v, .int .i64 me, .agg #[.int .i64 kind, .int .i64 a, .int .i64 b, .int .i64 ty, .int .i64 m.s, .int .i64 m.k, .int .i64 m.a, .slice sa sl sc, .slice wa wl wc, .slice da dl dc], v] w fun e w' => e = .returned (nextV x) ∧ Below w.heap.size w w' := by
  refine sy_enterF none [rfLog v l] (by intro f hf; simp at hf; subst hf; exact hv) Try.func30 rfl fun aa S => ?_
  refine sy_run ⟨0, []⟩ 80 S fun bs aa w1 S => ?_
  refine sy_call1 S (lock_any L a w1 hok) (by kernel_rfl) fun aa w1 hb S => ?_
  refine sy_run ⟨0, [2]⟩ 80 S fun bs aa w1 S => ?_
  refine sy_reg S fun S => ?_
  refine sy_ops 3 S fun bs aa w1 S => ?_
  refine sy_cond false S (hc : decide (atLock L a < 0) = false) (by kernel_rfl) fun S => ?_
  refine sy_run ⟨0, [5]⟩ 80 S fun bs aa w1 S => ?_
  refine sy_reg S fun S => ?_
  refine sy_ops 3 S fun bs aa w1 S => ?_
  refine sy_cond true S (h7 : decide (kind = 7) = true) (by kernel_rfl) fun S => ?_
  refine sy_run ⟨0, []⟩ 80 S fun bs aa w1 S => ?_
  generalize hBS : (_ ++ bs : List Nat) = BS at S
  have hb0 := S.bx 0 ⟨25, [.int .i64 L.c.t, .int .i64 L.c.l, .int .i64 L.c.k, .int .i64 L.c.s, .int .i64 L.c.m, .int .i64 L.clock, .int .i64 L.stamps, .int .i64 L.log, .int .i64 L.fin, .int .i64 L.thread, .int .i64 L.lock, .int .i64 L.loc, .int .i64 L.size]⟩ (by kernel_rfl)
  have hn0 : BS.getD 0 0 < w1.heap.size := (Array.getElem?_eq_some_iff.1 hb0).1
  have hb1 := S.bx 1 ⟨3, [.int .i64 me]⟩ (by kernel_rfl)
  have hn1 : BS.getD 1 0 < w1.heap.size := (Array.getElem?_eq_some_iff.1 hb1).1
  have hb2 := S.bx 2 ⟨32, [.int .i64 kind, .int .i64 a, .int .i64 b, .int .i64 ty, .int .i64 m.s, .int .i64 m.k, .int .i64 m.a, .slice sa sl sc, .slice wa wl wc, .slice da dl dc]⟩ (by kernel_rfl)
  have hn2 : BS.getD 2 0 < w1.heap.size := (Array.getElem?_eq_some_iff.1 hb2).1
  have hF : ∀ w2 g, Below w1.heap.size w1 w2 → w1.heap.size ≤ g → RunAt w2 g l → Calls Try.prog 58 #[.pointer (some ⟨g, 0, none⟩), .pointer (some ⟨BS.getD 0 0, 0, none⟩), .pointer (some ⟨BS.getD 1 0, 0, none⟩), .pointer (some ⟨BS.getD 2 0, 0, none⟩)] w2 (OpPost x g w2) := fun w2 g hb hg hR => by
    rw [← hx]
    exact anx1_any w2 g _ _ _ L hok me kind a b ty m sa wa da sl sc wl wc dl dc l hI hR (heap_below hb hn0 hb0) (heap_below hb hn1 hb1) (heap_below hb hn2 hb2)
  cases x with
  | inl o =>
    refine sy_call1 S (of_c3 w1 v l 58 (by intro args w; rfl) (.pointer (some ⟨BS.getD 0 0, 0, none⟩)) (.pointer (some ⟨BS.getD 1 0, 0, none⟩)) (.pointer (some ⟨BS.getD 2 0, 0, none⟩)) (.inl o) (S.fact (f := rfLog v l) (by simp)) hF) (by kernel_rfl) fun aa w2 hb S => ?_
    refine sy_run ⟨0, []⟩ 80 S fun bs aa w1 S => ?_
    exact sy_ret S (by kernel_rfl) (by kernel_rfl) fun g => ⟨rfl, below_of_gr g⟩
  | inr o =>
    refine sy_call1 S (of_c3 w1 v l 58 (by intro args w; rfl) (.pointer (some ⟨BS.getD 0 0, 0, none⟩)) (.pointer (some ⟨BS.getD 1 0, 0, none⟩)) (.pointer (some ⟨BS.getD 2 0, 0, none⟩)) (.inr o) (S.fact (f := rfLog v l) (by simp)) hF) (by kernel_rfl) fun aa w2 hb S => ?_
    refine sy_run ⟨0, []⟩ 80 S fun bs aa w1 S => ?_
    exact sy_ret S (by kernel_rfl) (by kernel_rfl) fun g => ⟨rfl, below_of_gr g⟩
set_option maxHeartbeats 4000000 in
theorem anext_give (w : World) (L : Ly) (hok : L.ok) (me : Int) (kind a b ty : Int) (m : Ct) (sa wa da : Option Addr) (sl sc wl wc dl dc : Nat) (v : Value) (l : List (Int × Bool)) (hv : LogOf w v l) (hc : decide (atLock L a < 0) = false) (h7 : decide (kind = 7) = false) (h8 : decide (kind = 8) = true) (x : Ask ⊕ OutD) (hx : (Tree.ask ⟨2, atLock L a, 0, 0⟩ fun _ => .ret { ok := true }).run l = x) : Calls Try.prog 30 #[L.v, .int .i64 me, .agg #[.int .i64 kind, .int .i64 a, .int .i64 b, .int .i64 ty, .int .i64 m.s, .int .i64 m.k, .int .i64 m.a, .slice sa sl sc, .slice wa wl wc, .slice da dl dc], v] w fun e w' => e = .returned (nextV x) ∧ Below w.heap.size w w' := by
  refine sy_enterF none [rfLog v l] (by intro f hf; simp at hf; subst hf; exact hv) Try.func30 rfl fun aa S => ?_
  refine sy_run ⟨0, []⟩ 80 S fun bs aa w1 S => ?_
  refine sy_call1 S (lock_any L a w1 hok) (by kernel_rfl) fun aa w1 hb S => ?_
  refine sy_run ⟨0, [2]⟩ 80 S fun bs aa w1 S => ?_
  refine sy_reg S fun S => ?_
  refine sy_ops 3 S fun bs aa w1 S => ?_
  refine sy_cond false S (hc : decide (atLock L a < 0) = false) (by kernel_rfl) fun S => ?_
  refine sy_run ⟨0, [5]⟩ 80 S fun bs aa w1 S => ?_
  refine sy_reg S fun S => ?_
  refine sy_ops 3 S fun bs aa w1 S => ?_
  refine sy_cond false S (h7 : decide (kind = 7) = false) (by kernel_rfl) fun S => ?_
  refine sy_run ⟨0, [7]⟩ 80 S fun bs aa w1 S => ?_
  refine sy_reg S fun S => ?_
  refine sy_ops 3 S fun bs aa w1 S => ?_
  refine sy_cond true S (h8 : decide (kind = 8) = true) (by kernel_rfl) fun S => ?_
  refine sy_run ⟨0, []⟩ 80 S fun bs aa w1 S => ?_
  generalize hBS : (_ ++ bs : List Nat) = BS at S
  have hb5 := S.bx 5 ⟨3, [.int .i64 (atLock L a)]⟩ (by kernel_rfl)
  have hn5 : BS.getD 5 0 < w1.heap.size := (Array.getElem?_eq_some_iff.1 hb5).1
  have hF : ∀ w2 g, Below w1.heap.size w1 w2 → w1.heap.size ≤ g → RunAt w2 g l → Calls Try.prog 60 #[.pointer (some ⟨g, 0, none⟩), .pointer (some ⟨BS.getD 5 0, 0, none⟩)] w2 (OpPost x g w2) := fun w2 g hb hg hR => by
    rw [← hx]
    exact anx2_any w2 g _ _ l hR (heap_below hb hn5 hb5)
  cases x with
  | inl o =>
    refine sy_call1 S (of_c1 w1 v l 60 (by intro args w; rfl) (.pointer (some ⟨BS.getD 5 0, 0, none⟩)) (.inl o) (S.fact (f := rfLog v l) (by simp)) hF) (by kernel_rfl) fun aa w2 hb S => ?_
    refine sy_run ⟨0, []⟩ 80 S fun bs aa w1 S => ?_
    exact sy_ret S (by kernel_rfl) (by kernel_rfl) fun g => ⟨rfl, below_of_gr g⟩
  | inr o =>
    refine sy_call1 S (of_c1 w1 v l 60 (by intro args w; rfl) (.pointer (some ⟨BS.getD 5 0, 0, none⟩)) (.inr o) (S.fact (f := rfLog v l) (by simp)) hF) (by kernel_rfl) fun aa w2 hb S => ?_
    refine sy_run ⟨0, []⟩ 80 S fun bs aa w1 S => ?_
    exact sy_ret S (by kernel_rfl) (by kernel_rfl) fun g => ⟨rfl, below_of_gr g⟩
theorem anext_any (w : World) (L : Ly) (hok : L.ok) (me : Int) (kind a b ty : Int) (m : Ct) (sa wa da : Option Addr) (sl sc wl wc dl dc : Nat) (v : Value) (l : List (Int × Bool)) (hv : LogOf w v l) (hI : ∀ x ∈ l, I64 x.1) : Calls Try.prog 30 #[L.v, .int .i64 me, .agg #[.int .i64 kind, .int .i64 a, .int .i64 b, .int .i64 ty, .int .i64 m.s, .int .i64 m.k, .int .i64 m.a, .slice sa sl sc, .slice wa wl wc, .slice da dl dc], v] w fun e w' => e = .returned (nextV ((absT L me kind a m (l.length + 1)).run l)) ∧ Below w.heap.size w w' := by
  unfold absT
  by_cases hc : atLock L a < 0
  · rw [if_pos hc, trun_ret]; exact anext_lo w L hok me kind a b ty m sa wa da sl sc wl wc dl dc v l hv (decide_eq_true hc)
  · rw [if_neg hc]
    by_cases h7 : kind = 7
    · rw [if_pos h7]; exact anext_take w L hok me kind a b ty m sa wa da sl sc wl wc dl dc v l hv hI (decide_eq_false hc) (decide_eq_true h7) _ rfl
    · rw [if_neg h7]
      by_cases h8 : kind = 8
      · rw [if_pos h8]; exact anext_give w L hok me kind a b ty m sa wa da sl sc wl wc dl dc v l hv (decide_eq_false hc) (decide_eq_false h7) (decide_eq_true h8) _ rfl
      · rw [if_neg h8, trun_ret]; exact anext_no w L hok me kind a b ty m sa wa da sl sc wl wc dl dc v l hv (decide_eq_false hc) (decide_eq_false h7) (decide_eq_false h8)
end Go.Proofs.Ytdfngmplfgifiaa


/-
  Layer 17: the reference's conflict resolution over its run of accesses, as the same tree.
-/
namespace Go.Proofs.Ytdfngmplfgifiaa
set_option linter.unusedVariables false
set_option linter.unusedSimpArgs false
set_option maxRecDepth 100000
set_option maxHeartbeats 4000000
open Go.ChangeShapes Go.WideShapes Go.ChangeAt Go.RowKit

theorem ask_own3 (w : World) (g : Nat) (L : Ly) (hok : L.ok) (me other : Int) (m : Ct) (c0 : CSt) (h0 : CurAt w g c0) (r0 : Int) (b0 : Bool) (ca : CSt) (eca : cdo c0 ⟨1, atStatus L me, 0, 0⟩ = ((r0, b0), ca)) (ho : r0 % 4 = 3) :
    Calls Try.prog 86 #[.pointer (some ⟨g, 0, none⟩), L.v, .int .i64 me, .int .i64 other, .bool true, m.v] w fun e w' => e = .returned (.tuple #[.int .i64 1, .bool true]) ∧ CurAt w' g ca ∧ w.grownBy w' (some g) := by
  have HS : Hid (∀ w, Calls Try.prog 46 #[L.v, .int .i64 other] w fun e w' => e = .returned (.int .i64 (atStatus L other)) ∧ Below w.heap.size w w') := Lib.hid (fun w => rstatus_any L other w hok)
  have HM : Hid (∀ w, Calls Try.prog 46 #[L.v, .int .i64 me] w fun e w' => e = .returned (.int .i64 (atStatus L me)) ∧ Below w.heap.size w w') := Lib.hid (fun w => rstatus_any L me w hok)
  have HL0 : Hid (∀ w, CurAt w g c0 → Calls Try.prog 75 #[.pointer (some ⟨g, 0, none⟩), .int .i64 (atStatus L me)] w fun e w' => e = .returned (.int .i64 r0) ∧ CurAt w' g ca ∧ w.grownBy w' (some g)) := Lib.hid (fun w h => by have := rload_any02 w g c0 (atStatus L me) h; rw [eca] at this; exact this)
  have q0 : (r0 % 4 == 3) = true := by simp [ho]
  unfold Ly.v at HS HM ⊢
  unfold Ct.v
  have hg0 := curAt_lt h0
  have G : w.grownBy w (some g) := gb_refl _ _
  have hS0 : w.heap.size + 0 ≤ w.heap.size := Nat.le_refl _
  go_enter Try.func86, Try.ntmps86
  go_wp2_with fail
  obtain ⟨w1, hwr⟩ : ∃ W, W = ((w.alloc (.cells #[.int .i64 L.c.t, .int .i64 L.c.l, .int .i64 L.c.k, .int .i64 L.c.s, .int .i64 L.c.m, .int .i64 L.clock, .int .i64 L.stamps, .int .i64 L.log, .int .i64 L.fin, .int .i64 L.thread, .int .i64 L.lock, .int .i64 L.loc, .int .i64 L.size] 25)).alloc (.cells #[.int .i64 m.s, .int .i64 m.k, .int .i64 m.a] 27)) := ⟨_, rfl⟩
  rw [← hwr]
  have hb : Below w.heap.size w w1 := by rw [hwr]; exact (Below.alloc (Below.alloc (Below.refl _ _) (by first | exact Nat.le_refl _ | (simp; omega) | simp) _) (by first | exact Nat.le_refl _ | (simp; omega) | simp) _)
  have ll : CellsAt w1 (w.heap.size) [.int .i64 L.c.t, .int .i64 L.c.l, .int .i64 L.c.k, .int .i64 L.c.s, .int .i64 L.c.m, .int .i64 L.clock, .int .i64 L.stamps, .int .i64 L.log, .int .i64 L.fin, .int .i64 L.thread, .int .i64 L.lock, .int .i64 L.loc, .int .i64 L.size] := by rw [hwr]; exact (cellsAt_alloc (cellsAt_new' w _ _ (w.heap.size) (by simp)) _)
  have llz : w.heap.size < w1.heap.size := World.block_lt_of_cell? _ _ (ll 0 _ rfl)
  have mm : CellsAt w1 (w.heap.size + 1) [.int .i64 m.s, .int .i64 m.k, .int .i64 m.a] := by rw [hwr]; exact (cellsAt_new' (w.alloc (.cells #[.int .i64 L.c.t, .int .i64 L.c.l, .int .i64 L.c.k, .int .i64 L.c.s, .int .i64 L.c.m, .int .i64 L.clock, .int .i64 L.stamps, .int .i64 L.log, .int .i64 L.fin, .int .i64 L.thread, .int .i64 L.lock, .int .i64 L.loc, .int .i64 L.size] 25)) _ _ (w.heap.size + 1) (by simp))
  have mmz : w.heap.size + 1 < w1.heap.size := World.block_lt_of_cell? _ _ (mm 0 _ rfl)
  have h1 := curAt_keep h0 hb
  replace G := gb_trans G (gb_of_below (some g) hb)
  clear hb hwr
  replace hS0 := G.size
  have ll_4 := ll 4 _ rfl
  have mm_0 := mm 0 _ rfl
  have mm_1 := mm 1 _ rfl
  have mm_2 := mm 2 _ rfl
  go_wp2_with (first | ((with_reducible refine ld_lay ll rfl ?a1 ?h1); (case a1 => exact ⟨_, rfl, rfl, rfl⟩)))
  ((with_reducible refine (HM.out _).mono ?_); rintro e w2 ⟨rfl, hb⟩)
  clear ll_4
  clear mm_0 mm_1 mm_2
  have hsz := hb.size
  (try simp at hsz)
  replace ll := cellsAt_keep ll hb
  replace mm := cellsAt_keep mm hb
  replace llz : w.heap.size < w2.heap.size := by omega
  replace mmz : w.heap.size + 1 < w2.heap.size := by omega
  have h2 := curAt_keep h1 hb
  replace G := gb_trans G (gb_of_below (some g) hb)
  clear hb hsz
  replace hS0 := G.size
  have ll_4 := ll 4 _ rfl
  have mm_0 := mm 0 _ rfl
  have mm_1 := mm 1 _ rfl
  have mm_2 := mm 2 _ rfl
  go_wp2_with (first | ((with_reducible refine ld_lay ll rfl ?a2 ?h2); (case a2 => exact ⟨_, rfl, rfl, rfl⟩)))
  ((with_reducible refine (HL0.out _ h2).mono ?_); rintro e w3 ⟨rfl, h3, hb⟩)
  clear ll_4
  clear mm_0 mm_1 mm_2
  have hsz := hb.size
  (try simp at hsz)
  replace ll := cellsAt_gb ll hb (by omega)
  replace mm := cellsAt_gb mm hb (by omega)
  replace llz : w.heap.size < w3.heap.size := by omega
  replace mmz : w.heap.size + 1 < w3.heap.size := by omega
  replace G := gb_trans G hb
  clear hb hsz
  replace hS0 := G.size
  have ll_4 := ll 4 _ rfl
  have mm_0 := mm 0 _ rfl
  have mm_1 := mm 1 _ rfl
  have mm_2 := mm 2 _ rfl
  go_wp2_with (first | ((with_reducible refine ld_lay ll rfl ?a3 ?h3); (case a3 => exact ⟨_, rfl, rfl, rfl⟩)))
  ((with_reducible refine (rkind_any _ _).mono ?_); rintro e w' ⟨rfl, rfl⟩)
  go_wp2_with (first | ((with_reducible refine ld_lay ll rfl ?a4 ?h4); (case a4 => exact ⟨_, rfl, rfl, rfl⟩)))
  go_ret2
  exact ⟨rfl, h3, G⟩

theorem ask_f_idle (w : World) (g : Nat) (L : Ly) (hok : L.ok) (me other : Int) (m : Ct) (c0 : CSt) (h0 : CurAt w g c0) (s : Int) (b1 : Bool) (c1 : CSt) (ec1 : cdo c0 ⟨1, atStatus L other, 0, 0⟩ = ((s, b1), c1)) (hs : s % 4 = 0) :
    Calls Try.prog 86 #[.pointer (some ⟨g, 0, none⟩), L.v, .int .i64 me, .int .i64 other, .bool false, m.v] w fun e w' => e = .returned (.tuple #[.int .i64 0, .bool false]) ∧ CurAt w' g c1 ∧ w.grownBy w' (some g) := by
  have HS : Hid (∀ w, Calls Try.prog 46 #[L.v, .int .i64 other] w fun e w' => e = .returned (.int .i64 (atStatus L other)) ∧ Below w.heap.size w w') := Lib.hid (fun w => rstatus_any L other w hok)
  have HL1 : Hid (∀ w, CurAt w g c0 → Calls Try.prog 75 #[.pointer (some ⟨g, 0, none⟩), .int .i64 (atStatus L other)] w fun e w' => e = .returned (.int .i64 s) ∧ CurAt w' g c1 ∧ w.grownBy w' (some g)) := Lib.hid (fun w h => by have := rload_any02 w g c0 (atStatus L other) h; rw [ec1] at this; exact this)
  have q1 : (s % 4 == 0) = true := by simp [hs]
  unfold Ly.v at HS ⊢
  unfold Ct.v
  have hg0 := curAt_lt h0
  have G : w.grownBy w (some g) := gb_refl _ _
  have hS0 : w.heap.size + 0 ≤ w.heap.size := Nat.le_refl _
  go_enter Try.func86, Try.ntmps86
  go_wp2_with fail
  obtain ⟨w1, hwr⟩ : ∃ W, W = ((w.alloc (.cells #[.int .i64 L.c.t, .int .i64 L.c.l, .int .i64 L.c.k, .int .i64 L.c.s, .int .i64 L.c.m, .int .i64 L.clock, .int .i64 L.stamps, .int .i64 L.log, .int .i64 L.fin, .int .i64 L.thread, .int .i64 L.lock, .int .i64 L.loc, .int .i64 L.size] 25)).alloc (.cells #[.int .i64 m.s, .int .i64 m.k, .int .i64 m.a] 27)) := ⟨_, rfl⟩
  rw [← hwr]
  have hb : Below w.heap.size w w1 := by rw [hwr]; exact (Below.alloc (Below.alloc (Below.refl _ _) (by first | exact Nat.le_refl _ | (simp; omega) | simp) _) (by first | exact Nat.le_refl _ | (simp; omega) | simp) _)
  have ll : CellsAt w1 (w.heap.size) [.int .i64 L.c.t, .int .i64 L.c.l, .int .i64 L.c.k, .int .i64 L.c.s, .int .i64 L.c.m, .int .i64 L.clock, .int .i64 L.stamps, .int .i64 L.log, .int .i64 L.fin, .int .i64 L.thread, .int .i64 L.lock, .int .i64 L.loc, .int .i64 L.size] := by rw [hwr]; exact (cellsAt_alloc (cellsAt_new' w _ _ (w.heap.size) (by simp)) _)
  have llz : w.heap.size < w1.heap.size := World.block_lt_of_cell? _ _ (ll 0 _ rfl)
  have mm : CellsAt w1 (w.heap.size + 1) [.int .i64 m.s, .int .i64 m.k, .int .i64 m.a] := by rw [hwr]; exact (cellsAt_new' (w.alloc (.cells #[.int .i64 L.c.t, .int .i64 L.c.l, .int .i64 L.c.k, .int .i64 L.c.s, .int .i64 L.c.m, .int .i64 L.clock, .int .i64 L.stamps, .int .i64 L.log, .int .i64 L.fin, .int .i64 L.thread, .int .i64 L.lock, .int .i64 L.loc, .int .i64 L.size] 25)) _ _ (w.heap.size + 1) (by simp))
  have mmz : w.heap.size + 1 < w1.heap.size := World.block_lt_of_cell? _ _ (mm 0 _ rfl)
  have h1 := curAt_keep h0 hb
  replace G := gb_trans G (gb_of_below (some g) hb)
  clear hb hwr
  replace hS0 := G.size
  have ll_4 := ll 4 _ rfl
  have mm_0 := mm 0 _ rfl
  have mm_1 := mm 1 _ rfl
  have mm_2 := mm 2 _ rfl
  go_wp2_with (first | ((with_reducible refine ld_lay ll rfl ?a5 ?h5); (case a5 => exact ⟨_, rfl, rfl, rfl⟩)))
  ((with_reducible refine (HS.out _).mono ?_); rintro e w2 ⟨rfl, hb⟩)
  clear ll_4
  clear mm_0 mm_1 mm_2
  have hsz := hb.size
  (try simp at hsz)
  replace ll := cellsAt_keep ll hb
  replace mm := cellsAt_keep mm hb
  replace llz : w.heap.size < w2.heap.size := by omega
  replace mmz : w.heap.size + 1 < w2.heap.size := by omega
  have h2 := curAt_keep h1 hb
  replace G := gb_trans G (gb_of_below (some g) hb)
  clear hb hsz
  replace hS0 := G.size
  have ll_4 := ll 4 _ rfl
  have mm_0 := mm 0 _ rfl
  have mm_1 := mm 1 _ rfl
  have mm_2 := mm 2 _ rfl
  go_wp2_with (first | ((with_reducible refine ld_lay ll rfl ?a6 ?h6); (case a6 => exact ⟨_, rfl, rfl, rfl⟩)))
  ((with_reducible refine (HL1.out _ h2).mono ?_); rintro e w3 ⟨rfl, h3, hb⟩)
  clear ll_4
  clear mm_0 mm_1 mm_2
  have hsz := hb.size
  (try simp at hsz)
  replace ll := cellsAt_gb ll hb (by omega)
  replace mm := cellsAt_gb mm hb (by omega)
  replace llz : w.heap.size < w3.heap.size := by omega
  replace mmz : w.heap.size + 1 < w3.heap.size := by omega
  replace G := gb_trans G hb
  clear hb hsz
  replace hS0 := G.size
  have ll_4 := ll 4 _ rfl
  have mm_0 := mm 0 _ rfl
  have mm_1 := mm 1 _ rfl
  have mm_2 := mm 2 _ rfl
  go_wp2_with (first | ((with_reducible refine ld_lay ll rfl ?a7 ?h7); (case a7 => exact ⟨_, rfl, rfl, rfl⟩)))
  ((with_reducible refine (rkind_any _ _).mono ?_); rintro e w' ⟨rfl, rfl⟩)
  go_wp2_with (first | ((with_reducible refine ld_lay ll rfl ?a8 ?h8); (case a8 => exact ⟨_, rfl, rfl, rfl⟩)))
  go_ret2
  exact ⟨rfl, h3, G⟩

theorem ask_f_abort (w : World) (g : Nat) (L : Ly) (hok : L.ok) (me other : Int) (m : Ct) (c0 : CSt) (h0 : CurAt w g c0) (s : Int) (b1 : Bool) (c1 : CSt) (ec1 : cdo c0 ⟨1, atStatus L other, 0, 0⟩ = ((s, b1), c1)) (hs : ¬s % 4 = 0) (hi : I64 s) (x : Int) (b2 : Bool) (c2 : CSt) (ec2 : cdo c1 ⟨1, atStamp L other, 0, 0⟩ = ((x, b2), c2)) (y : Int) (b3 : Bool) (c3 : CSt) (ec3 : cdo c2 ⟨1, atKarma L other, 0, 0⟩ = ((y, b3), c3)) (hv : chooseD L.c.m m ⟨x, y, s / 4⟩ = 1) :
    Calls Try.prog 86 #[.pointer (some ⟨g, 0, none⟩), L.v, .int .i64 me, .int .i64 other, .bool false, m.v] w fun e w' => e = .returned (.tuple #[.int .i64 1, .bool false]) ∧ CurAt w' g c3 ∧ w.grownBy w' (some g) := by
  have HS : Hid (∀ w, Calls Try.prog 46 #[L.v, .int .i64 other] w fun e w' => e = .returned (.int .i64 (atStatus L other)) ∧ Below w.heap.size w w') := Lib.hid (fun w => rstatus_any L other w hok)
  have HL1 : Hid (∀ w, CurAt w g c0 → Calls Try.prog 75 #[.pointer (some ⟨g, 0, none⟩), .int .i64 (atStatus L other)] w fun e w' => e = .returned (.int .i64 s) ∧ CurAt w' g c1 ∧ w.grownBy w' (some g)) := Lib.hid (fun w h => by have := rload_any02 w g c0 (atStatus L other) h; rw [ec1] at this; exact this)
  have q1 : (s % 4 == 0) = false := by simp [hs]
  have HT : Hid (∀ w, Calls Try.prog 98 #[L.v, .int .i64 other] w fun e w' => e = .returned (.int .i64 (atStamp L other)) ∧ Below w.heap.size w w') := Lib.hid (fun w => rstamp_any L other w hok)
  have HK : Hid (∀ w, Calls Try.prog 99 #[L.v, .int .i64 other] w fun e w' => e = .returned (.int .i64 (atKarma L other)) ∧ Below w.heap.size w w') := Lib.hid (fun w => rkarma_any L other w hok)
  have HL2 : Hid (∀ w, CurAt w g c1 → Calls Try.prog 75 #[.pointer (some ⟨g, 0, none⟩), .int .i64 (atStamp L other)] w fun e w' => e = .returned (.int .i64 x) ∧ CurAt w' g c2 ∧ w.grownBy w' (some g)) := Lib.hid (fun w h => by have := rload_any02 w g c1 (atStamp L other) h; rw [ec2] at this; exact this)
  have HL3 : Hid (∀ w, CurAt w g c2 → Calls Try.prog 75 #[.pointer (some ⟨g, 0, none⟩), .int .i64 (atKarma L other)] w fun e w' => e = .returned (.int .i64 y) ∧ CurAt w' g c3 ∧ w.grownBy w' (some g)) := Lib.hid (fun w h => by have := rload_any02 w g c2 (atKarma L other) h; rw [ec3] at this; exact this)
  have HC : Hid (∀ w, Calls Try.prog 101 #[.int .i64 L.c.m, m.v, Ct.v ⟨x, y, s / 4⟩] w fun e w' => e = .returned (.int .i64 1) ∧ Below w.heap.size w w') := Lib.hid (fun w => by have := rchoose_any L.c.m m ⟨x, y, s / 4⟩ w; rwa [hv] at this)
  unfold Ct.v at HC
  unfold Ly.v at HS HT HK ⊢
  unfold Ct.v
  have hg0 := curAt_lt h0
  have G : w.grownBy w (some g) := gb_refl _ _
  have hS0 : w.heap.size + 0 ≤ w.heap.size := Nat.le_refl _
  go_enter Try.func86, Try.ntmps86
  go_wp2_with fail
  obtain ⟨w1, hwr⟩ : ∃ W, W = ((w.alloc (.cells #[.int .i64 L.c.t, .int .i64 L.c.l, .int .i64 L.c.k, .int .i64 L.c.s, .int .i64 L.c.m, .int .i64 L.clock, .int .i64 L.stamps, .int .i64 L.log, .int .i64 L.fin, .int .i64 L.thread, .int .i64 L.lock, .int .i64 L.loc, .int .i64 L.size] 25)).alloc (.cells #[.int .i64 m.s, .int .i64 m.k, .int .i64 m.a] 27)) := ⟨_, rfl⟩
  rw [← hwr]
  have hb : Below w.heap.size w w1 := by rw [hwr]; exact (Below.alloc (Below.alloc (Below.refl _ _) (by first | exact Nat.le_refl _ | (simp; omega) | simp) _) (by first | exact Nat.le_refl _ | (simp; omega) | simp) _)
  have ll : CellsAt w1 (w.heap.size) [.int .i64 L.c.t, .int .i64 L.c.l, .int .i64 L.c.k, .int .i64 L.c.s, .int .i64 L.c.m, .int .i64 L.clock, .int .i64 L.stamps, .int .i64 L.log, .int .i64 L.fin, .int .i64 L.thread, .int .i64 L.lock, .int .i64 L.loc, .int .i64 L.size] := by rw [hwr]; exact (cellsAt_alloc (cellsAt_new' w _ _ (w.heap.size) (by simp)) _)
  have llz : w.heap.size < w1.heap.size := World.block_lt_of_cell? _ _ (ll 0 _ rfl)
  have mm : CellsAt w1 (w.heap.size + 1) [.int .i64 m.s, .int .i64 m.k, .int .i64 m.a] := by rw [hwr]; exact (cellsAt_new' (w.alloc (.cells #[.int .i64 L.c.t, .int .i64 L.c.l, .int .i64 L.c.k, .int .i64 L.c.s, .int .i64 L.c.m, .int .i64 L.clock, .int .i64 L.stamps, .int .i64 L.log, .int .i64 L.fin, .int .i64 L.thread, .int .i64 L.lock, .int .i64 L.loc, .int .i64 L.size] 25)) _ _ (w.heap.size + 1) (by simp))
  have mmz : w.heap.size + 1 < w1.heap.size := World.block_lt_of_cell? _ _ (mm 0 _ rfl)
  have h1 := curAt_keep h0 hb
  replace G := gb_trans G (gb_of_below (some g) hb)
  clear hb hwr
  replace hS0 := G.size
  have ll_4 := ll 4 _ rfl
  have mm_0 := mm 0 _ rfl
  have mm_1 := mm 1 _ rfl
  have mm_2 := mm 2 _ rfl
  go_wp2_with (first | ((with_reducible refine ld_lay ll rfl ?a9 ?h9); (case a9 => exact ⟨_, rfl, rfl, rfl⟩)))
  ((with_reducible refine (HS.out _).mono ?_); rintro e w2 ⟨rfl, hb⟩)
  clear ll_4
  clear mm_0 mm_1 mm_2
  have hsz := hb.size
  (try simp at hsz)
  replace ll := cellsAt_keep ll hb
  replace mm := cellsAt_keep mm hb
  replace llz : w.heap.size < w2.heap.size := by omega
  replace mmz : w.heap.size + 1 < w2.heap.size := by omega
  have h2 := curAt_keep h1 hb
  replace G := gb_trans G (gb_of_below (some g) hb)
  clear hb hsz
  replace hS0 := G.size
  have ll_4 := ll 4 _ rfl
  have mm_0 := mm 0 _ rfl
  have mm_1 := mm 1 _ rfl
  have mm_2 := mm 2 _ rfl
  go_wp2_with (first | ((with_reducible refine ld_lay ll rfl ?a10 ?h10); (case a10 => exact ⟨_, rfl, rfl, rfl⟩)))
  ((with_reducible refine (HL1.out _ h2).mono ?_); rintro e w3 ⟨rfl, h3, hb⟩)
  clear ll_4
  clear mm_0 mm_1 mm_2
  have hsz := hb.size
  (try simp at hsz)
  replace ll := cellsAt_gb ll hb (by omega)
  replace mm := cellsAt_gb mm hb (by omega)
  replace llz : w.heap.size < w3.heap.size := by omega
  replace mmz : w.heap.size + 1 < w3.heap.size := by omega
  replace G := gb_trans G hb
  clear hb hsz
  replace hS0 := G.size
  have ll_4 := ll 4 _ rfl
  have mm_0 := mm 0 _ rfl
  have mm_1 := mm 1 _ rfl
  have mm_2 := mm 2 _ rfl
  go_wp2_with (first | ((with_reducible refine ld_lay ll rfl ?a11 ?h11); (case a11 => exact ⟨_, rfl, rfl, rfl⟩)))
  ((with_reducible refine (rkind_any _ _).mono ?_); rintro e w' ⟨rfl, rfl⟩)
  go_wp2_with (first | ((with_reducible refine ld_lay ll rfl ?a12 ?h12); (case a12 => exact ⟨_, rfl, rfl, rfl⟩)))
  ((with_reducible refine (HT.out _).mono ?_); rintro e w4 ⟨rfl, hb⟩)
  clear ll_4
  clear mm_0 mm_1 mm_2
  have hsz := hb.size
  (try simp at hsz)
  replace ll := cellsAt_keep ll hb
  replace mm := cellsAt_keep mm hb
  replace llz : w.heap.size < w4.heap.size := by omega
  replace mmz : w.heap.size + 1 < w4.heap.size := by omega
  have h4 := curAt_keep h3 hb
  replace G := gb_trans G (gb_of_below (some g) hb)
  clear hb hsz
  replace hS0 := G.size
  have ll_4 := ll 4 _ rfl
  have mm_0 := mm 0 _ rfl
  have mm_1 := mm 1 _ rfl
  have mm_2 := mm 2 _ rfl
  go_wp2_with (first | ((with_reducible refine ld_lay ll rfl ?a13 ?h13); (case a13 => exact ⟨_, rfl, rfl, rfl⟩)))
  ((with_reducible refine (HL2.out _ h4).mono ?_); rintro e w5 ⟨rfl, h5, hb⟩)
  clear ll_4
  clear mm_0 mm_1 mm_2
  have hsz := hb.size
  (try simp at hsz)
  replace ll := cellsAt_gb ll hb (by omega)
  replace mm := cellsAt_gb mm hb (by omega)
  replace llz : w.heap.size < w5.heap.size := by omega
  replace mmz : w.heap.size + 1 < w5.heap.size := by omega
  replace G := gb_trans G hb
  clear hb hsz
  replace hS0 := G.size
  have ll_4 := ll 4 _ rfl
  have mm_0 := mm 0 _ rfl
  have mm_1 := mm 1 _ rfl
  have mm_2 := mm 2 _ rfl
  go_wp2_with (first | ((with_reducible refine ld_lay ll rfl ?a14 ?h14); (case a14 => exact ⟨_, rfl, rfl, rfl⟩)))
  ((with_reducible refine (HK.out _).mono ?_); rintro e w6 ⟨rfl, hb⟩)
  clear ll_4
  clear mm_0 mm_1 mm_2
  have hsz := hb.size
  (try simp at hsz)
  replace ll := cellsAt_keep ll hb
  replace mm := cellsAt_keep mm hb
  replace llz : w.heap.size < w6.heap.size := by omega
  replace mmz : w.heap.size + 1 < w6.heap.size := by omega
  have h6 := curAt_keep h5 hb
  replace G := gb_trans G (gb_of_below (some g) hb)
  clear hb hsz
  replace hS0 := G.size
  have ll_4 := ll 4 _ rfl
  have mm_0 := mm 0 _ rfl
  have mm_1 := mm 1 _ rfl
  have mm_2 := mm 2 _ rfl
  go_wp2_with (first | ((with_reducible refine ld_lay ll rfl ?a15 ?h15); (case a15 => exact ⟨_, rfl, rfl, rfl⟩)))
  ((with_reducible refine (HL3.out _ h6).mono ?_); rintro e w7 ⟨rfl, h7, hb⟩)
  clear ll_4
  clear mm_0 mm_1 mm_2
  have hsz := hb.size
  (try simp at hsz)
  replace ll := cellsAt_gb ll hb (by omega)
  replace mm := cellsAt_gb mm hb (by omega)
  replace llz : w.heap.size < w7.heap.size := by omega
  replace mmz : w.heap.size + 1 < w7.heap.size := by omega
  replace G := gb_trans G hb
  clear hb hsz
  replace hS0 := G.size
  have ll_4 := ll 4 _ rfl
  have mm_0 := mm 0 _ rfl
  have mm_1 := mm 1 _ rfl
  have mm_2 := mm 2 _ rfl
  go_wp2_with (first | ((with_reducible refine ld_lay ll rfl ?a16 ?h16); (case a16 => exact ⟨_, rfl, rfl, rfl⟩)))
  ((with_reducible refine (rtry_any _ hi _).mono ?_); rintro e w' ⟨rfl, rfl⟩)
  go_wp2_with (first | ((with_reducible refine ld_lay ll rfl ?a17 ?h17); (case a17 => exact ⟨_, rfl, rfl, rfl⟩)))
  ((with_reducible refine (HC.out _).mono ?_); rintro e w8 ⟨rfl, hb⟩)
  clear ll_4
  clear mm_0 mm_1 mm_2
  have hsz := hb.size
  (try simp at hsz)
  replace ll := cellsAt_keep ll hb
  replace mm := cellsAt_keep mm hb
  replace llz : w.heap.size < w8.heap.size := by omega
  replace mmz : w.heap.size + 1 < w8.heap.size := by omega
  have h8 := curAt_keep h7 hb
  replace G := gb_trans G (gb_of_below (some g) hb)
  clear hb hsz
  replace hS0 := G.size
  have ll_4 := ll 4 _ rfl
  have mm_0 := mm 0 _ rfl
  have mm_1 := mm 1 _ rfl
  have mm_2 := mm 2 _ rfl
  go_wp2_with (first | ((with_reducible refine ld_lay ll rfl ?a18 ?h18); (case a18 => exact ⟨_, rfl, rfl, rfl⟩)))
  go_ret2
  exact ⟨rfl, h8, G⟩

theorem ask_f_k3 (w : World) (g : Nat) (L : Ly) (hok : L.ok) (me other : Int) (m : Ct) (c0 : CSt) (h0 : CurAt w g c0) (s : Int) (b1 : Bool) (c1 : CSt) (ec1 : cdo c0 ⟨1, atStatus L other, 0, 0⟩ = ((s, b1), c1)) (hs : ¬s % 4 = 0) (hi : I64 s) (x : Int) (b2 : Bool) (c2 : CSt) (ec2 : cdo c1 ⟨1, atStamp L other, 0, 0⟩ = ((x, b2), c2)) (y : Int) (b3 : Bool) (c3 : CSt) (ec3 : cdo c2 ⟨1, atKarma L other, 0, 0⟩ = ((y, b3), c3)) (hv : chooseD L.c.m m ⟨x, y, s / 4⟩ = 2) (hk : s % 4 = 3) :
    Calls Try.prog 86 #[.pointer (some ⟨g, 0, none⟩), L.v, .int .i64 me, .int .i64 other, .bool false, m.v] w fun e w' => e = .returned (.tuple #[.int .i64 2, .bool false]) ∧ CurAt w' g c3 ∧ w.grownBy w' (some g) := by
  have HS : Hid (∀ w, Calls Try.prog 46 #[L.v, .int .i64 other] w fun e w' => e = .returned (.int .i64 (atStatus L other)) ∧ Below w.heap.size w w') := Lib.hid (fun w => rstatus_any L other w hok)
  have HL1 : Hid (∀ w, CurAt w g c0 → Calls Try.prog 75 #[.pointer (some ⟨g, 0, none⟩), .int .i64 (atStatus L other)] w fun e w' => e = .returned (.int .i64 s) ∧ CurAt w' g c1 ∧ w.grownBy w' (some g)) := Lib.hid (fun w h => by have := rload_any02 w g c0 (atStatus L other) h; rw [ec1] at this; exact this)
  have q1 : (s % 4 == 0) = false := by simp [hs]
  have HT : Hid (∀ w, Calls Try.prog 98 #[L.v, .int .i64 other] w fun e w' => e = .returned (.int .i64 (atStamp L other)) ∧ Below w.heap.size w w') := Lib.hid (fun w => rstamp_any L other w hok)
  have HK : Hid (∀ w, Calls Try.prog 99 #[L.v, .int .i64 other] w fun e w' => e = .returned (.int .i64 (atKarma L other)) ∧ Below w.heap.size w w') := Lib.hid (fun w => rkarma_any L other w hok)
  have HL2 : Hid (∀ w, CurAt w g c1 → Calls Try.prog 75 #[.pointer (some ⟨g, 0, none⟩), .int .i64 (atStamp L other)] w fun e w' => e = .returned (.int .i64 x) ∧ CurAt w' g c2 ∧ w.grownBy w' (some g)) := Lib.hid (fun w h => by have := rload_any02 w g c1 (atStamp L other) h; rw [ec2] at this; exact this)
  have HL3 : Hid (∀ w, CurAt w g c2 → Calls Try.prog 75 #[.pointer (some ⟨g, 0, none⟩), .int .i64 (atKarma L other)] w fun e w' => e = .returned (.int .i64 y) ∧ CurAt w' g c3 ∧ w.grownBy w' (some g)) := Lib.hid (fun w h => by have := rload_any02 w g c2 (atKarma L other) h; rw [ec3] at this; exact this)
  have HC : Hid (∀ w, Calls Try.prog 101 #[.int .i64 L.c.m, m.v, Ct.v ⟨x, y, s / 4⟩] w fun e w' => e = .returned (.int .i64 2) ∧ Below w.heap.size w w') := Lib.hid (fun w => by have := rchoose_any L.c.m m ⟨x, y, s / 4⟩ w; rwa [hv] at this)
  unfold Ct.v at HC
  have q3 : (s % 4 == 3) = true := by simp [hk]
  unfold Ly.v at HS HT HK ⊢
  unfold Ct.v
  have hg0 := curAt_lt h0
  have G : w.grownBy w (some g) := gb_refl _ _
  have hS0 : w.heap.size + 0 ≤ w.heap.size := Nat.le_refl _
  go_enter Try.func86, Try.ntmps86
  go_wp2_with fail
  obtain ⟨w1, hwr⟩ : ∃ W, W = ((w.alloc (.cells #[.int .i64 L.c.t, .int .i64 L.c.l, .int .i64 L.c.k, .int .i64 L.c.s, .int .i64 L.c.m, .int .i64 L.clock, .int .i64 L.stamps, .int .i64 L.log, .int .i64 L.fin, .int .i64 L.thread, .int .i64 L.lock, .int .i64 L.loc, .int .i64 L.size] 25)).alloc (.cells #[.int .i64 m.s, .int .i64 m.k, .int .i64 m.a] 27)) := ⟨_, rfl⟩
  rw [← hwr]
  have hb : Below w.heap.size w w1 := by rw [hwr]; exact (Below.alloc (Below.alloc (Below.refl _ _) (by first | exact Nat.le_refl _ | (simp; omega) | simp) _) (by first | exact Nat.le_refl _ | (simp; omega) | simp) _)
  have ll : CellsAt w1 (w.heap.size) [.int .i64 L.c.t, .int .i64 L.c.l, .int .i64 L.c.k, .int .i64 L.c.s, .int .i64 L.c.m, .int .i64 L.clock, .int .i64 L.stamps, .int .i64 L.log, .int .i64 L.fin, .int .i64 L.thread, .int .i64 L.lock, .int .i64 L.loc, .int .i64 L.size] := by rw [hwr]; exact (cellsAt_alloc (cellsAt_new' w _ _ (w.heap.size) (by simp)) _)
  have llz : w.heap.size < w1.heap.size := World.block_lt_of_cell? _ _ (ll 0 _ rfl)
  have mm : CellsAt w1 (w.heap.size + 1) [.int .i64 m.s, .int .i64 m.k, .int .i64 m.a] := by rw [hwr]; exact (cellsAt_new' (w.alloc (.cells #[.int .i64 L.c.t, .int .i64 L.c.l, .int .i64 L.c.k, .int .i64 L.c.s, .int .i64 L.c.m, .int .i64 L.clock, .int .i64 L.stamps, .int .i64 L.log, .int .i64 L.fin, .int .i64 L.thread, .int .i64 L.lock, .int .i64 L.loc, .int .i64 L.size] 25)) _ _ (w.heap.size + 1) (by simp))
  have mmz : w.heap.size + 1 < w1.heap.size := World.block_lt_of_cell? _ _ (mm 0 _ rfl)
  have h1 := curAt_keep h0 hb
  replace G := gb_trans G (gb_of_below (some g) hb)
  clear hb hwr
  replace hS0 := G.size
  have ll_4 := ll 4 _ rfl
  have mm_0 := mm 0 _ rfl
  have mm_1 := mm 1 _ rfl
  have mm_2 := mm 2 _ rfl
  go_wp2_with (first | ((with_reducible refine ld_lay ll rfl ?a19 ?h19); (case a19 => exact ⟨_, rfl, rfl, rfl⟩)))
  ((with_reducible refine (HS.out _).mono ?_); rintro e w2 ⟨rfl, hb⟩)
  clear ll_4
  clear mm_0 mm_1 mm_2
  have hsz := hb.size
  (try simp at hsz)
  replace ll := cellsAt_keep ll hb
  replace mm := cellsAt_keep mm hb
  replace llz : w.heap.size < w2.heap.size := by omega
  replace mmz : w.heap.size + 1 < w2.heap.size := by omega
  have h2 := curAt_keep h1 hb
  replace G := gb_trans G (gb_of_below (some g) hb)
  clear hb hsz
  replace hS0 := G.size
  have ll_4 := ll 4 _ rfl
  have mm_0 := mm 0 _ rfl
  have mm_1 := mm 1 _ rfl
  have mm_2 := mm 2 _ rfl
  go_wp2_with (first | ((with_reducible refine ld_lay ll rfl ?a20 ?h20); (case a20 => exact ⟨_, rfl, rfl, rfl⟩)))
  ((with_reducible refine (HL1.out _ h2).mono ?_); rintro e w3 ⟨rfl, h3, hb⟩)
  clear ll_4
  clear mm_0 mm_1 mm_2
  have hsz := hb.size
  (try simp at hsz)
  replace ll := cellsAt_gb ll hb (by omega)
  replace mm := cellsAt_gb mm hb (by omega)
  replace llz : w.heap.size < w3.heap.size := by omega
  replace mmz : w.heap.size + 1 < w3.heap.size := by omega
  replace G := gb_trans G hb
  clear hb hsz
  replace hS0 := G.size
  have ll_4 := ll 4 _ rfl
  have mm_0 := mm 0 _ rfl
  have mm_1 := mm 1 _ rfl
  have mm_2 := mm 2 _ rfl
  go_wp2_with (first | ((with_reducible refine ld_lay ll rfl ?a21 ?h21); (case a21 => exact ⟨_, rfl, rfl, rfl⟩)))
  ((with_reducible refine (rkind_any _ _).mono ?_); rintro e w' ⟨rfl, rfl⟩)
  go_wp2_with (first | ((with_reducible refine ld_lay ll rfl ?a22 ?h22); (case a22 => exact ⟨_, rfl, rfl, rfl⟩)))
  ((with_reducible refine (HT.out _).mono ?_); rintro e w4 ⟨rfl, hb⟩)
  clear ll_4
  clear mm_0 mm_1 mm_2
  have hsz := hb.size
  (try simp at hsz)
  replace ll := cellsAt_keep ll hb
  replace mm := cellsAt_keep mm hb
  replace llz : w.heap.size < w4.heap.size := by omega
  replace mmz : w.heap.size + 1 < w4.heap.size := by omega
  have h4 := curAt_keep h3 hb
  replace G := gb_trans G (gb_of_below (some g) hb)
  clear hb hsz
  replace hS0 := G.size
  have ll_4 := ll 4 _ rfl
  have mm_0 := mm 0 _ rfl
  have mm_1 := mm 1 _ rfl
  have mm_2 := mm 2 _ rfl
  go_wp2_with (first | ((with_reducible refine ld_lay ll rfl ?a23 ?h23); (case a23 => exact ⟨_, rfl, rfl, rfl⟩)))
  ((with_reducible refine (HL2.out _ h4).mono ?_); rintro e w5 ⟨rfl, h5, hb⟩)
  clear ll_4
  clear mm_0 mm_1 mm_2
  have hsz := hb.size
  (try simp at hsz)
  replace ll := cellsAt_gb ll hb (by omega)
  replace mm := cellsAt_gb mm hb (by omega)
  replace llz : w.heap.size < w5.heap.size := by omega
  replace mmz : w.heap.size + 1 < w5.heap.size := by omega
  replace G := gb_trans G hb
  clear hb hsz
  replace hS0 := G.size
  have ll_4 := ll 4 _ rfl
  have mm_0 := mm 0 _ rfl
  have mm_1 := mm 1 _ rfl
  have mm_2 := mm 2 _ rfl
  go_wp2_with (first | ((with_reducible refine ld_lay ll rfl ?a24 ?h24); (case a24 => exact ⟨_, rfl, rfl, rfl⟩)))
  ((with_reducible refine (HK.out _).mono ?_); rintro e w6 ⟨rfl, hb⟩)
  clear ll_4
  clear mm_0 mm_1 mm_2
  have hsz := hb.size
  (try simp at hsz)
  replace ll := cellsAt_keep ll hb
  replace mm := cellsAt_keep mm hb
  replace llz : w.heap.size < w6.heap.size := by omega
  replace mmz : w.heap.size + 1 < w6.heap.size := by omega
  have h6 := curAt_keep h5 hb
  replace G := gb_trans G (gb_of_below (some g) hb)
  clear hb hsz
  replace hS0 := G.size
  have ll_4 := ll 4 _ rfl
  have mm_0 := mm 0 _ rfl
  have mm_1 := mm 1 _ rfl
  have mm_2 := mm 2 _ rfl
  go_wp2_with (first | ((with_reducible refine ld_lay ll rfl ?a25 ?h25); (case a25 => exact ⟨_, rfl, rfl, rfl⟩)))
  ((with_reducible refine (HL3.out _ h6).mono ?_); rintro e w7 ⟨rfl, h7, hb⟩)
  clear ll_4
  clear mm_0 mm_1 mm_2
  have hsz := hb.size
  (try simp at hsz)
  replace ll := cellsAt_gb ll hb (by omega)
  replace mm := cellsAt_gb mm hb (by omega)
  replace llz : w.heap.size < w7.heap.size := by omega
  replace mmz : w.heap.size + 1 < w7.heap.size := by omega
  replace G := gb_trans G hb
  clear hb hsz
  replace hS0 := G.size
  have ll_4 := ll 4 _ rfl
  have mm_0 := mm 0 _ rfl
  have mm_1 := mm 1 _ rfl
  have mm_2 := mm 2 _ rfl
  go_wp2_with (first | ((with_reducible refine ld_lay ll rfl ?a26 ?h26); (case a26 => exact ⟨_, rfl, rfl, rfl⟩)))
  ((with_reducible refine (rtry_any _ hi _).mono ?_); rintro e w' ⟨rfl, rfl⟩)
  go_wp2_with (first | ((with_reducible refine ld_lay ll rfl ?a27 ?h27); (case a27 => exact ⟨_, rfl, rfl, rfl⟩)))
  ((with_reducible refine (HC.out _).mono ?_); rintro e w8 ⟨rfl, hb⟩)
  clear ll_4
  clear mm_0 mm_1 mm_2
  have hsz := hb.size
  (try simp at hsz)
  replace ll := cellsAt_keep ll hb
  replace mm := cellsAt_keep mm hb
  replace llz : w.heap.size < w8.heap.size := by omega
  replace mmz : w.heap.size + 1 < w8.heap.size := by omega
  have h8 := curAt_keep h7 hb
  replace G := gb_trans G (gb_of_below (some g) hb)
  clear hb hsz
  replace hS0 := G.size
  have ll_4 := ll 4 _ rfl
  have mm_0 := mm 0 _ rfl
  have mm_1 := mm 1 _ rfl
  have mm_2 := mm 2 _ rfl
  go_wp2_with (first | ((with_reducible refine ld_lay ll rfl ?a28 ?h28); (case a28 => exact ⟨_, rfl, rfl, rfl⟩)))
  go_ret2
  exact ⟨rfl, h8, G⟩

theorem ask_f_k2 (w : World) (g : Nat) (L : Ly) (hok : L.ok) (me other : Int) (m : Ct) (c0 : CSt) (h0 : CurAt w g c0) (s : Int) (b1 : Bool) (c1 : CSt) (ec1 : cdo c0 ⟨1, atStatus L other, 0, 0⟩ = ((s, b1), c1)) (hs : ¬s % 4 = 0) (hi : I64 s) (x : Int) (b2 : Bool) (c2 : CSt) (ec2 : cdo c1 ⟨1, atStamp L other, 0, 0⟩ = ((x, b2), c2)) (y : Int) (b3 : Bool) (c3 : CSt) (ec3 : cdo c2 ⟨1, atKarma L other, 0, 0⟩ = ((y, b3), c3)) (hv : chooseD L.c.m m ⟨x, y, s / 4⟩ = 2) (hk : s % 4 = 2) :
    Calls Try.prog 86 #[.pointer (some ⟨g, 0, none⟩), L.v, .int .i64 me, .int .i64 other, .bool false, m.v] w fun e w' => e = .returned (.tuple #[.int .i64 3, .bool false]) ∧ CurAt w' g c3 ∧ w.grownBy w' (some g) := by
  have HS : Hid (∀ w, Calls Try.prog 46 #[L.v, .int .i64 other] w fun e w' => e = .returned (.int .i64 (atStatus L other)) ∧ Below w.heap.size w w') := Lib.hid (fun w => rstatus_any L other w hok)
  have HL1 : Hid (∀ w, CurAt w g c0 → Calls Try.prog 75 #[.pointer (some ⟨g, 0, none⟩), .int .i64 (atStatus L other)] w fun e w' => e = .returned (.int .i64 s) ∧ CurAt w' g c1 ∧ w.grownBy w' (some g)) := Lib.hid (fun w h => by have := rload_any02 w g c0 (atStatus L other) h; rw [ec1] at this; exact this)
  have q1 : (s % 4 == 0) = false := by simp [hs]
  have HT : Hid (∀ w, Calls Try.prog 98 #[L.v, .int .i64 other] w fun e w' => e = .returned (.int .i64 (atStamp L other)) ∧ Below w.heap.size w w') := Lib.hid (fun w => rstamp_any L other w hok)
  have HK : Hid (∀ w, Calls Try.prog 99 #[L.v, .int .i64 other] w fun e w' => e = .returned (.int .i64 (atKarma L other)) ∧ Below w.heap.size w w') := Lib.hid (fun w => rkarma_any L other w hok)
  have HL2 : Hid (∀ w, CurAt w g c1 → Calls Try.prog 75 #[.pointer (some ⟨g, 0, none⟩), .int .i64 (atStamp L other)] w fun e w' => e = .returned (.int .i64 x) ∧ CurAt w' g c2 ∧ w.grownBy w' (some g)) := Lib.hid (fun w h => by have := rload_any02 w g c1 (atStamp L other) h; rw [ec2] at this; exact this)
  have HL3 : Hid (∀ w, CurAt w g c2 → Calls Try.prog 75 #[.pointer (some ⟨g, 0, none⟩), .int .i64 (atKarma L other)] w fun e w' => e = .returned (.int .i64 y) ∧ CurAt w' g c3 ∧ w.grownBy w' (some g)) := Lib.hid (fun w h => by have := rload_any02 w g c2 (atKarma L other) h; rw [ec3] at this; exact this)
  have HC : Hid (∀ w, Calls Try.prog 101 #[.int .i64 L.c.m, m.v, Ct.v ⟨x, y, s / 4⟩] w fun e w' => e = .returned (.int .i64 2) ∧ Below w.heap.size w w') := Lib.hid (fun w => by have := rchoose_any L.c.m m ⟨x, y, s / 4⟩ w; rwa [hv] at this)
  unfold Ct.v at HC
  have q3 : (s % 4 == 3) = false := by simp [hk]
  have q2 : (s % 4 == 2) = true := by simp [hk]
  unfold Ly.v at HS HT HK ⊢
  unfold Ct.v
  have hg0 := curAt_lt h0
  have G : w.grownBy w (some g) := gb_refl _ _
  have hS0 : w.heap.size + 0 ≤ w.heap.size := Nat.le_refl _
  go_enter Try.func86, Try.ntmps86
  go_wp2_with fail
  obtain ⟨w1, hwr⟩ : ∃ W, W = ((w.alloc (.cells #[.int .i64 L.c.t, .int .i64 L.c.l, .int .i64 L.c.k, .int .i64 L.c.s, .int .i64 L.c.m, .int .i64 L.clock, .int .i64 L.stamps, .int .i64 L.log, .int .i64 L.fin, .int .i64 L.thread, .int .i64 L.lock, .int .i64 L.loc, .int .i64 L.size] 25)).alloc (.cells #[.int .i64 m.s, .int .i64 m.k, .int .i64 m.a] 27)) := ⟨_, rfl⟩
  rw [← hwr]
  have hb : Below w.heap.size w w1 := by rw [hwr]; exact (Below.alloc (Below.alloc (Below.refl _ _) (by first | exact Nat.le_refl _ | (simp; omega) | simp) _) (by first | exact Nat.le_refl _ | (simp; omega) | simp) _)
  have ll : CellsAt w1 (w.heap.size) [.int .i64 L.c.t, .int .i64 L.c.l, .int .i64 L.c.k, .int .i64 L.c.s, .int .i64 L.c.m, .int .i64 L.clock, .int .i64 L.stamps, .int .i64 L.log, .int .i64 L.fin, .int .i64 L.thread, .int .i64 L.lock, .int .i64 L.loc, .int .i64 L.size] := by rw [hwr]; exact (cellsAt_alloc (cellsAt_new' w _ _ (w.heap.size) (by simp)) _)
  have llz : w.heap.size < w1.heap.size := World.block_lt_of_cell? _ _ (ll 0 _ rfl)
  have mm : CellsAt w1 (w.heap.size + 1) [.int .i64 m.s, .int .i64 m.k, .int .i64 m.a] := by rw [hwr]; exact (cellsAt_new' (w.alloc (.cells #[.int .i64 L.c.t, .int .i64 L.c.l, .int .i64 L.c.k, .int .i64 L.c.s, .int .i64 L.c.m, .int .i64 L.clock, .int .i64 L.stamps, .int .i64 L.log, .int .i64 L.fin, .int .i64 L.thread, .int .i64 L.lock, .int .i64 L.loc, .int .i64 L.size] 25)) _ _ (w.heap.size + 1) (by simp))
  have mmz : w.heap.size + 1 < w1.heap.size := World.block_lt_of_cell? _ _ (mm 0 _ rfl)
  have h1 := curAt_keep h0 hb
  replace G := gb_trans G (gb_of_below (some g) hb)
  clear hb hwr
  replace hS0 := G.size
  have ll_4 := ll 4 _ rfl
  have mm_0 := mm 0 _ rfl
  have mm_1 := mm 1 _ rfl
  have mm_2 := mm 2 _ rfl
  go_wp2_with (first | ((with_reducible refine ld_lay ll rfl ?a29 ?h29); (case a29 => exact ⟨_, rfl, rfl, rfl⟩)))
  ((with_reducible refine (HS.out _).mono ?_); rintro e w2 ⟨rfl, hb⟩)
  clear ll_4
  clear mm_0 mm_1 mm_2
  have hsz := hb.size
  (try simp at hsz)
  replace ll := cellsAt_keep ll hb
  replace mm := cellsAt_keep mm hb
  replace llz : w.heap.size < w2.heap.size := by omega
  replace mmz : w.heap.size + 1 < w2.heap.size := by omega
  have h2 := curAt_keep h1 hb
  replace G := gb_trans G (gb_of_below (some g) hb)
  clear hb hsz
  replace hS0 := G.size
  have ll_4 := ll 4 _ rfl
  have mm_0 := mm 0 _ rfl
  have mm_1 := mm 1 _ rfl
  have mm_2 := mm 2 _ rfl
  go_wp2_with (first | ((with_reducible refine ld_lay ll rfl ?a30 ?h30); (case a30 => exact ⟨_, rfl, rfl, rfl⟩)))
  ((with_reducible refine (HL1.out _ h2).mono ?_); rintro e w3 ⟨rfl, h3, hb⟩)
  clear ll_4
  clear mm_0 mm_1 mm_2
  have hsz := hb.size
  (try simp at hsz)
  replace ll := cellsAt_gb ll hb (by omega)
  replace mm := cellsAt_gb mm hb (by omega)
  replace llz : w.heap.size < w3.heap.size := by omega
  replace mmz : w.heap.size + 1 < w3.heap.size := by omega
  replace G := gb_trans G hb
  clear hb hsz
  replace hS0 := G.size
  have ll_4 := ll 4 _ rfl
  have mm_0 := mm 0 _ rfl
  have mm_1 := mm 1 _ rfl
  have mm_2 := mm 2 _ rfl
  go_wp2_with (first | ((with_reducible refine ld_lay ll rfl ?a31 ?h31); (case a31 => exact ⟨_, rfl, rfl, rfl⟩)))
  ((with_reducible refine (rkind_any _ _).mono ?_); rintro e w' ⟨rfl, rfl⟩)
  go_wp2_with (first | ((with_reducible refine ld_lay ll rfl ?a32 ?h32); (case a32 => exact ⟨_, rfl, rfl, rfl⟩)))
  ((with_reducible refine (HT.out _).mono ?_); rintro e w4 ⟨rfl, hb⟩)
  clear ll_4
  clear mm_0 mm_1 mm_2
  have hsz := hb.size
  (try simp at hsz)
  replace ll := cellsAt_keep ll hb
  replace mm := cellsAt_keep mm hb
  replace llz : w.heap.size < w4.heap.size := by omega
  replace mmz : w.heap.size + 1 < w4.heap.size := by omega
  have h4 := curAt_keep h3 hb
  replace G := gb_trans G (gb_of_below (some g) hb)
  clear hb hsz
  replace hS0 := G.size
  have ll_4 := ll 4 _ rfl
  have mm_0 := mm 0 _ rfl
  have mm_1 := mm 1 _ rfl
  have mm_2 := mm 2 _ rfl
  go_wp2_with (first | ((with_reducible refine ld_lay ll rfl ?a33 ?h33); (case a33 => exact ⟨_, rfl, rfl, rfl⟩)))
  ((with_reducible refine (HL2.out _ h4).mono ?_); rintro e w5 ⟨rfl, h5, hb⟩)
  clear ll_4
  clear mm_0 mm_1 mm_2
  have hsz := hb.size
  (try simp at hsz)
  replace ll := cellsAt_gb ll hb (by omega)
  replace mm := cellsAt_gb mm hb (by omega)
  replace llz : w.heap.size < w5.heap.size := by omega
  replace mmz : w.heap.size + 1 < w5.heap.size := by omega
  replace G := gb_trans G hb
  clear hb hsz
  replace hS0 := G.size
  have ll_4 := ll 4 _ rfl
  have mm_0 := mm 0 _ rfl
  have mm_1 := mm 1 _ rfl
  have mm_2 := mm 2 _ rfl
  go_wp2_with (first | ((with_reducible refine ld_lay ll rfl ?a34 ?h34); (case a34 => exact ⟨_, rfl, rfl, rfl⟩)))
  ((with_reducible refine (HK.out _).mono ?_); rintro e w6 ⟨rfl, hb⟩)
  clear ll_4
  clear mm_0 mm_1 mm_2
  have hsz := hb.size
  (try simp at hsz)
  replace ll := cellsAt_keep ll hb
  replace mm := cellsAt_keep mm hb
  replace llz : w.heap.size < w6.heap.size := by omega
  replace mmz : w.heap.size + 1 < w6.heap.size := by omega
  have h6 := curAt_keep h5 hb
  replace G := gb_trans G (gb_of_below (some g) hb)
  clear hb hsz
  replace hS0 := G.size
  have ll_4 := ll 4 _ rfl
  have mm_0 := mm 0 _ rfl
  have mm_1 := mm 1 _ rfl
  have mm_2 := mm 2 _ rfl
  go_wp2_with (first | ((with_reducible refine ld_lay ll rfl ?a35 ?h35); (case a35 => exact ⟨_, rfl, rfl, rfl⟩)))
  ((with_reducible refine (HL3.out _ h6).mono ?_); rintro e w7 ⟨rfl, h7, hb⟩)
  clear ll_4
  clear mm_0 mm_1 mm_2
  have hsz := hb.size
  (try simp at hsz)
  replace ll := cellsAt_gb ll hb (by omega)
  replace mm := cellsAt_gb mm hb (by omega)
  replace llz : w.heap.size < w7.heap.size := by omega
  replace mmz : w.heap.size + 1 < w7.heap.size := by omega
  replace G := gb_trans G hb
  clear hb hsz
  replace hS0 := G.size
  have ll_4 := ll 4 _ rfl
  have mm_0 := mm 0 _ rfl
  have mm_1 := mm 1 _ rfl
  have mm_2 := mm 2 _ rfl
  go_wp2_with (first | ((with_reducible refine ld_lay ll rfl ?a36 ?h36); (case a36 => exact ⟨_, rfl, rfl, rfl⟩)))
  ((with_reducible refine (rtry_any _ hi _).mono ?_); rintro e w' ⟨rfl, rfl⟩)
  go_wp2_with (first | ((with_reducible refine ld_lay ll rfl ?a37 ?h37); (case a37 => exact ⟨_, rfl, rfl, rfl⟩)))
  ((with_reducible refine (HC.out _).mono ?_); rintro e w8 ⟨rfl, hb⟩)
  clear ll_4
  clear mm_0 mm_1 mm_2
  have hsz := hb.size
  (try simp at hsz)
  replace ll := cellsAt_keep ll hb
  replace mm := cellsAt_keep mm hb
  replace llz : w.heap.size < w8.heap.size := by omega
  replace mmz : w.heap.size + 1 < w8.heap.size := by omega
  have h8 := curAt_keep h7 hb
  replace G := gb_trans G (gb_of_below (some g) hb)
  clear hb hsz
  replace hS0 := G.size
  have ll_4 := ll 4 _ rfl
  have mm_0 := mm 0 _ rfl
  have mm_1 := mm 1 _ rfl
  have mm_2 := mm 2 _ rfl
  go_wp2_with (first | ((with_reducible refine ld_lay ll rfl ?a38 ?h38); (case a38 => exact ⟨_, rfl, rfl, rfl⟩)))
  go_ret2
  exact ⟨rfl, h8, G⟩

theorem ask_f_cast (w : World) (g : Nat) (L : Ly) (hok : L.ok) (me other : Int) (m : Ct) (c0 : CSt) (h0 : CurAt w g c0) (s : Int) (b1 : Bool) (c1 : CSt) (ec1 : cdo c0 ⟨1, atStatus L other, 0, 0⟩ = ((s, b1), c1)) (hs : ¬s % 4 = 0) (hi : I64 s) (x : Int) (b2 : Bool) (c2 : CSt) (ec2 : cdo c1 ⟨1, atStamp L other, 0, 0⟩ = ((x, b2), c2)) (y : Int) (b3 : Bool) (c3 : CSt) (ec3 : cdo c2 ⟨1, atKarma L other, 0, 0⟩ = ((y, b3), c3)) (hv : chooseD L.c.m m ⟨x, y, s / 4⟩ = 2) (hk : s % 4 = 1) (z : Int) (c4 : CSt) (ec4 : cdo c3 ⟨3, atStatus L other, s, wrap64 (4 * (s / 4) + 3)⟩ = ((z, true), c4)) :
    Calls Try.prog 86 #[.pointer (some ⟨g, 0, none⟩), L.v, .int .i64 me, .int .i64 other, .bool false, m.v] w fun e w' => e = .returned (.tuple #[.int .i64 2, .bool false]) ∧ CurAt w' g c4 ∧ w.grownBy w' (some g) := by
  have HS : Hid (∀ w, Calls Try.prog 46 #[L.v, .int .i64 other] w fun e w' => e = .returned (.int .i64 (atStatus L other)) ∧ Below w.heap.size w w') := Lib.hid (fun w => rstatus_any L other w hok)
  have HL1 : Hid (∀ w, CurAt w g c0 → Calls Try.prog 75 #[.pointer (some ⟨g, 0, none⟩), .int .i64 (atStatus L other)] w fun e w' => e = .returned (.int .i64 s) ∧ CurAt w' g c1 ∧ w.grownBy w' (some g)) := Lib.hid (fun w h => by have := rload_any02 w g c0 (atStatus L other) h; rw [ec1] at this; exact this)
  have q1 : (s % 4 == 0) = false := by simp [hs]
  have HT : Hid (∀ w, Calls Try.prog 98 #[L.v, .int .i64 other] w fun e w' => e = .returned (.int .i64 (atStamp L other)) ∧ Below w.heap.size w w') := Lib.hid (fun w => rstamp_any L other w hok)
  have HK : Hid (∀ w, Calls Try.prog 99 #[L.v, .int .i64 other] w fun e w' => e = .returned (.int .i64 (atKarma L other)) ∧ Below w.heap.size w w') := Lib.hid (fun w => rkarma_any L other w hok)
  have HL2 : Hid (∀ w, CurAt w g c1 → Calls Try.prog 75 #[.pointer (some ⟨g, 0, none⟩), .int .i64 (atStamp L other)] w fun e w' => e = .returned (.int .i64 x) ∧ CurAt w' g c2 ∧ w.grownBy w' (some g)) := Lib.hid (fun w h => by have := rload_any02 w g c1 (atStamp L other) h; rw [ec2] at this; exact this)
  have HL3 : Hid (∀ w, CurAt w g c2 → Calls Try.prog 75 #[.pointer (some ⟨g, 0, none⟩), .int .i64 (atKarma L other)] w fun e w' => e = .returned (.int .i64 y) ∧ CurAt w' g c3 ∧ w.grownBy w' (some g)) := Lib.hid (fun w h => by have := rload_any02 w g c2 (atKarma L other) h; rw [ec3] at this; exact this)
  have HC : Hid (∀ w, Calls Try.prog 101 #[.int .i64 L.c.m, m.v, Ct.v ⟨x, y, s / 4⟩] w fun e w' => e = .returned (.int .i64 2) ∧ Below w.heap.size w w') := Lib.hid (fun w => by have := rchoose_any L.c.m m ⟨x, y, s / 4⟩ w; rwa [hv] at this)
  unfold Ct.v at HC
  have q3 : (s % 4 == 3) = false := by simp [hk]
  have q2 : (s % 4 == 2) = false := by simp [hk]
  have HX : Hid (∀ w, CurAt w g c3 → Calls Try.prog 76 #[.pointer (some ⟨g, 0, none⟩), .int .i64 (atStatus L other), .int .i64 s, .int .i64 (wrap64 (4 * (s / 4) + 3))] w fun e w' => e = .returned (.bool true) ∧ CurAt w' g c4 ∧ w.grownBy w' (some g)) := Lib.hid (fun w h => by have := rcas_any02 w g c3 (atStatus L other) s (wrap64 (4 * (s / 4) + 3)) h; rw [ec4] at this; exact this)
  unfold Ly.v at HS HT HK ⊢
  unfold Ct.v
  have hg0 := curAt_lt h0
  have G : w.grownBy w (some g) := gb_refl _ _
  have hS0 : w.heap.size + 0 ≤ w.heap.size := Nat.le_refl _
  go_enter Try.func86, Try.ntmps86
  go_wp2_with fail
  obtain ⟨w1, hwr⟩ : ∃ W, W = ((w.alloc (.cells #[.int .i64 L.c.t, .int .i64 L.c.l, .int .i64 L.c.k, .int .i64 L.c.s, .int .i64 L.c.m, .int .i64 L.clock, .int .i64 L.stamps, .int .i64 L.log, .int .i64 L.fin, .int .i64 L.thread, .int .i64 L.lock, .int .i64 L.loc, .int .i64 L.size] 25)).alloc (.cells #[.int .i64 m.s, .int .i64 m.k, .int .i64 m.a] 27)) := ⟨_, rfl⟩
  rw [← hwr]
  have hb : Below w.heap.size w w1 := by rw [hwr]; exact (Below.alloc (Below.alloc (Below.refl _ _) (by first | exact Nat.le_refl _ | (simp; omega) | simp) _) (by first | exact Nat.le_refl _ | (simp; omega) | simp) _)
  have ll : CellsAt w1 (w.heap.size) [.int .i64 L.c.t, .int .i64 L.c.l, .int .i64 L.c.k, .int .i64 L.c.s, .int .i64 L.c.m, .int .i64 L.clock, .int .i64 L.stamps, .int .i64 L.log, .int .i64 L.fin, .int .i64 L.thread, .int .i64 L.lock, .int .i64 L.loc, .int .i64 L.size] := by rw [hwr]; exact (cellsAt_alloc (cellsAt_new' w _ _ (w.heap.size) (by simp)) _)
  have llz : w.heap.size < w1.heap.size := World.block_lt_of_cell? _ _ (ll 0 _ rfl)
  have mm : CellsAt w1 (w.heap.size + 1) [.int .i64 m.s, .int .i64 m.k, .int .i64 m.a] := by rw [hwr]; exact (cellsAt_new' (w.alloc (.cells #[.int .i64 L.c.t, .int .i64 L.c.l, .int .i64 L.c.k, .int .i64 L.c.s, .int .i64 L.c.m, .int .i64 L.clock, .int .i64 L.stamps, .int .i64 L.log, .int .i64 L.fin, .int .i64 L.thread, .int .i64 L.lock, .int .i64 L.loc, .int .i64 L.size] 25)) _ _ (w.heap.size + 1) (by simp))
  have mmz : w.heap.size + 1 < w1.heap.size := World.block_lt_of_cell? _ _ (mm 0 _ rfl)
  have h1 := curAt_keep h0 hb
  replace G := gb_trans G (gb_of_below (some g) hb)
  clear hb hwr
  replace hS0 := G.size
  have ll_4 := ll 4 _ rfl
  have mm_0 := mm 0 _ rfl
  have mm_1 := mm 1 _ rfl
  have mm_2 := mm 2 _ rfl
  go_wp2_with (first | ((with_reducible refine ld_lay ll rfl ?a39 ?h39); (case a39 => exact ⟨_, rfl, rfl, rfl⟩)))
  ((with_reducible refine (HS.out _).mono ?_); rintro e w2 ⟨rfl, hb⟩)
  clear ll_4
  clear mm_0 mm_1 mm_2
  have hsz := hb.size
  (try simp at hsz)
  replace ll := cellsAt_keep ll hb
  replace mm := cellsAt_keep mm hb
  replace llz : w.heap.size < w2.heap.size := by omega
  replace mmz : w.heap.size + 1 < w2.heap.size := by omega
  have h2 := curAt_keep h1 hb
  replace G := gb_trans G (gb_of_below (some g) hb)
  clear hb hsz
  replace hS0 := G.size
  have ll_4 := ll 4 _ rfl
  have mm_0 := mm 0 _ rfl
  have mm_1 := mm 1 _ rfl
  have mm_2 := mm 2 _ rfl
  go_wp2_with (first | ((with_reducible refine ld_lay ll rfl ?a40 ?h40); (case a40 => exact ⟨_, rfl, rfl, rfl⟩)))
  ((with_reducible refine (HL1.out _ h2).mono ?_); rintro e w3 ⟨rfl, h3, hb⟩)
  clear ll_4
  clear mm_0 mm_1 mm_2
  have hsz := hb.size
  (try simp at hsz)
  replace ll := cellsAt_gb ll hb (by omega)
  replace mm := cellsAt_gb mm hb (by omega)
  replace llz : w.heap.size < w3.heap.size := by omega
  replace mmz : w.heap.size + 1 < w3.heap.size := by omega
  replace G := gb_trans G hb
  clear hb hsz
  replace hS0 := G.size
  have ll_4 := ll 4 _ rfl
  have mm_0 := mm 0 _ rfl
  have mm_1 := mm 1 _ rfl
  have mm_2 := mm 2 _ rfl
  go_wp2_with (first | ((with_reducible refine ld_lay ll rfl ?a41 ?h41); (case a41 => exact ⟨_, rfl, rfl, rfl⟩)))
  ((with_reducible refine (rkind_any _ _).mono ?_); rintro e w' ⟨rfl, rfl⟩)
  go_wp2_with (first | ((with_reducible refine ld_lay ll rfl ?a42 ?h42); (case a42 => exact ⟨_, rfl, rfl, rfl⟩)))
  ((with_reducible refine (HT.out _).mono ?_); rintro e w4 ⟨rfl, hb⟩)
  clear ll_4
  clear mm_0 mm_1 mm_2
  have hsz := hb.size
  (try simp at hsz)
  replace ll := cellsAt_keep ll hb
  replace mm := cellsAt_keep mm hb
  replace llz : w.heap.size < w4.heap.size := by omega
  replace mmz : w.heap.size + 1 < w4.heap.size := by omega
  have h4 := curAt_keep h3 hb
  replace G := gb_trans G (gb_of_below (some g) hb)
  clear hb hsz
  replace hS0 := G.size
  have ll_4 := ll 4 _ rfl
  have mm_0 := mm 0 _ rfl
  have mm_1 := mm 1 _ rfl
  have mm_2 := mm 2 _ rfl
  go_wp2_with (first | ((with_reducible refine ld_lay ll rfl ?a43 ?h43); (case a43 => exact ⟨_, rfl, rfl, rfl⟩)))
  ((with_reducible refine (HL2.out _ h4).mono ?_); rintro e w5 ⟨rfl, h5, hb⟩)
  clear ll_4
  clear mm_0 mm_1 mm_2
  have hsz := hb.size
  (try simp at hsz)
  replace ll := cellsAt_gb ll hb (by omega)
  replace mm := cellsAt_gb mm hb (by omega)
  replace llz : w.heap.size < w5.heap.size := by omega
  replace mmz : w.heap.size + 1 < w5.heap.size := by omega
  replace G := gb_trans G hb
  clear hb hsz
  replace hS0 := G.size
  have ll_4 := ll 4 _ rfl
  have mm_0 := mm 0 _ rfl
  have mm_1 := mm 1 _ rfl
  have mm_2 := mm 2 _ rfl
  go_wp2_with (first | ((with_reducible refine ld_lay ll rfl ?a44 ?h44); (case a44 => exact ⟨_, rfl, rfl, rfl⟩)))
  ((with_reducible refine (HK.out _).mono ?_); rintro e w6 ⟨rfl, hb⟩)
  clear ll_4
  clear mm_0 mm_1 mm_2
  have hsz := hb.size
  (try simp at hsz)
  replace ll := cellsAt_keep ll hb
  replace mm := cellsAt_keep mm hb
  replace llz : w.heap.size < w6.heap.size := by omega
  replace mmz : w.heap.size + 1 < w6.heap.size := by omega
  have h6 := curAt_keep h5 hb
  replace G := gb_trans G (gb_of_below (some g) hb)
  clear hb hsz
  replace hS0 := G.size
  have ll_4 := ll 4 _ rfl
  have mm_0 := mm 0 _ rfl
  have mm_1 := mm 1 _ rfl
  have mm_2 := mm 2 _ rfl
  go_wp2_with (first | ((with_reducible refine ld_lay ll rfl ?a45 ?h45); (case a45 => exact ⟨_, rfl, rfl, rfl⟩)))
  ((with_reducible refine (HL3.out _ h6).mono ?_); rintro e w7 ⟨rfl, h7, hb⟩)
  clear ll_4
  clear mm_0 mm_1 mm_2
  have hsz := hb.size
  (try simp at hsz)
  replace ll := cellsAt_gb ll hb (by omega)
  replace mm := cellsAt_gb mm hb (by omega)
  replace llz : w.heap.size < w7.heap.size := by omega
  replace mmz : w.heap.size + 1 < w7.heap.size := by omega
  replace G := gb_trans G hb
  clear hb hsz
  replace hS0 := G.size
  have ll_4 := ll 4 _ rfl
  have mm_0 := mm 0 _ rfl
  have mm_1 := mm 1 _ rfl
  have mm_2 := mm 2 _ rfl
  go_wp2_with (first | ((with_reducible refine ld_lay ll rfl ?a46 ?h46); (case a46 => exact ⟨_, rfl, rfl, rfl⟩)))
  ((with_reducible refine (rtry_any _ hi _).mono ?_); rintro e w' ⟨rfl, rfl⟩)
  go_wp2_with (first | ((with_reducible refine ld_lay ll rfl ?a47 ?h47); (case a47 => exact ⟨_, rfl, rfl, rfl⟩)))
  ((with_reducible refine (HC.out _).mono ?_); rintro e w8 ⟨rfl, hb⟩)
  clear ll_4
  clear mm_0 mm_1 mm_2
  have hsz := hb.size
  (try simp at hsz)
  replace ll := cellsAt_keep ll hb
  replace mm := cellsAt_keep mm hb
  replace llz : w.heap.size < w8.heap.size := by omega
  replace mmz : w.heap.size + 1 < w8.heap.size := by omega
  have h8 := curAt_keep h7 hb
  replace G := gb_trans G (gb_of_below (some g) hb)
  clear hb hsz
  replace hS0 := G.size
  have ll_4 := ll 4 _ rfl
  have mm_0 := mm 0 _ rfl
  have mm_1 := mm 1 _ rfl
  have mm_2 := mm 2 _ rfl
  go_wp2_with (first | ((with_reducible refine ld_lay ll rfl ?a48 ?h48); (case a48 => exact ⟨_, rfl, rfl, rfl⟩)))
  ((with_reducible refine (HS.out _).mono ?_); rintro e w9 ⟨rfl, hb⟩)
  clear ll_4
  clear mm_0 mm_1 mm_2
  have hsz := hb.size
  (try simp at hsz)
  replace ll := cellsAt_keep ll hb
  replace mm := cellsAt_keep mm hb
  replace llz : w.heap.size < w9.heap.size := by omega
  replace mmz : w.heap.size + 1 < w9.heap.size := by omega
  have h9 := curAt_keep h8 hb
  replace G := gb_trans G (gb_of_below (some g) hb)
  clear hb hsz
  replace hS0 := G.size
  have ll_4 := ll 4 _ rfl
  have mm_0 := mm 0 _ rfl
  have mm_1 := mm 1 _ rfl
  have mm_2 := mm 2 _ rfl
  go_wp2_with (first | ((with_reducible refine ld_lay ll rfl ?a49 ?h49); (case a49 => exact ⟨_, rfl, rfl, rfl⟩)))
  ((with_reducible refine (rwstatus_any _ _ _).mono ?_); rintro e w' ⟨rfl, rfl⟩)
  go_wp2_with (first | ((with_reducible refine ld_lay ll rfl ?a50 ?h50); (case a50 => exact ⟨_, rfl, rfl, rfl⟩)))
  ((with_reducible refine (HX.out _ h9).mono ?_); rintro e w10 ⟨rfl, h10, hb⟩)
  clear ll_4
  clear mm_0 mm_1 mm_2
  have hsz := hb.size
  (try simp at hsz)
  replace ll := cellsAt_gb ll hb (by omega)
  replace mm := cellsAt_gb mm hb (by omega)
  replace llz : w.heap.size < w10.heap.size := by omega
  replace mmz : w.heap.size + 1 < w10.heap.size := by omega
  replace G := gb_trans G hb
  clear hb hsz
  replace hS0 := G.size
  have ll_4 := ll 4 _ rfl
  have mm_0 := mm 0 _ rfl
  have mm_1 := mm 1 _ rfl
  have mm_2 := mm 2 _ rfl
  go_wp2_with (first | ((with_reducible refine ld_lay ll rfl ?a51 ?h51); (case a51 => exact ⟨_, rfl, rfl, rfl⟩)))
  go_ret2
  exact ⟨rfl, h10, G⟩

theorem ask_f_casf (w : World) (g : Nat) (L : Ly) (hok : L.ok) (me other : Int) (m : Ct) (c0 : CSt) (h0 : CurAt w g c0) (s : Int) (b1 : Bool) (c1 : CSt) (ec1 : cdo c0 ⟨1, atStatus L other, 0, 0⟩ = ((s, b1), c1)) (hs : ¬s % 4 = 0) (hi : I64 s) (x : Int) (b2 : Bool) (c2 : CSt) (ec2 : cdo c1 ⟨1, atStamp L other, 0, 0⟩ = ((x, b2), c2)) (y : Int) (b3 : Bool) (c3 : CSt) (ec3 : cdo c2 ⟨1, atKarma L other, 0, 0⟩ = ((y, b3), c3)) (hv : chooseD L.c.m m ⟨x, y, s / 4⟩ = 2) (hk : s % 4 = 1) (z : Int) (c4 : CSt) (ec4 : cdo c3 ⟨3, atStatus L other, s, wrap64 (4 * (s / 4) + 3)⟩ = ((z, false), c4)) :
    Calls Try.prog 86 #[.pointer (some ⟨g, 0, none⟩), L.v, .int .i64 me, .int .i64 other, .bool false, m.v] w fun e w' => e = .returned (.tuple #[.int .i64 0, .bool false]) ∧ CurAt w' g c4 ∧ w.grownBy w' (some g) := by
  have HS : Hid (∀ w, Calls Try.prog 46 #[L.v, .int .i64 other] w fun e w' => e = .returned (.int .i64 (atStatus L other)) ∧ Below w.heap.size w w') := Lib.hid (fun w => rstatus_any L other w hok)
  have HL1 : Hid (∀ w, CurAt w g c0 → Calls Try.prog 75 #[.pointer (some ⟨g, 0, none⟩), .int .i64 (atStatus L other)] w fun e w' => e = .returned (.int .i64 s) ∧ CurAt w' g c1 ∧ w.grownBy w' (some g)) := Lib.hid (fun w h => by have := rload_any02 w g c0 (atStatus L other) h; rw [ec1] at this; exact this)
  have q1 : (s % 4 == 0) = false := by simp [hs]
  have HT : Hid (∀ w, Calls Try.prog 98 #[L.v, .int .i64 other] w fun e w' => e = .returned (.int .i64 (atStamp L other)) ∧ Below w.heap.size w w') := Lib.hid (fun w => rstamp_any L other w hok)
  have HK : Hid (∀ w, Calls Try.prog 99 #[L.v, .int .i64 other] w fun e w' => e = .returned (.int .i64 (atKarma L other)) ∧ Below w.heap.size w w') := Lib.hid (fun w => rkarma_any L other w hok)
  have HL2 : Hid (∀ w, CurAt w g c1 → Calls Try.prog 75 #[.pointer (some ⟨g, 0, none⟩), .int .i64 (atStamp L other)] w fun e w' => e = .returned (.int .i64 x) ∧ CurAt w' g c2 ∧ w.grownBy w' (some g)) := Lib.hid (fun w h => by have := rload_any02 w g c1 (atStamp L other) h; rw [ec2] at this; exact this)
  have HL3 : Hid (∀ w, CurAt w g c2 → Calls Try.prog 75 #[.pointer (some ⟨g, 0, none⟩), .int .i64 (atKarma L other)] w fun e w' => e = .returned (.int .i64 y) ∧ CurAt w' g c3 ∧ w.grownBy w' (some g)) := Lib.hid (fun w h => by have := rload_any02 w g c2 (atKarma L other) h; rw [ec3] at this; exact this)
  have HC : Hid (∀ w, Calls Try.prog 101 #[.int .i64 L.c.m, m.v, Ct.v ⟨x, y, s / 4⟩] w fun e w' => e = .returned (.int .i64 2) ∧ Below w.heap.size w w') := Lib.hid (fun w => by have := rchoose_any L.c.m m ⟨x, y, s / 4⟩ w; rwa [hv] at this)
  unfold Ct.v at HC
  have q3 : (s % 4 == 3) = false := by simp [hk]
  have q2 : (s % 4 == 2) = false := by simp [hk]
  have HX : Hid (∀ w, CurAt w g c3 → Calls Try.prog 76 #[.pointer (some ⟨g, 0, none⟩), .int .i64 (atStatus L other), .int .i64 s, .int .i64 (wrap64 (4 * (s / 4) + 3))] w fun e w' => e = .returned (.bool false) ∧ CurAt w' g c4 ∧ w.grownBy w' (some g)) := Lib.hid (fun w h => by have := rcas_any02 w g c3 (atStatus L other) s (wrap64 (4 * (s / 4) + 3)) h; rw [ec4] at this; exact this)
  unfold Ly.v at HS HT HK ⊢
  unfold Ct.v
  have hg0 := curAt_lt h0
  have G : w.grownBy w (some g) := gb_refl _ _
  have hS0 : w.heap.size + 0 ≤ w.heap.size := Nat.le_refl _
  go_enter Try.func86, Try.ntmps86
  go_wp2_with fail
  obtain ⟨w1, hwr⟩ : ∃ W, W = ((w.alloc (.cells #[.int .i64 L.c.t, .int .i64 L.c.l, .int .i64 L.c.k, .int .i64 L.c.s, .int .i64 L.c.m, .int .i64 L.clock, .int .i64 L.stamps, .int .i64 L.log, .int .i64 L.fin, .int .i64 L.thread, .int .i64 L.lock, .int .i64 L.loc, .int .i64 L.size] 25)).alloc (.cells #[.int .i64 m.s, .int .i64 m.k, .int .i64 m.a] 27)) := ⟨_, rfl⟩
  rw [← hwr]
  have hb : Below w.heap.size w w1 := by rw [hwr]; exact (Below.alloc (Below.alloc (Below.refl _ _) (by first | exact Nat.le_refl _ | (simp; omega) | simp) _) (by first | exact Nat.le_refl _ | (simp; omega) | simp) _)
  have ll : CellsAt w1 (w.heap.size) [.int .i64 L.c.t, .int .i64 L.c.l, .int .i64 L.c.k, .int .i64 L.c.s, .int .i64 L.c.m, .int .i64 L.clock, .int .i64 L.stamps, .int .i64 L.log, .int .i64 L.fin, .int .i64 L.thread, .int .i64 L.lock, .int .i64 L.loc, .int .i64 L.size] := by rw [hwr]; exact (cellsAt_alloc (cellsAt_new' w _ _ (w.heap.size) (by simp)) _)
  have llz : w.heap.size < w1.heap.size := World.block_lt_of_cell? _ _ (ll 0 _ rfl)
  have mm : CellsAt w1 (w.heap.size + 1) [.int .i64 m.s, .int .i64 m.k, .int .i64 m.a] := by rw [hwr]; exact (cellsAt_new' (w.alloc (.cells #[.int .i64 L.c.t, .int .i64 L.c.l, .int .i64 L.c.k, .int .i64 L.c.s, .int .i64 L.c.m, .int .i64 L.clock, .int .i64 L.stamps, .int .i64 L.log, .int .i64 L.fin, .int .i64 L.thread, .int .i64 L.lock, .int .i64 L.loc, .int .i64 L.size] 25)) _ _ (w.heap.size + 1) (by simp))
  have mmz : w.heap.size + 1 < w1.heap.size := World.block_lt_of_cell? _ _ (mm 0 _ rfl)
  have h1 := curAt_keep h0 hb
  replace G := gb_trans G (gb_of_below (some g) hb)
  clear hb hwr
  replace hS0 := G.size
  have ll_4 := ll 4 _ rfl
  have mm_0 := mm 0 _ rfl
  have mm_1 := mm 1 _ rfl
  have mm_2 := mm 2 _ rfl
  go_wp2_with (first | ((with_reducible refine ld_lay ll rfl ?a52 ?h52); (case a52 => exact ⟨_, rfl, rfl, rfl⟩)))
  ((with_reducible refine (HS.out _).mono ?_); rintro e w2 ⟨rfl, hb⟩)
  clear ll_4
  clear mm_0 mm_1 mm_2
  have hsz := hb.size
  (try simp at hsz)
  replace ll := cellsAt_keep ll hb
  replace mm := cellsAt_keep mm hb
  replace llz : w.heap.size < w2.heap.size := by omega
  replace mmz : w.heap.size + 1 < w2.heap.size := by omega
  have h2 := curAt_keep h1 hb
  replace G := gb_trans G (gb_of_below (some g) hb)
  clear hb hsz
  replace hS0 := G.size
  have ll_4 := ll 4 _ rfl
  have mm_0 := mm 0 _ rfl
  have mm_1 := mm 1 _ rfl
  have mm_2 := mm 2 _ rfl
  go_wp2_with (first | ((with_reducible refine ld_lay ll rfl ?a53 ?h53); (case a53 => exact ⟨_, rfl, rfl, rfl⟩)))
  ((with_reducible refine (HL1.out _ h2).mono ?_); rintro e w3 ⟨rfl, h3, hb⟩)
  clear ll_4
  clear mm_0 mm_1 mm_2
  have hsz := hb.size
  (try simp at hsz)
  replace ll := cellsAt_gb ll hb (by omega)
  replace mm := cellsAt_gb mm hb (by omega)
  replace llz : w.heap.size < w3.heap.size := by omega
  replace mmz : w.heap.size + 1 < w3.heap.size := by omega
  replace G := gb_trans G hb
  clear hb hsz
  replace hS0 := G.size
  have ll_4 := ll 4 _ rfl
  have mm_0 := mm 0 _ rfl
  have mm_1 := mm 1 _ rfl
  have mm_2 := mm 2 _ rfl
  go_wp2_with (first | ((with_reducible refine ld_lay ll rfl ?a54 ?h54); (case a54 => exact ⟨_, rfl, rfl, rfl⟩)))
  ((with_reducible refine (rkind_any _ _).mono ?_); rintro e w' ⟨rfl, rfl⟩)
  go_wp2_with (first | ((with_reducible refine ld_lay ll rfl ?a55 ?h55); (case a55 => exact ⟨_, rfl, rfl, rfl⟩)))
  ((with_reducible refine (HT.out _).mono ?_); rintro e w4 ⟨rfl, hb⟩)
  clear ll_4
  clear mm_0 mm_1 mm_2
  have hsz := hb.size
  (try simp at hsz)
  replace ll := cellsAt_keep ll hb
  replace mm := cellsAt_keep mm hb
  replace llz : w.heap.size < w4.heap.size := by omega
  replace mmz : w.heap.size + 1 < w4.heap.size := by omega
  have h4 := curAt_keep h3 hb
  replace G := gb_trans G (gb_of_below (some g) hb)
  clear hb hsz
  replace hS0 := G.size
  have ll_4 := ll 4 _ rfl
  have mm_0 := mm 0 _ rfl
  have mm_1 := mm 1 _ rfl
  have mm_2 := mm 2 _ rfl
  go_wp2_with (first | ((with_reducible refine ld_lay ll rfl ?a56 ?h56); (case a56 => exact ⟨_, rfl, rfl, rfl⟩)))
  ((with_reducible refine (HL2.out _ h4).mono ?_); rintro e w5 ⟨rfl, h5, hb⟩)
  clear ll_4
  clear mm_0 mm_1 mm_2
  have hsz := hb.size
  (try simp at hsz)
  replace ll := cellsAt_gb ll hb (by omega)
  replace mm := cellsAt_gb mm hb (by omega)
  replace llz : w.heap.size < w5.heap.size := by omega
  replace mmz : w.heap.size + 1 < w5.heap.size := by omega
  replace G := gb_trans G hb
  clear hb hsz
  replace hS0 := G.size
  have ll_4 := ll 4 _ rfl
  have mm_0 := mm 0 _ rfl
  have mm_1 := mm 1 _ rfl
  have mm_2 := mm 2 _ rfl
  go_wp2_with (first | ((with_reducible refine ld_lay ll rfl ?a57 ?h57); (case a57 => exact ⟨_, rfl, rfl, rfl⟩)))
  ((with_reducible refine (HK.out _).mono ?_); rintro e w6 ⟨rfl, hb⟩)
  clear ll_4
  clear mm_0 mm_1 mm_2
  have hsz := hb.size
  (try simp at hsz)
  replace ll := cellsAt_keep ll hb
  replace mm := cellsAt_keep mm hb
  replace llz : w.heap.size < w6.heap.size := by omega
  replace mmz : w.heap.size + 1 < w6.heap.size := by omega
  have h6 := curAt_keep h5 hb
  replace G := gb_trans G (gb_of_below (some g) hb)
  clear hb hsz
  replace hS0 := G.size
  have ll_4 := ll 4 _ rfl
  have mm_0 := mm 0 _ rfl
  have mm_1 := mm 1 _ rfl
  have mm_2 := mm 2 _ rfl
  go_wp2_with (first | ((with_reducible refine ld_lay ll rfl ?a58 ?h58); (case a58 => exact ⟨_, rfl, rfl, rfl⟩)))
  ((with_reducible refine (HL3.out _ h6).mono ?_); rintro e w7 ⟨rfl, h7, hb⟩)
  clear ll_4
  clear mm_0 mm_1 mm_2
  have hsz := hb.size
  (try simp at hsz)
  replace ll := cellsAt_gb ll hb (by omega)
  replace mm := cellsAt_gb mm hb (by omega)
  replace llz : w.heap.size < w7.heap.size := by omega
  replace mmz : w.heap.size + 1 < w7.heap.size := by omega
  replace G := gb_trans G hb
  clear hb hsz
  replace hS0 := G.size
  have ll_4 := ll 4 _ rfl
  have mm_0 := mm 0 _ rfl
  have mm_1 := mm 1 _ rfl
  have mm_2 := mm 2 _ rfl
  go_wp2_with (first | ((with_reducible refine ld_lay ll rfl ?a59 ?h59); (case a59 => exact ⟨_, rfl, rfl, rfl⟩)))
  ((with_reducible refine (rtry_any _ hi _).mono ?_); rintro e w' ⟨rfl, rfl⟩)
  go_wp2_with (first | ((with_reducible refine ld_lay ll rfl ?a60 ?h60); (case a60 => exact ⟨_, rfl, rfl, rfl⟩)))
  ((with_reducible refine (HC.out _).mono ?_); rintro e w8 ⟨rfl, hb⟩)
  clear ll_4
  clear mm_0 mm_1 mm_2
  have hsz := hb.size
  (try simp at hsz)
  replace ll := cellsAt_keep ll hb
  replace mm := cellsAt_keep mm hb
  replace llz : w.heap.size < w8.heap.size := by omega
  replace mmz : w.heap.size + 1 < w8.heap.size := by omega
  have h8 := curAt_keep h7 hb
  replace G := gb_trans G (gb_of_below (some g) hb)
  clear hb hsz
  replace hS0 := G.size
  have ll_4 := ll 4 _ rfl
  have mm_0 := mm 0 _ rfl
  have mm_1 := mm 1 _ rfl
  have mm_2 := mm 2 _ rfl
  go_wp2_with (first | ((with_reducible refine ld_lay ll rfl ?a61 ?h61); (case a61 => exact ⟨_, rfl, rfl, rfl⟩)))
  ((with_reducible refine (HS.out _).mono ?_); rintro e w9 ⟨rfl, hb⟩)
  clear ll_4
  clear mm_0 mm_1 mm_2
  have hsz := hb.size
  (try simp at hsz)
  replace ll := cellsAt_keep ll hb
  replace mm := cellsAt_keep mm hb
  replace llz : w.heap.size < w9.heap.size := by omega
  replace mmz : w.heap.size + 1 < w9.heap.size := by omega
  have h9 := curAt_keep h8 hb
  replace G := gb_trans G (gb_of_below (some g) hb)
  clear hb hsz
  replace hS0 := G.size
  have ll_4 := ll 4 _ rfl
  have mm_0 := mm 0 _ rfl
  have mm_1 := mm 1 _ rfl
  have mm_2 := mm 2 _ rfl
  go_wp2_with (first | ((with_reducible refine ld_lay ll rfl ?a62 ?h62); (case a62 => exact ⟨_, rfl, rfl, rfl⟩)))
  ((with_reducible refine (rwstatus_any _ _ _).mono ?_); rintro e w' ⟨rfl, rfl⟩)
  go_wp2_with (first | ((with_reducible refine ld_lay ll rfl ?a63 ?h63); (case a63 => exact ⟨_, rfl, rfl, rfl⟩)))
  ((with_reducible refine (HX.out _ h9).mono ?_); rintro e w10 ⟨rfl, h10, hb⟩)
  clear ll_4
  clear mm_0 mm_1 mm_2
  have hsz := hb.size
  (try simp at hsz)
  replace ll := cellsAt_gb ll hb (by omega)
  replace mm := cellsAt_gb mm hb (by omega)
  replace llz : w.heap.size < w10.heap.size := by omega
  replace mmz : w.heap.size + 1 < w10.heap.size := by omega
  replace G := gb_trans G hb
  clear hb hsz
  replace hS0 := G.size
  have ll_4 := ll 4 _ rfl
  have mm_0 := mm 0 _ rfl
  have mm_1 := mm 1 _ rfl
  have mm_2 := mm 2 _ rfl
  go_wp2_with (first | ((with_reducible refine ld_lay ll rfl ?a64 ?h64); (case a64 => exact ⟨_, rfl, rfl, rfl⟩)))
  go_ret2
  exact ⟨rfl, h10, G⟩

theorem ask_t_idle (w : World) (g : Nat) (L : Ly) (hok : L.ok) (me other : Int) (m : Ct) (c0 : CSt) (h0 : CurAt w g c0) (r0 : Int) (b0 : Bool) (ca : CSt) (eca : cdo c0 ⟨1, atStatus L me, 0, 0⟩ = ((r0, b0), ca)) (ho : ¬r0 % 4 = 3) (s : Int) (b1 : Bool) (c1 : CSt) (ec1 : cdo ca ⟨1, atStatus L other, 0, 0⟩ = ((s, b1), c1)) (hs : s % 4 = 0) :
    Calls Try.prog 86 #[.pointer (some ⟨g, 0, none⟩), L.v, .int .i64 me, .int .i64 other, .bool true, m.v] w fun e w' => e = .returned (.tuple #[.int .i64 0, .bool false]) ∧ CurAt w' g c1 ∧ w.grownBy w' (some g) := by
  have HS : Hid (∀ w, Calls Try.prog 46 #[L.v, .int .i64 other] w fun e w' => e = .returned (.int .i64 (atStatus L other)) ∧ Below w.heap.size w w') := Lib.hid (fun w => rstatus_any L other w hok)
  have HM : Hid (∀ w, Calls Try.prog 46 #[L.v, .int .i64 me] w fun e w' => e = .returned (.int .i64 (atStatus L me)) ∧ Below w.heap.size w w') := Lib.hid (fun w => rstatus_any L me w hok)
  have HL0 : Hid (∀ w, CurAt w g c0 → Calls Try.prog 75 #[.pointer (some ⟨g, 0, none⟩), .int .i64 (atStatus L me)] w fun e w' => e = .returned (.int .i64 r0) ∧ CurAt w' g ca ∧ w.grownBy w' (some g)) := Lib.hid (fun w h => by have := rload_any02 w g c0 (atStatus L me) h; rw [eca] at this; exact this)
  have q0 : (r0 % 4 == 3) = false := by simp [ho]
  have HL1 : Hid (∀ w, CurAt w g ca → Calls Try.prog 75 #[.pointer (some ⟨g, 0, none⟩), .int .i64 (atStatus L other)] w fun e w' => e = .returned (.int .i64 s) ∧ CurAt w' g c1 ∧ w.grownBy w' (some g)) := Lib.hid (fun w h => by have := rload_any02 w g ca (atStatus L other) h; rw [ec1] at this; exact this)
  have q1 : (s % 4 == 0) = true := by simp [hs]
  unfold Ly.v at HS HM ⊢
  unfold Ct.v
  have hg0 := curAt_lt h0
  have G : w.grownBy w (some g) := gb_refl _ _
  have hS0 : w.heap.size + 0 ≤ w.heap.size := Nat.le_refl _
  go_enter Try.func86, Try.ntmps86
  go_wp2_with fail
  obtain ⟨w1, hwr⟩ : ∃ W, W = ((w.alloc (.cells #[.int .i64 L.c.t, .int .i64 L.c.l, .int .i64 L.c.k, .int .i64 L.c.s, .int .i64 L.c.m, .int .i64 L.clock, .int .i64 L.stamps, .int .i64 L.log, .int .i64 L.fin, .int .i64 L.thread, .int .i64 L.lock, .int .i64 L.loc, .int .i64 L.size] 25)).alloc (.cells #[.int .i64 m.s, .int .i64 m.k, .int .i64 m.a] 27)) := ⟨_, rfl⟩
  rw [← hwr]
  have hb : Below w.heap.size w w1 := by rw [hwr]; exact (Below.alloc (Below.alloc (Below.refl _ _) (by first | exact Nat.le_refl _ | (simp; omega) | simp) _) (by first | exact Nat.le_refl _ | (simp; omega) | simp) _)
  have ll : CellsAt w1 (w.heap.size) [.int .i64 L.c.t, .int .i64 L.c.l, .int .i64 L.c.k, .int .i64 L.c.s, .int .i64 L.c.m, .int .i64 L.clock, .int .i64 L.stamps, .int .i64 L.log, .int .i64 L.fin, .int .i64 L.thread, .int .i64 L.lock, .int .i64 L.loc, .int .i64 L.size] := by rw [hwr]; exact (cellsAt_alloc (cellsAt_new' w _ _ (w.heap.size) (by simp)) _)
  have llz : w.heap.size < w1.heap.size := World.block_lt_of_cell? _ _ (ll 0 _ rfl)
  have mm : CellsAt w1 (w.heap.size + 1) [.int .i64 m.s, .int .i64 m.k, .int .i64 m.a] := by rw [hwr]; exact (cellsAt_new' (w.alloc (.cells #[.int .i64 L.c.t, .int .i64 L.c.l, .int .i64 L.c.k, .int .i64 L.c.s, .int .i64 L.c.m, .int .i64 L.clock, .int .i64 L.stamps, .int .i64 L.log, .int .i64 L.fin, .int .i64 L.thread, .int .i64 L.lock, .int .i64 L.loc, .int .i64 L.size] 25)) _ _ (w.heap.size + 1) (by simp))
  have mmz : w.heap.size + 1 < w1.heap.size := World.block_lt_of_cell? _ _ (mm 0 _ rfl)
  have h1 := curAt_keep h0 hb
  replace G := gb_trans G (gb_of_below (some g) hb)
  clear hb hwr
  replace hS0 := G.size
  have ll_4 := ll 4 _ rfl
  have mm_0 := mm 0 _ rfl
  have mm_1 := mm 1 _ rfl
  have mm_2 := mm 2 _ rfl
  go_wp2_with (first | ((with_reducible refine ld_lay ll rfl ?a65 ?h65); (case a65 => exact ⟨_, rfl, rfl, rfl⟩)))
  ((with_reducible refine (HM.out _).mono ?_); rintro e w2 ⟨rfl, hb⟩)
  clear ll_4
  clear mm_0 mm_1 mm_2
  have hsz := hb.size
  (try simp at hsz)
  replace ll := cellsAt_keep ll hb
  replace mm := cellsAt_keep mm hb
  replace llz : w.heap.size < w2.heap.size := by omega
  replace mmz : w.heap.size + 1 < w2.heap.size := by omega
  have h2 := curAt_keep h1 hb
  replace G := gb_trans G (gb_of_below (some g) hb)
  clear hb hsz
  replace hS0 := G.size
  have ll_4 := ll 4 _ rfl
  have mm_0 := mm 0 _ rfl
  have mm_1 := mm 1 _ rfl
  have mm_2 := mm 2 _ rfl
  go_wp2_with (first | ((with_reducible refine ld_lay ll rfl ?a66 ?h66); (case a66 => exact ⟨_, rfl, rfl, rfl⟩)))
  ((with_reducible refine (HL0.out _ h2).mono ?_); rintro e w3 ⟨rfl, h3, hb⟩)
  clear ll_4
  clear mm_0 mm_1 mm_2
  have hsz := hb.size
  (try simp at hsz)
  replace ll := cellsAt_gb ll hb (by omega)
  replace mm := cellsAt_gb mm hb (by omega)
  replace llz : w.heap.size < w3.heap.size := by omega
  replace mmz : w.heap.size + 1 < w3.heap.size := by omega
  replace G := gb_trans G hb
  clear hb hsz
  replace hS0 := G.size
  have ll_4 := ll 4 _ rfl
  have mm_0 := mm 0 _ rfl
  have mm_1 := mm 1 _ rfl
  have mm_2 := mm 2 _ rfl
  go_wp2_with (first | ((with_reducible refine ld_lay ll rfl ?a67 ?h67); (case a67 => exact ⟨_, rfl, rfl, rfl⟩)))
  ((with_reducible refine (rkind_any _ _).mono ?_); rintro e w' ⟨rfl, rfl⟩)
  go_wp2_with (first | ((with_reducible refine ld_lay ll rfl ?a68 ?h68); (case a68 => exact ⟨_, rfl, rfl, rfl⟩)))
  ((with_reducible refine (HS.out _).mono ?_); rintro e w4 ⟨rfl, hb⟩)
  clear ll_4
  clear mm_0 mm_1 mm_2
  have hsz := hb.size
  (try simp at hsz)
  replace ll := cellsAt_keep ll hb
  replace mm := cellsAt_keep mm hb
  replace llz : w.heap.size < w4.heap.size := by omega
  replace mmz : w.heap.size + 1 < w4.heap.size := by omega
  have h4 := curAt_keep h3 hb
  replace G := gb_trans G (gb_of_below (some g) hb)
  clear hb hsz
  replace hS0 := G.size
  have ll_4 := ll 4 _ rfl
  have mm_0 := mm 0 _ rfl
  have mm_1 := mm 1 _ rfl
  have mm_2 := mm 2 _ rfl
  go_wp2_with (first | ((with_reducible refine ld_lay ll rfl ?a69 ?h69); (case a69 => exact ⟨_, rfl, rfl, rfl⟩)))
  ((with_reducible refine (HL1.out _ h4).mono ?_); rintro e w5 ⟨rfl, h5, hb⟩)
  clear ll_4
  clear mm_0 mm_1 mm_2
  have hsz := hb.size
  (try simp at hsz)
  replace ll := cellsAt_gb ll hb (by omega)
  replace mm := cellsAt_gb mm hb (by omega)
  replace llz : w.heap.size < w5.heap.size := by omega
  replace mmz : w.heap.size + 1 < w5.heap.size := by omega
  replace G := gb_trans G hb
  clear hb hsz
  replace hS0 := G.size
  have ll_4 := ll 4 _ rfl
  have mm_0 := mm 0 _ rfl
  have mm_1 := mm 1 _ rfl
  have mm_2 := mm 2 _ rfl
  go_wp2_with (first | ((with_reducible refine ld_lay ll rfl ?a70 ?h70); (case a70 => exact ⟨_, rfl, rfl, rfl⟩)))
  ((with_reducible refine (rkind_any _ _).mono ?_); rintro e w' ⟨rfl, rfl⟩)
  go_wp2_with (first | ((with_reducible refine ld_lay ll rfl ?a71 ?h71); (case a71 => exact ⟨_, rfl, rfl, rfl⟩)))
  go_ret2
  exact ⟨rfl, h5, G⟩

theorem ask_t_abort (w : World) (g : Nat) (L : Ly) (hok : L.ok) (me other : Int) (m : Ct) (c0 : CSt) (h0 : CurAt w g c0) (r0 : Int) (b0 : Bool) (ca : CSt) (eca : cdo c0 ⟨1, atStatus L me, 0, 0⟩ = ((r0, b0), ca)) (ho : ¬r0 % 4 = 3) (s : Int) (b1 : Bool) (c1 : CSt) (ec1 : cdo ca ⟨1, atStatus L other, 0, 0⟩ = ((s, b1), c1)) (hs : ¬s % 4 = 0) (hi : I64 s) (x : Int) (b2 : Bool) (c2 : CSt) (ec2 : cdo c1 ⟨1, atStamp L other, 0, 0⟩ = ((x, b2), c2)) (y : Int) (b3 : Bool) (c3 : CSt) (ec3 : cdo c2 ⟨1, atKarma L other, 0, 0⟩ = ((y, b3), c3)) (hv : chooseD L.c.m m ⟨x, y, s / 4⟩ = 1) :
    Calls Try.prog 86 #[.pointer (some ⟨g, 0, none⟩), L.v, .int .i64 me, .int .i64 other, .bool true, m.v] w fun e w' => e = .returned (.tuple #[.int .i64 1, .bool false]) ∧ CurAt w' g c3 ∧ w.grownBy w' (some g) := by
  have HS : Hid (∀ w, Calls Try.prog 46 #[L.v, .int .i64 other] w fun e w' => e = .returned (.int .i64 (atStatus L other)) ∧ Below w.heap.size w w') := Lib.hid (fun w => rstatus_any L other w hok)
  have HM : Hid (∀ w, Calls Try.prog 46 #[L.v, .int .i64 me] w fun e w' => e = .returned (.int .i64 (atStatus L me)) ∧ Below w.heap.size w w') := Lib.hid (fun w => rstatus_any L me w hok)
  have HL0 : Hid (∀ w, CurAt w g c0 → Calls Try.prog 75 #[.pointer (some ⟨g, 0, none⟩), .int .i64 (atStatus L me)] w fun e w' => e = .returned (.int .i64 r0) ∧ CurAt w' g ca ∧ w.grownBy w' (some g)) := Lib.hid (fun w h => by have := rload_any02 w g c0 (atStatus L me) h; rw [eca] at this; exact this)
  have q0 : (r0 % 4 == 3) = false := by simp [ho]
  have HL1 : Hid (∀ w, CurAt w g ca → Calls Try.prog 75 #[.pointer (some ⟨g, 0, none⟩), .int .i64 (atStatus L other)] w fun e w' => e = .returned (.int .i64 s) ∧ CurAt w' g c1 ∧ w.grownBy w' (some g)) := Lib.hid (fun w h => by have := rload_any02 w g ca (atStatus L other) h; rw [ec1] at this; exact this)
  have q1 : (s % 4 == 0) = false := by simp [hs]
  have HT : Hid (∀ w, Calls Try.prog 98 #[L.v, .int .i64 other] w fun e w' => e = .returned (.int .i64 (atStamp L other)) ∧ Below w.heap.size w w') := Lib.hid (fun w => rstamp_any L other w hok)
  have HK : Hid (∀ w, Calls Try.prog 99 #[L.v, .int .i64 other] w fun e w' => e = .returned (.int .i64 (atKarma L other)) ∧ Below w.heap.size w w') := Lib.hid (fun w => rkarma_any L other w hok)
  have HL2 : Hid (∀ w, CurAt w g c1 → Calls Try.prog 75 #[.pointer (some ⟨g, 0, none⟩), .int .i64 (atStamp L other)] w fun e w' => e = .returned (.int .i64 x) ∧ CurAt w' g c2 ∧ w.grownBy w' (some g)) := Lib.hid (fun w h => by have := rload_any02 w g c1 (atStamp L other) h; rw [ec2] at this; exact this)
  have HL3 : Hid (∀ w, CurAt w g c2 → Calls Try.prog 75 #[.pointer (some ⟨g, 0, none⟩), .int .i64 (atKarma L other)] w fun e w' => e = .returned (.int .i64 y) ∧ CurAt w' g c3 ∧ w.grownBy w' (some g)) := Lib.hid (fun w h => by have := rload_any02 w g c2 (atKarma L other) h; rw [ec3] at this; exact this)
  have HC : Hid (∀ w, Calls Try.prog 101 #[.int .i64 L.c.m, m.v, Ct.v ⟨x, y, s / 4⟩] w fun e w' => e = .returned (.int .i64 1) ∧ Below w.heap.size w w') := Lib.hid (fun w => by have := rchoose_any L.c.m m ⟨x, y, s / 4⟩ w; rwa [hv] at this)
  unfold Ct.v at HC
  unfold Ly.v at HS HM HT HK ⊢
  unfold Ct.v
  have hg0 := curAt_lt h0
  have G : w.grownBy w (some g) := gb_refl _ _
  have hS0 : w.heap.size + 0 ≤ w.heap.size := Nat.le_refl _
  go_enter Try.func86, Try.ntmps86
  go_wp2_with fail
  obtain ⟨w1, hwr⟩ : ∃ W, W = ((w.alloc (.cells #[.int .i64 L.c.t, .int .i64 L.c.l, .int .i64 L.c.k, .int .i64 L.c.s, .int .i64 L.c.m, .int .i64 L.clock, .int .i64 L.stamps, .int .i64 L.log, .int .i64 L.fin, .int .i64 L.thread, .int .i64 L.lock, .int .i64 L.loc, .int .i64 L.size] 25)).alloc (.cells #[.int .i64 m.s, .int .i64 m.k, .int .i64 m.a] 27)) := ⟨_, rfl⟩
  rw [← hwr]
  have hb : Below w.heap.size w w1 := by rw [hwr]; exact (Below.alloc (Below.alloc (Below.refl _ _) (by first | exact Nat.le_refl _ | (simp; omega) | simp) _) (by first | exact Nat.le_refl _ | (simp; omega) | simp) _)
  have ll : CellsAt w1 (w.heap.size) [.int .i64 L.c.t, .int .i64 L.c.l, .int .i64 L.c.k, .int .i64 L.c.s, .int .i64 L.c.m, .int .i64 L.clock, .int .i64 L.stamps, .int .i64 L.log, .int .i64 L.fin, .int .i64 L.thread, .int .i64 L.lock, .int .i64 L.loc, .int .i64 L.size] := by rw [hwr]; exact (cellsAt_alloc (cellsAt_new' w _ _ (w.heap.size) (by simp)) _)
  have llz : w.heap.size < w1.heap.size := World.block_lt_of_cell? _ _ (ll 0 _ rfl)
  have mm : CellsAt w1 (w.heap.size + 1) [.int .i64 m.s, .int .i64 m.k, .int .i64 m.a] := by rw [hwr]; exact (cellsAt_new' (w.alloc (.cells #[.int .i64 L.c.t, .int .i64 L.c.l, .int .i64 L.c.k, .int .i64 L.c.s, .int .i64 L.c.m, .int .i64 L.clock, .int .i64 L.stamps, .int .i64 L.log, .int .i64 L.fin, .int .i64 L.thread, .int .i64 L.lock, .int .i64 L.loc, .int .i64 L.size] 25)) _ _ (w.heap.size + 1) (by simp))
  have mmz : w.heap.size + 1 < w1.heap.size := World.block_lt_of_cell? _ _ (mm 0 _ rfl)
  have h1 := curAt_keep h0 hb
  replace G := gb_trans G (gb_of_below (some g) hb)
  clear hb hwr
  replace hS0 := G.size
  have ll_4 := ll 4 _ rfl
  have mm_0 := mm 0 _ rfl
  have mm_1 := mm 1 _ rfl
  have mm_2 := mm 2 _ rfl
  go_wp2_with (first | ((with_reducible refine ld_lay ll rfl ?a72 ?h72); (case a72 => exact ⟨_, rfl, rfl, rfl⟩)))
  ((with_reducible refine (HM.out _).mono ?_); rintro e w2 ⟨rfl, hb⟩)
  clear ll_4
  clear mm_0 mm_1 mm_2
  have hsz := hb.size
  (try simp at hsz)
  replace ll := cellsAt_keep ll hb
  replace mm := cellsAt_keep mm hb
  replace llz : w.heap.size < w2.heap.size := by omega
  replace mmz : w.heap.size + 1 < w2.heap.size := by omega
  have h2 := curAt_keep h1 hb
  replace G := gb_trans G (gb_of_below (some g) hb)
  clear hb hsz
  replace hS0 := G.size
  have ll_4 := ll 4 _ rfl
  have mm_0 := mm 0 _ rfl
  have mm_1 := mm 1 _ rfl
  have mm_2 := mm 2 _ rfl
  go_wp2_with (first | ((with_reducible refine ld_lay ll rfl ?a73 ?h73); (case a73 => exact ⟨_, rfl, rfl, rfl⟩)))
  ((with_reducible refine (HL0.out _ h2).mono ?_); rintro e w3 ⟨rfl, h3, hb⟩)
  clear ll_4
  clear mm_0 mm_1 mm_2
  have hsz := hb.size
  (try simp at hsz)
  replace ll := cellsAt_gb ll hb (by omega)
  replace mm := cellsAt_gb mm hb (by omega)
  replace llz : w.heap.size < w3.heap.size := by omega
  replace mmz : w.heap.size + 1 < w3.heap.size := by omega
  replace G := gb_trans G hb
  clear hb hsz
  replace hS0 := G.size
  have ll_4 := ll 4 _ rfl
  have mm_0 := mm 0 _ rfl
  have mm_1 := mm 1 _ rfl
  have mm_2 := mm 2 _ rfl
  go_wp2_with (first | ((with_reducible refine ld_lay ll rfl ?a74 ?h74); (case a74 => exact ⟨_, rfl, rfl, rfl⟩)))
  ((with_reducible refine (rkind_any _ _).mono ?_); rintro e w' ⟨rfl, rfl⟩)
  go_wp2_with (first | ((with_reducible refine ld_lay ll rfl ?a75 ?h75); (case a75 => exact ⟨_, rfl, rfl, rfl⟩)))
  ((with_reducible refine (HS.out _).mono ?_); rintro e w4 ⟨rfl, hb⟩)
  clear ll_4
  clear mm_0 mm_1 mm_2
  have hsz := hb.size
  (try simp at hsz)
  replace ll := cellsAt_keep ll hb
  replace mm := cellsAt_keep mm hb
  replace llz : w.heap.size < w4.heap.size := by omega
  replace mmz : w.heap.size + 1 < w4.heap.size := by omega
  have h4 := curAt_keep h3 hb
  replace G := gb_trans G (gb_of_below (some g) hb)
  clear hb hsz
  replace hS0 := G.size
  have ll_4 := ll 4 _ rfl
  have mm_0 := mm 0 _ rfl
  have mm_1 := mm 1 _ rfl
  have mm_2 := mm 2 _ rfl
  go_wp2_with (first | ((with_reducible refine ld_lay ll rfl ?a76 ?h76); (case a76 => exact ⟨_, rfl, rfl, rfl⟩)))
  ((with_reducible refine (HL1.out _ h4).mono ?_); rintro e w5 ⟨rfl, h5, hb⟩)
  clear ll_4
  clear mm_0 mm_1 mm_2
  have hsz := hb.size
  (try simp at hsz)
  replace ll := cellsAt_gb ll hb (by omega)
  replace mm := cellsAt_gb mm hb (by omega)
  replace llz : w.heap.size < w5.heap.size := by omega
  replace mmz : w.heap.size + 1 < w5.heap.size := by omega
  replace G := gb_trans G hb
  clear hb hsz
  replace hS0 := G.size
  have ll_4 := ll 4 _ rfl
  have mm_0 := mm 0 _ rfl
  have mm_1 := mm 1 _ rfl
  have mm_2 := mm 2 _ rfl
  go_wp2_with (first | ((with_reducible refine ld_lay ll rfl ?a77 ?h77); (case a77 => exact ⟨_, rfl, rfl, rfl⟩)))
  ((with_reducible refine (rkind_any _ _).mono ?_); rintro e w' ⟨rfl, rfl⟩)
  go_wp2_with (first | ((with_reducible refine ld_lay ll rfl ?a78 ?h78); (case a78 => exact ⟨_, rfl, rfl, rfl⟩)))
  ((with_reducible refine (HT.out _).mono ?_); rintro e w6 ⟨rfl, hb⟩)
  clear ll_4
  clear mm_0 mm_1 mm_2
  have hsz := hb.size
  (try simp at hsz)
  replace ll := cellsAt_keep ll hb
  replace mm := cellsAt_keep mm hb
  replace llz : w.heap.size < w6.heap.size := by omega
  replace mmz : w.heap.size + 1 < w6.heap.size := by omega
  have h6 := curAt_keep h5 hb
  replace G := gb_trans G (gb_of_below (some g) hb)
  clear hb hsz
  replace hS0 := G.size
  have ll_4 := ll 4 _ rfl
  have mm_0 := mm 0 _ rfl
  have mm_1 := mm 1 _ rfl
  have mm_2 := mm 2 _ rfl
  go_wp2_with (first | ((with_reducible refine ld_lay ll rfl ?a79 ?h79); (case a79 => exact ⟨_, rfl, rfl, rfl⟩)))
  ((with_reducible refine (HL2.out _ h6).mono ?_); rintro e w7 ⟨rfl, h7, hb⟩)
  clear ll_4
  clear mm_0 mm_1 mm_2
  have hsz := hb.size
  (try simp at hsz)
  replace ll := cellsAt_gb ll hb (by omega)
  replace mm := cellsAt_gb mm hb (by omega)
  replace llz : w.heap.size < w7.heap.size := by omega
  replace mmz : w.heap.size + 1 < w7.heap.size := by omega
  replace G := gb_trans G hb
  clear hb hsz
  replace hS0 := G.size
  have ll_4 := ll 4 _ rfl
  have mm_0 := mm 0 _ rfl
  have mm_1 := mm 1 _ rfl
  have mm_2 := mm 2 _ rfl
  go_wp2_with (first | ((with_reducible refine ld_lay ll rfl ?a80 ?h80); (case a80 => exact ⟨_, rfl, rfl, rfl⟩)))
  ((with_reducible refine (HK.out _).mono ?_); rintro e w8 ⟨rfl, hb⟩)
  clear ll_4
  clear mm_0 mm_1 mm_2
  have hsz := hb.size
  (try simp at hsz)
  replace ll := cellsAt_keep ll hb
  replace mm := cellsAt_keep mm hb
  replace llz : w.heap.size < w8.heap.size := by omega
  replace mmz : w.heap.size + 1 < w8.heap.size := by omega
  have h8 := curAt_keep h7 hb
  replace G := gb_trans G (gb_of_below (some g) hb)
  clear hb hsz
  replace hS0 := G.size
  have ll_4 := ll 4 _ rfl
  have mm_0 := mm 0 _ rfl
  have mm_1 := mm 1 _ rfl
  have mm_2 := mm 2 _ rfl
  go_wp2_with (first | ((with_reducible refine ld_lay ll rfl ?a81 ?h81); (case a81 => exact ⟨_, rfl, rfl, rfl⟩)))
  ((with_reducible refine (HL3.out _ h8).mono ?_); rintro e w9 ⟨rfl, h9, hb⟩)
  clear ll_4
  clear mm_0 mm_1 mm_2
  have hsz := hb.size
  (try simp at hsz)
  replace ll := cellsAt_gb ll hb (by omega)
  replace mm := cellsAt_gb mm hb (by omega)
  replace llz : w.heap.size < w9.heap.size := by omega
  replace mmz : w.heap.size + 1 < w9.heap.size := by omega
  replace G := gb_trans G hb
  clear hb hsz
  replace hS0 := G.size
  have ll_4 := ll 4 _ rfl
  have mm_0 := mm 0 _ rfl
  have mm_1 := mm 1 _ rfl
  have mm_2 := mm 2 _ rfl
  go_wp2_with (first | ((with_reducible refine ld_lay ll rfl ?a82 ?h82); (case a82 => exact ⟨_, rfl, rfl, rfl⟩)))
  ((with_reducible refine (rtry_any _ hi _).mono ?_); rintro e w' ⟨rfl, rfl⟩)
  go_wp2_with (first | ((with_reducible refine ld_lay ll rfl ?a83 ?h83); (case a83 => exact ⟨_, rfl, rfl, rfl⟩)))
  ((with_reducible refine (HC.out _).mono ?_); rintro e w10 ⟨rfl, hb⟩)
  clear ll_4
  clear mm_0 mm_1 mm_2
  have hsz := hb.size
  (try simp at hsz)
  replace ll := cellsAt_keep ll hb
  replace mm := cellsAt_keep mm hb
  replace llz : w.heap.size < w10.heap.size := by omega
  replace mmz : w.heap.size + 1 < w10.heap.size := by omega
  have h10 := curAt_keep h9 hb
  replace G := gb_trans G (gb_of_below (some g) hb)
  clear hb hsz
  replace hS0 := G.size
  have ll_4 := ll 4 _ rfl
  have mm_0 := mm 0 _ rfl
  have mm_1 := mm 1 _ rfl
  have mm_2 := mm 2 _ rfl
  go_wp2_with (first | ((with_reducible refine ld_lay ll rfl ?a84 ?h84); (case a84 => exact ⟨_, rfl, rfl, rfl⟩)))
  go_ret2
  exact ⟨rfl, h10, G⟩

theorem ask_t_k3 (w : World) (g : Nat) (L : Ly) (hok : L.ok) (me other : Int) (m : Ct) (c0 : CSt) (h0 : CurAt w g c0) (r0 : Int) (b0 : Bool) (ca : CSt) (eca : cdo c0 ⟨1, atStatus L me, 0, 0⟩ = ((r0, b0), ca)) (ho : ¬r0 % 4 = 3) (s : Int) (b1 : Bool) (c1 : CSt) (ec1 : cdo ca ⟨1, atStatus L other, 0, 0⟩ = ((s, b1), c1)) (hs : ¬s % 4 = 0) (hi : I64 s) (x : Int) (b2 : Bool) (c2 : CSt) (ec2 : cdo c1 ⟨1, atStamp L other, 0, 0⟩ = ((x, b2), c2)) (y : Int) (b3 : Bool) (c3 : CSt) (ec3 : cdo c2 ⟨1, atKarma L other, 0, 0⟩ = ((y, b3), c3)) (hv : chooseD L.c.m m ⟨x, y, s / 4⟩ = 2) (hk : s % 4 = 3) :
    Calls Try.prog 86 #[.pointer (some ⟨g, 0, none⟩), L.v, .int .i64 me, .int .i64 other, .bool true, m.v] w fun e w' => e = .returned (.tuple #[.int .i64 2, .bool false]) ∧ CurAt w' g c3 ∧ w.grownBy w' (some g) := by
  have HS : Hid (∀ w, Calls Try.prog 46 #[L.v, .int .i64 other] w fun e w' => e = .returned (.int .i64 (atStatus L other)) ∧ Below w.heap.size w w') := Lib.hid (fun w => rstatus_any L other w hok)
  have HM : Hid (∀ w, Calls Try.prog 46 #[L.v, .int .i64 me] w fun e w' => e = .returned (.int .i64 (atStatus L me)) ∧ Below w.heap.size w w') := Lib.hid (fun w => rstatus_any L me w hok)
  have HL0 : Hid (∀ w, CurAt w g c0 → Calls Try.prog 75 #[.pointer (some ⟨g, 0, none⟩), .int .i64 (atStatus L me)] w fun e w' => e = .returned (.int .i64 r0) ∧ CurAt w' g ca ∧ w.grownBy w' (some g)) := Lib.hid (fun w h => by have := rload_any02 w g c0 (atStatus L me) h; rw [eca] at this; exact this)
  have q0 : (r0 % 4 == 3) = false := by simp [ho]
  have HL1 : Hid (∀ w, CurAt w g ca → Calls Try.prog 75 #[.pointer (some ⟨g, 0, none⟩), .int .i64 (atStatus L other)] w fun e w' => e = .returned (.int .i64 s) ∧ CurAt w' g c1 ∧ w.grownBy w' (some g)) := Lib.hid (fun w h => by have := rload_any02 w g ca (atStatus L other) h; rw [ec1] at this; exact this)
  have q1 : (s % 4 == 0) = false := by simp [hs]
  have HT : Hid (∀ w, Calls Try.prog 98 #[L.v, .int .i64 other] w fun e w' => e = .returned (.int .i64 (atStamp L other)) ∧ Below w.heap.size w w') := Lib.hid (fun w => rstamp_any L other w hok)
  have HK : Hid (∀ w, Calls Try.prog 99 #[L.v, .int .i64 other] w fun e w' => e = .returned (.int .i64 (atKarma L other)) ∧ Below w.heap.size w w') := Lib.hid (fun w => rkarma_any L other w hok)
  have HL2 : Hid (∀ w, CurAt w g c1 → Calls Try.prog 75 #[.pointer (some ⟨g, 0, none⟩), .int .i64 (atStamp L other)] w fun e w' => e = .returned (.int .i64 x) ∧ CurAt w' g c2 ∧ w.grownBy w' (some g)) := Lib.hid (fun w h => by have := rload_any02 w g c1 (atStamp L other) h; rw [ec2] at this; exact this)
  have HL3 : Hid (∀ w, CurAt w g c2 → Calls Try.prog 75 #[.pointer (some ⟨g, 0, none⟩), .int .i64 (atKarma L other)] w fun e w' => e = .returned (.int .i64 y) ∧ CurAt w' g c3 ∧ w.grownBy w' (some g)) := Lib.hid (fun w h => by have := rload_any02 w g c2 (atKarma L other) h; rw [ec3] at this; exact this)
  have HC : Hid (∀ w, Calls Try.prog 101 #[.int .i64 L.c.m, m.v, Ct.v ⟨x, y, s / 4⟩] w fun e w' => e = .returned (.int .i64 2) ∧ Below w.heap.size w w') := Lib.hid (fun w => by have := rchoose_any L.c.m m ⟨x, y, s / 4⟩ w; rwa [hv] at this)
  unfold Ct.v at HC
  have q3 : (s % 4 == 3) = true := by simp [hk]
  unfold Ly.v at HS HM HT HK ⊢
  unfold Ct.v
  have hg0 := curAt_lt h0
  have G : w.grownBy w (some g) := gb_refl _ _
  have hS0 : w.heap.size + 0 ≤ w.heap.size := Nat.le_refl _
  go_enter Try.func86, Try.ntmps86
  go_wp2_with fail
  obtain ⟨w1, hwr⟩ : ∃ W, W = ((w.alloc (.cells #[.int .i64 L.c.t, .int .i64 L.c.l, .int .i64 L.c.k, .int .i64 L.c.s, .int .i64 L.c.m, .int .i64 L.clock, .int .i64 L.stamps, .int .i64 L.log, .int .i64 L.fin, .int .i64 L.thread, .int .i64 L.lock, .int .i64 L.loc, .int .i64 L.size] 25)).alloc (.cells #[.int .i64 m.s, .int .i64 m.k, .int .i64 m.a] 27)) := ⟨_, rfl⟩
  rw [← hwr]
  have hb : Below w.heap.size w w1 := by rw [hwr]; exact (Below.alloc (Below.alloc (Below.refl _ _) (by first | exact Nat.le_refl _ | (simp; omega) | simp) _) (by first | exact Nat.le_refl _ | (simp; omega) | simp) _)
  have ll : CellsAt w1 (w.heap.size) [.int .i64 L.c.t, .int .i64 L.c.l, .int .i64 L.c.k, .int .i64 L.c.s, .int .i64 L.c.m, .int .i64 L.clock, .int .i64 L.stamps, .int .i64 L.log, .int .i64 L.fin, .int .i64 L.thread, .int .i64 L.lock, .int .i64 L.loc, .int .i64 L.size] := by rw [hwr]; exact (cellsAt_alloc (cellsAt_new' w _ _ (w.heap.size) (by simp)) _)
  have llz : w.heap.size < w1.heap.size := World.block_lt_of_cell? _ _ (ll 0 _ rfl)
  have mm : CellsAt w1 (w.heap.size + 1) [.int .i64 m.s, .int .i64 m.k, .int .i64 m.a] := by rw [hwr]; exact (cellsAt_new' (w.alloc (.cells #[.int .i64 L.c.t, .int .i64 L.c.l, .int .i64 L.c.k, .int .i64 L.c.s, .int .i64 L.c.m, .int .i64 L.clock, .int .i64 L.stamps, .int .i64 L.log, .int .i64 L.fin, .int .i64 L.thread, .int .i64 L.lock, .int .i64 L.loc, .int .i64 L.size] 25)) _ _ (w.heap.size + 1) (by simp))
  have mmz : w.heap.size + 1 < w1.heap.size := World.block_lt_of_cell? _ _ (mm 0 _ rfl)
  have h1 := curAt_keep h0 hb
  replace G := gb_trans G (gb_of_below (some g) hb)
  clear hb hwr
  replace hS0 := G.size
  have ll_4 := ll 4 _ rfl
  have mm_0 := mm 0 _ rfl
  have mm_1 := mm 1 _ rfl
  have mm_2 := mm 2 _ rfl
  go_wp2_with (first | ((with_reducible refine ld_lay ll rfl ?a85 ?h85); (case a85 => exact ⟨_, rfl, rfl, rfl⟩)))
  ((with_reducible refine (HM.out _).mono ?_); rintro e w2 ⟨rfl, hb⟩)
  clear ll_4
  clear mm_0 mm_1 mm_2
  have hsz := hb.size
  (try simp at hsz)
  replace ll := cellsAt_keep ll hb
  replace mm := cellsAt_keep mm hb
  replace llz : w.heap.size < w2.heap.size := by omega
  replace mmz : w.heap.size + 1 < w2.heap.size := by omega
  have h2 := curAt_keep h1 hb
  replace G := gb_trans G (gb_of_below (some g) hb)
  clear hb hsz
  replace hS0 := G.size
  have ll_4 := ll 4 _ rfl
  have mm_0 := mm 0 _ rfl
  have mm_1 := mm 1 _ rfl
  have mm_2 := mm 2 _ rfl
  go_wp2_with (first | ((with_reducible refine ld_lay ll rfl ?a86 ?h86); (case a86 => exact ⟨_, rfl, rfl, rfl⟩)))
  ((with_reducible refine (HL0.out _ h2).mono ?_); rintro e w3 ⟨rfl, h3, hb⟩)
  clear ll_4
  clear mm_0 mm_1 mm_2
  have hsz := hb.size
  (try simp at hsz)
  replace ll := cellsAt_gb ll hb (by omega)
  replace mm := cellsAt_gb mm hb (by omega)
  replace llz : w.heap.size < w3.heap.size := by omega
  replace mmz : w.heap.size + 1 < w3.heap.size := by omega
  replace G := gb_trans G hb
  clear hb hsz
  replace hS0 := G.size
  have ll_4 := ll 4 _ rfl
  have mm_0 := mm 0 _ rfl
  have mm_1 := mm 1 _ rfl
  have mm_2 := mm 2 _ rfl
  go_wp2_with (first | ((with_reducible refine ld_lay ll rfl ?a87 ?h87); (case a87 => exact ⟨_, rfl, rfl, rfl⟩)))
  ((with_reducible refine (rkind_any _ _).mono ?_); rintro e w' ⟨rfl, rfl⟩)
  go_wp2_with (first | ((with_reducible refine ld_lay ll rfl ?a88 ?h88); (case a88 => exact ⟨_, rfl, rfl, rfl⟩)))
  ((with_reducible refine (HS.out _).mono ?_); rintro e w4 ⟨rfl, hb⟩)
  clear ll_4
  clear mm_0 mm_1 mm_2
  have hsz := hb.size
  (try simp at hsz)
  replace ll := cellsAt_keep ll hb
  replace mm := cellsAt_keep mm hb
  replace llz : w.heap.size < w4.heap.size := by omega
  replace mmz : w.heap.size + 1 < w4.heap.size := by omega
  have h4 := curAt_keep h3 hb
  replace G := gb_trans G (gb_of_below (some g) hb)
  clear hb hsz
  replace hS0 := G.size
  have ll_4 := ll 4 _ rfl
  have mm_0 := mm 0 _ rfl
  have mm_1 := mm 1 _ rfl
  have mm_2 := mm 2 _ rfl
  go_wp2_with (first | ((with_reducible refine ld_lay ll rfl ?a89 ?h89); (case a89 => exact ⟨_, rfl, rfl, rfl⟩)))
  ((with_reducible refine (HL1.out _ h4).mono ?_); rintro e w5 ⟨rfl, h5, hb⟩)
  clear ll_4
  clear mm_0 mm_1 mm_2
  have hsz := hb.size
  (try simp at hsz)
  replace ll := cellsAt_gb ll hb (by omega)
  replace mm := cellsAt_gb mm hb (by omega)
  replace llz : w.heap.size < w5.heap.size := by omega
  replace mmz : w.heap.size + 1 < w5.heap.size := by omega
  replace G := gb_trans G hb
  clear hb hsz
  replace hS0 := G.size
  have ll_4 := ll 4 _ rfl
  have mm_0 := mm 0 _ rfl
  have mm_1 := mm 1 _ rfl
  have mm_2 := mm 2 _ rfl
  go_wp2_with (first | ((with_reducible refine ld_lay ll rfl ?a90 ?h90); (case a90 => exact ⟨_, rfl, rfl, rfl⟩)))
  ((with_reducible refine (rkind_any _ _).mono ?_); rintro e w' ⟨rfl, rfl⟩)
  go_wp2_with (first | ((with_reducible refine ld_lay ll rfl ?a91 ?h91); (case a91 => exact ⟨_, rfl, rfl, rfl⟩)))
  ((with_reducible refine (HT.out _).mono ?_); rintro e w6 ⟨rfl, hb⟩)
  clear ll_4
  clear mm_0 mm_1 mm_2
  have hsz := hb.size
  (try simp at hsz)
  replace ll := cellsAt_keep ll hb
  replace mm := cellsAt_keep mm hb
  replace llz : w.heap.size < w6.heap.size := by omega
  replace mmz : w.heap.size + 1 < w6.heap.size := by omega
  have h6 := curAt_keep h5 hb
  replace G := gb_trans G (gb_of_below (some g) hb)
  clear hb hsz
  replace hS0 := G.size
  have ll_4 := ll 4 _ rfl
  have mm_0 := mm 0 _ rfl
  have mm_1 := mm 1 _ rfl
  have mm_2 := mm 2 _ rfl
  go_wp2_with (first | ((with_reducible refine ld_lay ll rfl ?a92 ?h92); (case a92 => exact ⟨_, rfl, rfl, rfl⟩)))
  ((with_reducible refine (HL2.out _ h6).mono ?_); rintro e w7 ⟨rfl, h7, hb⟩)
  clear ll_4
  clear mm_0 mm_1 mm_2
  have hsz := hb.size
  (try simp at hsz)
  replace ll := cellsAt_gb ll hb (by omega)
  replace mm := cellsAt_gb mm hb (by omega)
  replace llz : w.heap.size < w7.heap.size := by omega
  replace mmz : w.heap.size + 1 < w7.heap.size := by omega
  replace G := gb_trans G hb
  clear hb hsz
  replace hS0 := G.size
  have ll_4 := ll 4 _ rfl
  have mm_0 := mm 0 _ rfl
  have mm_1 := mm 1 _ rfl
  have mm_2 := mm 2 _ rfl
  go_wp2_with (first | ((with_reducible refine ld_lay ll rfl ?a93 ?h93); (case a93 => exact ⟨_, rfl, rfl, rfl⟩)))
  ((with_reducible refine (HK.out _).mono ?_); rintro e w8 ⟨rfl, hb⟩)
  clear ll_4
  clear mm_0 mm_1 mm_2
  have hsz := hb.size
  (try simp at hsz)
  replace ll := cellsAt_keep ll hb
  replace mm := cellsAt_keep mm hb
  replace llz : w.heap.size < w8.heap.size := by omega
  replace mmz : w.heap.size + 1 < w8.heap.size := by omega
  have h8 := curAt_keep h7 hb
  replace G := gb_trans G (gb_of_below (some g) hb)
  clear hb hsz
  replace hS0 := G.size
  have ll_4 := ll 4 _ rfl
  have mm_0 := mm 0 _ rfl
  have mm_1 := mm 1 _ rfl
  have mm_2 := mm 2 _ rfl
  go_wp2_with (first | ((with_reducible refine ld_lay ll rfl ?a94 ?h94); (case a94 => exact ⟨_, rfl, rfl, rfl⟩)))
  ((with_reducible refine (HL3.out _ h8).mono ?_); rintro e w9 ⟨rfl, h9, hb⟩)
  clear ll_4
  clear mm_0 mm_1 mm_2
  have hsz := hb.size
  (try simp at hsz)
  replace ll := cellsAt_gb ll hb (by omega)
  replace mm := cellsAt_gb mm hb (by omega)
  replace llz : w.heap.size < w9.heap.size := by omega
  replace mmz : w.heap.size + 1 < w9.heap.size := by omega
  replace G := gb_trans G hb
  clear hb hsz
  replace hS0 := G.size
  have ll_4 := ll 4 _ rfl
  have mm_0 := mm 0 _ rfl
  have mm_1 := mm 1 _ rfl
  have mm_2 := mm 2 _ rfl
  go_wp2_with (first | ((with_reducible refine ld_lay ll rfl ?a95 ?h95); (case a95 => exact ⟨_, rfl, rfl, rfl⟩)))
  ((with_reducible refine (rtry_any _ hi _).mono ?_); rintro e w' ⟨rfl, rfl⟩)
  go_wp2_with (first | ((with_reducible refine ld_lay ll rfl ?a96 ?h96); (case a96 => exact ⟨_, rfl, rfl, rfl⟩)))
  ((with_reducible refine (HC.out _).mono ?_); rintro e w10 ⟨rfl, hb⟩)
  clear ll_4
  clear mm_0 mm_1 mm_2
  have hsz := hb.size
  (try simp at hsz)
  replace ll := cellsAt_keep ll hb
  replace mm := cellsAt_keep mm hb
  replace llz : w.heap.size < w10.heap.size := by omega
  replace mmz : w.heap.size + 1 < w10.heap.size := by omega
  have h10 := curAt_keep h9 hb
  replace G := gb_trans G (gb_of_below (some g) hb)
  clear hb hsz
  replace hS0 := G.size
  have ll_4 := ll 4 _ rfl
  have mm_0 := mm 0 _ rfl
  have mm_1 := mm 1 _ rfl
  have mm_2 := mm 2 _ rfl
  go_wp2_with (first | ((with_reducible refine ld_lay ll rfl ?a97 ?h97); (case a97 => exact ⟨_, rfl, rfl, rfl⟩)))
  go_ret2
  exact ⟨rfl, h10, G⟩

theorem ask_t_k2 (w : World) (g : Nat) (L : Ly) (hok : L.ok) (me other : Int) (m : Ct) (c0 : CSt) (h0 : CurAt w g c0) (r0 : Int) (b0 : Bool) (ca : CSt) (eca : cdo c0 ⟨1, atStatus L me, 0, 0⟩ = ((r0, b0), ca)) (ho : ¬r0 % 4 = 3) (s : Int) (b1 : Bool) (c1 : CSt) (ec1 : cdo ca ⟨1, atStatus L other, 0, 0⟩ = ((s, b1), c1)) (hs : ¬s % 4 = 0) (hi : I64 s) (x : Int) (b2 : Bool) (c2 : CSt) (ec2 : cdo c1 ⟨1, atStamp L other, 0, 0⟩ = ((x, b2), c2)) (y : Int) (b3 : Bool) (c3 : CSt) (ec3 : cdo c2 ⟨1, atKarma L other, 0, 0⟩ = ((y, b3), c3)) (hv : chooseD L.c.m m ⟨x, y, s / 4⟩ = 2) (hk : s % 4 = 2) :
    Calls Try.prog 86 #[.pointer (some ⟨g, 0, none⟩), L.v, .int .i64 me, .int .i64 other, .bool true, m.v] w fun e w' => e = .returned (.tuple #[.int .i64 3, .bool false]) ∧ CurAt w' g c3 ∧ w.grownBy w' (some g) := by
  have HS : Hid (∀ w, Calls Try.prog 46 #[L.v, .int .i64 other] w fun e w' => e = .returned (.int .i64 (atStatus L other)) ∧ Below w.heap.size w w') := Lib.hid (fun w => rstatus_any L other w hok)
  have HM : Hid (∀ w, Calls Try.prog 46 #[L.v, .int .i64 me] w fun e w' => e = .returned (.int .i64 (atStatus L me)) ∧ Below w.heap.size w w') := Lib.hid (fun w => rstatus_any L me w hok)
  have HL0 : Hid (∀ w, CurAt w g c0 → Calls Try.prog 75 #[.pointer (some ⟨g, 0, none⟩), .int .i64 (atStatus L me)] w fun e w' => e = .returned (.int .i64 r0) ∧ CurAt w' g ca ∧ w.grownBy w' (some g)) := Lib.hid (fun w h => by have := rload_any02 w g c0 (atStatus L me) h; rw [eca] at this; exact this)
  have q0 : (r0 % 4 == 3) = false := by simp [ho]
  have HL1 : Hid (∀ w, CurAt w g ca → Calls Try.prog 75 #[.pointer (some ⟨g, 0, none⟩), .int .i64 (atStatus L other)] w fun e w' => e = .returned (.int .i64 s) ∧ CurAt w' g c1 ∧ w.grownBy w' (some g)) := Lib.hid (fun w h => by have := rload_any02 w g ca (atStatus L other) h; rw [ec1] at this; exact this)
  have q1 : (s % 4 == 0) = false := by simp [hs]
  have HT : Hid (∀ w, Calls Try.prog 98 #[L.v, .int .i64 other] w fun e w' => e = .returned (.int .i64 (atStamp L other)) ∧ Below w.heap.size w w') := Lib.hid (fun w => rstamp_any L other w hok)
  have HK : Hid (∀ w, Calls Try.prog 99 #[L.v, .int .i64 other] w fun e w' => e = .returned (.int .i64 (atKarma L other)) ∧ Below w.heap.size w w') := Lib.hid (fun w => rkarma_any L other w hok)
  have HL2 : Hid (∀ w, CurAt w g c1 → Calls Try.prog 75 #[.pointer (some ⟨g, 0, none⟩), .int .i64 (atStamp L other)] w fun e w' => e = .returned (.int .i64 x) ∧ CurAt w' g c2 ∧ w.grownBy w' (some g)) := Lib.hid (fun w h => by have := rload_any02 w g c1 (atStamp L other) h; rw [ec2] at this; exact this)
  have HL3 : Hid (∀ w, CurAt w g c2 → Calls Try.prog 75 #[.pointer (some ⟨g, 0, none⟩), .int .i64 (atKarma L other)] w fun e w' => e = .returned (.int .i64 y) ∧ CurAt w' g c3 ∧ w.grownBy w' (some g)) := Lib.hid (fun w h => by have := rload_any02 w g c2 (atKarma L other) h; rw [ec3] at this; exact this)
  have HC : Hid (∀ w, Calls Try.prog 101 #[.int .i64 L.c.m, m.v, Ct.v ⟨x, y, s / 4⟩] w fun e w' => e = .returned (.int .i64 2) ∧ Below w.heap.size w w') := Lib.hid (fun w => by have := rchoose_any L.c.m m ⟨x, y, s / 4⟩ w; rwa [hv] at this)
  unfold Ct.v at HC
  have q3 : (s % 4 == 3) = false := by simp [hk]
  have q2 : (s % 4 == 2) = true := by simp [hk]
  unfold Ly.v at HS HM HT HK ⊢
  unfold Ct.v
  have hg0 := curAt_lt h0
  have G : w.grownBy w (some g) := gb_refl _ _
  have hS0 : w.heap.size + 0 ≤ w.heap.size := Nat.le_refl _
  go_enter Try.func86, Try.ntmps86
  go_wp2_with fail
  obtain ⟨w1, hwr⟩ : ∃ W, W = ((w.alloc (.cells #[.int .i64 L.c.t, .int .i64 L.c.l, .int .i64 L.c.k, .int .i64 L.c.s, .int .i64 L.c.m, .int .i64 L.clock, .int .i64 L.stamps, .int .i64 L.log, .int .i64 L.fin, .int .i64 L.thread, .int .i64 L.lock, .int .i64 L.loc, .int .i64 L.size] 25)).alloc (.cells #[.int .i64 m.s, .int .i64 m.k, .int .i64 m.a] 27)) := ⟨_, rfl⟩
  rw [← hwr]
  have hb : Below w.heap.size w w1 := by rw [hwr]; exact (Below.alloc (Below.alloc (Below.refl _ _) (by first | exact Nat.le_refl _ | (simp; omega) | simp) _) (by first | exact Nat.le_refl _ | (simp; omega) | simp) _)
  have ll : CellsAt w1 (w.heap.size) [.int .i64 L.c.t, .int .i64 L.c.l, .int .i64 L.c.k, .int .i64 L.c.s, .int .i64 L.c.m, .int .i64 L.clock, .int .i64 L.stamps, .int .i64 L.log, .int .i64 L.fin, .int .i64 L.thread, .int .i64 L.lock, .int .i64 L.loc, .int .i64 L.size] := by rw [hwr]; exact (cellsAt_alloc (cellsAt_new' w _ _ (w.heap.size) (by simp)) _)
  have llz : w.heap.size < w1.heap.size := World.block_lt_of_cell? _ _ (ll 0 _ rfl)
  have mm : CellsAt w1 (w.heap.size + 1) [.int .i64 m.s, .int .i64 m.k, .int .i64 m.a] := by rw [hwr]; exact (cellsAt_new' (w.alloc (.cells #[.int .i64 L.c.t, .int .i64 L.c.l, .int .i64 L.c.k, .int .i64 L.c.s, .int .i64 L.c.m, .int .i64 L.clock, .int .i64 L.stamps, .int .i64 L.log, .int .i64 L.fin, .int .i64 L.thread, .int .i64 L.lock, .int .i64 L.loc, .int .i64 L.size] 25)) _ _ (w.heap.size + 1) (by simp))
  have mmz : w.heap.size + 1 < w1.heap.size := World.block_lt_of_cell? _ _ (mm 0 _ rfl)
  have h1 := curAt_keep h0 hb
  replace G := gb_trans G (gb_of_below (some g) hb)
  clear hb hwr
  replace hS0 := G.size
  have ll_4 := ll 4 _ rfl
  have mm_0 := mm 0 _ rfl
  have mm_1 := mm 1 _ rfl
  have mm_2 := mm 2 _ rfl
  go_wp2_with (first | ((with_reducible refine ld_lay ll rfl ?a98 ?h98); (case a98 => exact ⟨_, rfl, rfl, rfl⟩)))
  ((with_reducible refine (HM.out _).mono ?_); rintro e w2 ⟨rfl, hb⟩)
  clear ll_4
  clear mm_0 mm_1 mm_2
  have hsz := hb.size
  (try simp at hsz)
  replace ll := cellsAt_keep ll hb
  replace mm := cellsAt_keep mm hb
  replace llz : w.heap.size < w2.heap.size := by omega
  replace mmz : w.heap.size + 1 < w2.heap.size := by omega
  have h2 := curAt_keep h1 hb
  replace G := gb_trans G (gb_of_below (some g) hb)
  clear hb hsz
  replace hS0 := G.size
  have ll_4 := ll 4 _ rfl
  have mm_0 := mm 0 _ rfl
  have mm_1 := mm 1 _ rfl
  have mm_2 := mm 2 _ rfl
  go_wp2_with (first | ((with_reducible refine ld_lay ll rfl ?a99 ?h99); (case a99 => exact ⟨_, rfl, rfl, rfl⟩)))
  ((with_reducible refine (HL0.out _ h2).mono ?_); rintro e w3 ⟨rfl, h3, hb⟩)
  clear ll_4
  clear mm_0 mm_1 mm_2
  have hsz := hb.size
  (try simp at hsz)
  replace ll := cellsAt_gb ll hb (by omega)
  replace mm := cellsAt_gb mm hb (by omega)
  replace llz : w.heap.size < w3.heap.size := by omega
  replace mmz : w.heap.size + 1 < w3.heap.size := by omega
  replace G := gb_trans G hb
  clear hb hsz
  replace hS0 := G.size
  have ll_4 := ll 4 _ rfl
  have mm_0 := mm 0 _ rfl
  have mm_1 := mm 1 _ rfl
  have mm_2 := mm 2 _ rfl
  go_wp2_with (first | ((with_reducible refine ld_lay ll rfl ?a100 ?h100); (case a100 => exact ⟨_, rfl, rfl, rfl⟩)))
  ((with_reducible refine (rkind_any _ _).mono ?_); rintro e w' ⟨rfl, rfl⟩)
  go_wp2_with (first | ((with_reducible refine ld_lay ll rfl ?a101 ?h101); (case a101 => exact ⟨_, rfl, rfl, rfl⟩)))
  ((with_reducible refine (HS.out _).mono ?_); rintro e w4 ⟨rfl, hb⟩)
  clear ll_4
  clear mm_0 mm_1 mm_2
  have hsz := hb.size
  (try simp at hsz)
  replace ll := cellsAt_keep ll hb
  replace mm := cellsAt_keep mm hb
  replace llz : w.heap.size < w4.heap.size := by omega
  replace mmz : w.heap.size + 1 < w4.heap.size := by omega
  have h4 := curAt_keep h3 hb
  replace G := gb_trans G (gb_of_below (some g) hb)
  clear hb hsz
  replace hS0 := G.size
  have ll_4 := ll 4 _ rfl
  have mm_0 := mm 0 _ rfl
  have mm_1 := mm 1 _ rfl
  have mm_2 := mm 2 _ rfl
  go_wp2_with (first | ((with_reducible refine ld_lay ll rfl ?a102 ?h102); (case a102 => exact ⟨_, rfl, rfl, rfl⟩)))
  ((with_reducible refine (HL1.out _ h4).mono ?_); rintro e w5 ⟨rfl, h5, hb⟩)
  clear ll_4
  clear mm_0 mm_1 mm_2
  have hsz := hb.size
  (try simp at hsz)
  replace ll := cellsAt_gb ll hb (by omega)
  replace mm := cellsAt_gb mm hb (by omega)
  replace llz : w.heap.size < w5.heap.size := by omega
  replace mmz : w.heap.size + 1 < w5.heap.size := by omega
  replace G := gb_trans G hb
  clear hb hsz
  replace hS0 := G.size
  have ll_4 := ll 4 _ rfl
  have mm_0 := mm 0 _ rfl
  have mm_1 := mm 1 _ rfl
  have mm_2 := mm 2 _ rfl
  go_wp2_with (first | ((with_reducible refine ld_lay ll rfl ?a103 ?h103); (case a103 => exact ⟨_, rfl, rfl, rfl⟩)))
  ((with_reducible refine (rkind_any _ _).mono ?_); rintro e w' ⟨rfl, rfl⟩)
  go_wp2_with (first | ((with_reducible refine ld_lay ll rfl ?a104 ?h104); (case a104 => exact ⟨_, rfl, rfl, rfl⟩)))
  ((with_reducible refine (HT.out _).mono ?_); rintro e w6 ⟨rfl, hb⟩)
  clear ll_4
  clear mm_0 mm_1 mm_2
  have hsz := hb.size
  (try simp at hsz)
  replace ll := cellsAt_keep ll hb
  replace mm := cellsAt_keep mm hb
  replace llz : w.heap.size < w6.heap.size := by omega
  replace mmz : w.heap.size + 1 < w6.heap.size := by omega
  have h6 := curAt_keep h5 hb
  replace G := gb_trans G (gb_of_below (some g) hb)
  clear hb hsz
  replace hS0 := G.size
  have ll_4 := ll 4 _ rfl
  have mm_0 := mm 0 _ rfl
  have mm_1 := mm 1 _ rfl
  have mm_2 := mm 2 _ rfl
  go_wp2_with (first | ((with_reducible refine ld_lay ll rfl ?a105 ?h105); (case a105 => exact ⟨_, rfl, rfl, rfl⟩)))
  ((with_reducible refine (HL2.out _ h6).mono ?_); rintro e w7 ⟨rfl, h7, hb⟩)
  clear ll_4
  clear mm_0 mm_1 mm_2
  have hsz := hb.size
  (try simp at hsz)
  replace ll := cellsAt_gb ll hb (by omega)
  replace mm := cellsAt_gb mm hb (by omega)
  replace llz : w.heap.size < w7.heap.size := by omega
  replace mmz : w.heap.size + 1 < w7.heap.size := by omega
  replace G := gb_trans G hb
  clear hb hsz
  replace hS0 := G.size
  have ll_4 := ll 4 _ rfl
  have mm_0 := mm 0 _ rfl
  have mm_1 := mm 1 _ rfl
  have mm_2 := mm 2 _ rfl
  go_wp2_with (first | ((with_reducible refine ld_lay ll rfl ?a106 ?h106); (case a106 => exact ⟨_, rfl, rfl, rfl⟩)))
  ((with_reducible refine (HK.out _).mono ?_); rintro e w8 ⟨rfl, hb⟩)
  clear ll_4
  clear mm_0 mm_1 mm_2
  have hsz := hb.size
  (try simp at hsz)
  replace ll := cellsAt_keep ll hb
  replace mm := cellsAt_keep mm hb
  replace llz : w.heap.size < w8.heap.size := by omega
  replace mmz : w.heap.size + 1 < w8.heap.size := by omega
  have h8 := curAt_keep h7 hb
  replace G := gb_trans G (gb_of_below (some g) hb)
  clear hb hsz
  replace hS0 := G.size
  have ll_4 := ll 4 _ rfl
  have mm_0 := mm 0 _ rfl
  have mm_1 := mm 1 _ rfl
  have mm_2 := mm 2 _ rfl
  go_wp2_with (first | ((with_reducible refine ld_lay ll rfl ?a107 ?h107); (case a107 => exact ⟨_, rfl, rfl, rfl⟩)))
  ((with_reducible refine (HL3.out _ h8).mono ?_); rintro e w9 ⟨rfl, h9, hb⟩)
  clear ll_4
  clear mm_0 mm_1 mm_2
  have hsz := hb.size
  (try simp at hsz)
  replace ll := cellsAt_gb ll hb (by omega)
  replace mm := cellsAt_gb mm hb (by omega)
  replace llz : w.heap.size < w9.heap.size := by omega
  replace mmz : w.heap.size + 1 < w9.heap.size := by omega
  replace G := gb_trans G hb
  clear hb hsz
  replace hS0 := G.size
  have ll_4 := ll 4 _ rfl
  have mm_0 := mm 0 _ rfl
  have mm_1 := mm 1 _ rfl
  have mm_2 := mm 2 _ rfl
  go_wp2_with (first | ((with_reducible refine ld_lay ll rfl ?a108 ?h108); (case a108 => exact ⟨_, rfl, rfl, rfl⟩)))
  ((with_reducible refine (rtry_any _ hi _).mono ?_); rintro e w' ⟨rfl, rfl⟩)
  go_wp2_with (first | ((with_reducible refine ld_lay ll rfl ?a109 ?h109); (case a109 => exact ⟨_, rfl, rfl, rfl⟩)))
  ((with_reducible refine (HC.out _).mono ?_); rintro e w10 ⟨rfl, hb⟩)
  clear ll_4
  clear mm_0 mm_1 mm_2
  have hsz := hb.size
  (try simp at hsz)
  replace ll := cellsAt_keep ll hb
  replace mm := cellsAt_keep mm hb
  replace llz : w.heap.size < w10.heap.size := by omega
  replace mmz : w.heap.size + 1 < w10.heap.size := by omega
  have h10 := curAt_keep h9 hb
  replace G := gb_trans G (gb_of_below (some g) hb)
  clear hb hsz
  replace hS0 := G.size
  have ll_4 := ll 4 _ rfl
  have mm_0 := mm 0 _ rfl
  have mm_1 := mm 1 _ rfl
  have mm_2 := mm 2 _ rfl
  go_wp2_with (first | ((with_reducible refine ld_lay ll rfl ?a110 ?h110); (case a110 => exact ⟨_, rfl, rfl, rfl⟩)))
  go_ret2
  exact ⟨rfl, h10, G⟩

theorem ask_t_cast (w : World) (g : Nat) (L : Ly) (hok : L.ok) (me other : Int) (m : Ct) (c0 : CSt) (h0 : CurAt w g c0) (r0 : Int) (b0 : Bool) (ca : CSt) (eca : cdo c0 ⟨1, atStatus L me, 0, 0⟩ = ((r0, b0), ca)) (ho : ¬r0 % 4 = 3) (s : Int) (b1 : Bool) (c1 : CSt) (ec1 : cdo ca ⟨1, atStatus L other, 0, 0⟩ = ((s, b1), c1)) (hs : ¬s % 4 = 0) (hi : I64 s) (x : Int) (b2 : Bool) (c2 : CSt) (ec2 : cdo c1 ⟨1, atStamp L other, 0, 0⟩ = ((x, b2), c2)) (y : Int) (b3 : Bool) (c3 : CSt) (ec3 : cdo c2 ⟨1, atKarma L other, 0, 0⟩ = ((y, b3), c3)) (hv : chooseD L.c.m m ⟨x, y, s / 4⟩ = 2) (hk : s % 4 = 1) (z : Int) (c4 : CSt) (ec4 : cdo c3 ⟨3, atStatus L other, s, wrap64 (4 * (s / 4) + 3)⟩ = ((z, true), c4)) :
    Calls Try.prog 86 #[.pointer (some ⟨g, 0, none⟩), L.v, .int .i64 me, .int .i64 other, .bool true, m.v] w fun e w' => e = .returned (.tuple #[.int .i64 2, .bool false]) ∧ CurAt w' g c4 ∧ w.grownBy w' (some g) := by
  have HS : Hid (∀ w, Calls Try.prog 46 #[L.v, .int .i64 other] w fun e w' => e = .returned (.int .i64 (atStatus L other)) ∧ Below w.heap.size w w') := Lib.hid (fun w => rstatus_any L other w hok)
  have HM : Hid (∀ w, Calls Try.prog 46 #[L.v, .int .i64 me] w fun e w' => e = .returned (.int .i64 (atStatus L me)) ∧ Below w.heap.size w w') := Lib.hid (fun w => rstatus_any L me w hok)
  have HL0 : Hid (∀ w, CurAt w g c0 → Calls Try.prog 75 #[.pointer (some ⟨g, 0, none⟩), .int .i64 (atStatus L me)] w fun e w' => e = .returned (.int .i64 r0) ∧ CurAt w' g ca ∧ w.grownBy w' (some g)) := Lib.hid (fun w h => by have := rload_any02 w g c0 (atStatus L me) h; rw [eca] at this; exact this)
  have q0 : (r0 % 4 == 3) = false := by simp [ho]
  have HL1 : Hid (∀ w, CurAt w g ca → Calls Try.prog 75 #[.pointer (some ⟨g, 0, none⟩), .int .i64 (atStatus L other)] w fun e w' => e = .returned (.int .i64 s) ∧ CurAt w' g c1 ∧ w.grownBy w' (some g)) := Lib.hid (fun w h => by have := rload_any02 w g ca (atStatus L other) h; rw [ec1] at this; exact this)
  have q1 : (s % 4 == 0) = false := by simp [hs]
  have HT : Hid (∀ w, Calls Try.prog 98 #[L.v, .int .i64 other] w fun e w' => e = .returned (.int .i64 (atStamp L other)) ∧ Below w.heap.size w w') := Lib.hid (fun w => rstamp_any L other w hok)
  have HK : Hid (∀ w, Calls Try.prog 99 #[L.v, .int .i64 other] w fun e w' => e = .returned (.int .i64 (atKarma L other)) ∧ Below w.heap.size w w') := Lib.hid (fun w => rkarma_any L other w hok)
  have HL2 : Hid (∀ w, CurAt w g c1 → Calls Try.prog 75 #[.pointer (some ⟨g, 0, none⟩), .int .i64 (atStamp L other)] w fun e w' => e = .returned (.int .i64 x) ∧ CurAt w' g c2 ∧ w.grownBy w' (some g)) := Lib.hid (fun w h => by have := rload_any02 w g c1 (atStamp L other) h; rw [ec2] at this; exact this)
  have HL3 : Hid (∀ w, CurAt w g c2 → Calls Try.prog 75 #[.pointer (some ⟨g, 0, none⟩), .int .i64 (atKarma L other)] w fun e w' => e = .returned (.int .i64 y) ∧ CurAt w' g c3 ∧ w.grownBy w' (some g)) := Lib.hid (fun w h => by have := rload_any02 w g c2 (atKarma L other) h; rw [ec3] at this; exact this)
  have HC : Hid (∀ w, Calls Try.prog 101 #[.int .i64 L.c.m, m.v, Ct.v ⟨x, y, s / 4⟩] w fun e w' => e = .returned (.int .i64 2) ∧ Below w.heap.size w w') := Lib.hid (fun w => by have := rchoose_any L.c.m m ⟨x, y, s / 4⟩ w; rwa [hv] at this)
  unfold Ct.v at HC
  have q3 : (s % 4 == 3) = false := by simp [hk]
  have q2 : (s % 4 == 2) = false := by simp [hk]
  have HX : Hid (∀ w, CurAt w g c3 → Calls Try.prog 76 #[.pointer (some ⟨g, 0, none⟩), .int .i64 (atStatus L other), .int .i64 s, .int .i64 (wrap64 (4 * (s / 4) + 3))] w fun e w' => e = .returned (.bool true) ∧ CurAt w' g c4 ∧ w.grownBy w' (some g)) := Lib.hid (fun w h => by have := rcas_any02 w g c3 (atStatus L other) s (wrap64 (4 * (s / 4) + 3)) h; rw [ec4] at this; exact this)
  unfold Ly.v at HS HM HT HK ⊢
  unfold Ct.v
  have hg0 := curAt_lt h0
  have G : w.grownBy w (some g) := gb_refl _ _
  have hS0 : w.heap.size + 0 ≤ w.heap.size := Nat.le_refl _
  go_enter Try.func86, Try.ntmps86
  go_wp2_with fail
  obtain ⟨w1, hwr⟩ : ∃ W, W = ((w.alloc (.cells #[.int .i64 L.c.t, .int .i64 L.c.l, .int .i64 L.c.k, .int .i64 L.c.s, .int .i64 L.c.m, .int .i64 L.clock, .int .i64 L.stamps, .int .i64 L.log, .int .i64 L.fin, .int .i64 L.thread, .int .i64 L.lock, .int .i64 L.loc, .int .i64 L.size] 25)).alloc (.cells #[.int .i64 m.s, .int .i64 m.k, .int .i64 m.a] 27)) := ⟨_, rfl⟩
  rw [← hwr]
  have hb : Below w.heap.size w w1 := by rw [hwr]; exact (Below.alloc (Below.alloc (Below.refl _ _) (by first | exact Nat.le_refl _ | (simp; omega) | simp) _) (by first | exact Nat.le_refl _ | (simp; omega) | simp) _)
  have ll : CellsAt w1 (w.heap.size) [.int .i64 L.c.t, .int .i64 L.c.l, .int .i64 L.c.k, .int .i64 L.c.s, .int .i64 L.c.m, .int .i64 L.clock, .int .i64 L.stamps, .int .i64 L.log, .int .i64 L.fin, .int .i64 L.thread, .int .i64 L.lock, .int .i64 L.loc, .int .i64 L.size] := by rw [hwr]; exact (cellsAt_alloc (cellsAt_new' w _ _ (w.heap.size) (by simp)) _)
  have llz : w.heap.size < w1.heap.size := World.block_lt_of_cell? _ _ (ll 0 _ rfl)
  have mm : CellsAt w1 (w.heap.size + 1) [.int .i64 m.s, .int .i64 m.k, .int .i64 m.a] := by rw [hwr]; exact (cellsAt_new' (w.alloc (.cells #[.int .i64 L.c.t, .int .i64 L.c.l, .int .i64 L.c.k, .int .i64 L.c.s, .int .i64 L.c.m, .int .i64 L.clock, .int .i64 L.stamps, .int .i64 L.log, .int .i64 L.fin, .int .i64 L.thread, .int .i64 L.lock, .int .i64 L.loc, .int .i64 L.size] 25)) _ _ (w.heap.size + 1) (by simp))
  have mmz : w.heap.size + 1 < w1.heap.size := World.block_lt_of_cell? _ _ (mm 0 _ rfl)
  have h1 := curAt_keep h0 hb
  replace G := gb_trans G (gb_of_below (some g) hb)
  clear hb hwr
  replace hS0 := G.size
  have ll_4 := ll 4 _ rfl
  have mm_0 := mm 0 _ rfl
  have mm_1 := mm 1 _ rfl
  have mm_2 := mm 2 _ rfl
  go_wp2_with (first | ((with_reducible refine ld_lay ll rfl ?a111 ?h111); (case a111 => exact ⟨_, rfl, rfl, rfl⟩)))
  ((with_reducible refine (HM.out _).mono ?_); rintro e w2 ⟨rfl, hb⟩)
  clear ll_4
  clear mm_0 mm_1 mm_2
  have hsz := hb.size
  (try simp at hsz)
  replace ll := cellsAt_keep ll hb
  replace mm := cellsAt_keep mm hb
  replace llz : w.heap.size < w2.heap.size := by omega
  replace mmz : w.heap.size + 1 < w2.heap.size := by omega
  have h2 := curAt_keep h1 hb
  replace G := gb_trans G (gb_of_below (some g) hb)
  clear hb hsz
  replace hS0 := G.size
  have ll_4 := ll 4 _ rfl
  have mm_0 := mm 0 _ rfl
  have mm_1 := mm 1 _ rfl
  have mm_2 := mm 2 _ rfl
  go_wp2_with (first | ((with_reducible refine ld_lay ll rfl ?a112 ?h112); (case a112 => exact ⟨_, rfl, rfl, rfl⟩)))
  ((with_reducible refine (HL0.out _ h2).mono ?_); rintro e w3 ⟨rfl, h3, hb⟩)
  clear ll_4
  clear mm_0 mm_1 mm_2
  have hsz := hb.size
  (try simp at hsz)
  replace ll := cellsAt_gb ll hb (by omega)
  replace mm := cellsAt_gb mm hb (by omega)
  replace llz : w.heap.size < w3.heap.size := by omega
  replace mmz : w.heap.size + 1 < w3.heap.size := by omega
  replace G := gb_trans G hb
  clear hb hsz
  replace hS0 := G.size
  have ll_4 := ll 4 _ rfl
  have mm_0 := mm 0 _ rfl
  have mm_1 := mm 1 _ rfl
  have mm_2 := mm 2 _ rfl
  go_wp2_with (first | ((with_reducible refine ld_lay ll rfl ?a113 ?h113); (case a113 => exact ⟨_, rfl, rfl, rfl⟩)))
  ((with_reducible refine (rkind_any _ _).mono ?_); rintro e w' ⟨rfl, rfl⟩)
  go_wp2_with (first | ((with_reducible refine ld_lay ll rfl ?a114 ?h114); (case a114 => exact ⟨_, rfl, rfl, rfl⟩)))
  ((with_reducible refine (HS.out _).mono ?_); rintro e w4 ⟨rfl, hb⟩)
  clear ll_4
  clear mm_0 mm_1 mm_2
  have hsz := hb.size
  (try simp at hsz)
  replace ll := cellsAt_keep ll hb
  replace mm := cellsAt_keep mm hb
  replace llz : w.heap.size < w4.heap.size := by omega
  replace mmz : w.heap.size + 1 < w4.heap.size := by omega
  have h4 := curAt_keep h3 hb
  replace G := gb_trans G (gb_of_below (some g) hb)
  clear hb hsz
  replace hS0 := G.size
  have ll_4 := ll 4 _ rfl
  have mm_0 := mm 0 _ rfl
  have mm_1 := mm 1 _ rfl
  have mm_2 := mm 2 _ rfl
  go_wp2_with (first | ((with_reducible refine ld_lay ll rfl ?a115 ?h115); (case a115 => exact ⟨_, rfl, rfl, rfl⟩)))
  ((with_reducible refine (HL1.out _ h4).mono ?_); rintro e w5 ⟨rfl, h5, hb⟩)
  clear ll_4
  clear mm_0 mm_1 mm_2
  have hsz := hb.size
  (try simp at hsz)
  replace ll := cellsAt_gb ll hb (by omega)
  replace mm := cellsAt_gb mm hb (by omega)
  replace llz : w.heap.size < w5.heap.size := by omega
  replace mmz : w.heap.size + 1 < w5.heap.size := by omega
  replace G := gb_trans G hb
  clear hb hsz
  replace hS0 := G.size
  have ll_4 := ll 4 _ rfl
  have mm_0 := mm 0 _ rfl
  have mm_1 := mm 1 _ rfl
  have mm_2 := mm 2 _ rfl
  go_wp2_with (first | ((with_reducible refine ld_lay ll rfl ?a116 ?h116); (case a116 => exact ⟨_, rfl, rfl, rfl⟩)))
  ((with_reducible refine (rkind_any _ _).mono ?_); rintro e w' ⟨rfl, rfl⟩)
  go_wp2_with (first | ((with_reducible refine ld_lay ll rfl ?a117 ?h117); (case a117 => exact ⟨_, rfl, rfl, rfl⟩)))
  ((with_reducible refine (HT.out _).mono ?_); rintro e w6 ⟨rfl, hb⟩)
  clear ll_4
  clear mm_0 mm_1 mm_2
  have hsz := hb.size
  (try simp at hsz)
  replace ll := cellsAt_keep ll hb
  replace mm := cellsAt_keep mm hb
  replace llz : w.heap.size < w6.heap.size := by omega
  replace mmz : w.heap.size + 1 < w6.heap.size := by omega
  have h6 := curAt_keep h5 hb
  replace G := gb_trans G (gb_of_below (some g) hb)
  clear hb hsz
  replace hS0 := G.size
  have ll_4 := ll 4 _ rfl
  have mm_0 := mm 0 _ rfl
  have mm_1 := mm 1 _ rfl
  have mm_2 := mm 2 _ rfl
  go_wp2_with (first | ((with_reducible refine ld_lay ll rfl ?a118 ?h118); (case a118 => exact ⟨_, rfl, rfl, rfl⟩)))
  ((with_reducible refine (HL2.out _ h6).mono ?_); rintro e w7 ⟨rfl, h7, hb⟩)
  clear ll_4
  clear mm_0 mm_1 mm_2
  have hsz := hb.size
  (try simp at hsz)
  replace ll := cellsAt_gb ll hb (by omega)
  replace mm := cellsAt_gb mm hb (by omega)
  replace llz : w.heap.size < w7.heap.size := by omega
  replace mmz : w.heap.size + 1 < w7.heap.size := by omega
  replace G := gb_trans G hb
  clear hb hsz
  replace hS0 := G.size
  have ll_4 := ll 4 _ rfl
  have mm_0 := mm 0 _ rfl
  have mm_1 := mm 1 _ rfl
  have mm_2 := mm 2 _ rfl
  go_wp2_with (first | ((with_reducible refine ld_lay ll rfl ?a119 ?h119); (case a119 => exact ⟨_, rfl, rfl, rfl⟩)))
  ((with_reducible refine (HK.out _).mono ?_); rintro e w8 ⟨rfl, hb⟩)
  clear ll_4
  clear mm_0 mm_1 mm_2
  have hsz := hb.size
  (try simp at hsz)
  replace ll := cellsAt_keep ll hb
  replace mm := cellsAt_keep mm hb
  replace llz : w.heap.size < w8.heap.size := by omega
  replace mmz : w.heap.size + 1 < w8.heap.size := by omega
  have h8 := curAt_keep h7 hb
  replace G := gb_trans G (gb_of_below (some g) hb)
  clear hb hsz
  replace hS0 := G.size
  have ll_4 := ll 4 _ rfl
  have mm_0 := mm 0 _ rfl
  have mm_1 := mm 1 _ rfl
  have mm_2 := mm 2 _ rfl
  go_wp2_with (first | ((with_reducible refine ld_lay ll rfl ?a120 ?h120); (case a120 => exact ⟨_, rfl, rfl, rfl⟩)))
  ((with_reducible refine (HL3.out _ h8).mono ?_); rintro e w9 ⟨rfl, h9, hb⟩)
  clear ll_4
  clear mm_0 mm_1 mm_2
  have hsz := hb.size
  (try simp at hsz)
  replace ll := cellsAt_gb ll hb (by omega)
  replace mm := cellsAt_gb mm hb (by omega)
  replace llz : w.heap.size < w9.heap.size := by omega
  replace mmz : w.heap.size + 1 < w9.heap.size := by omega
  replace G := gb_trans G hb
  clear hb hsz
  replace hS0 := G.size
  have ll_4 := ll 4 _ rfl
  have mm_0 := mm 0 _ rfl
  have mm_1 := mm 1 _ rfl
  have mm_2 := mm 2 _ rfl
  go_wp2_with (first | ((with_reducible refine ld_lay ll rfl ?a121 ?h121); (case a121 => exact ⟨_, rfl, rfl, rfl⟩)))
  ((with_reducible refine (rtry_any _ hi _).mono ?_); rintro e w' ⟨rfl, rfl⟩)
  go_wp2_with (first | ((with_reducible refine ld_lay ll rfl ?a122 ?h122); (case a122 => exact ⟨_, rfl, rfl, rfl⟩)))
  ((with_reducible refine (HC.out _).mono ?_); rintro e w10 ⟨rfl, hb⟩)
  clear ll_4
  clear mm_0 mm_1 mm_2
  have hsz := hb.size
  (try simp at hsz)
  replace ll := cellsAt_keep ll hb
  replace mm := cellsAt_keep mm hb
  replace llz : w.heap.size < w10.heap.size := by omega
  replace mmz : w.heap.size + 1 < w10.heap.size := by omega
  have h10 := curAt_keep h9 hb
  replace G := gb_trans G (gb_of_below (some g) hb)
  clear hb hsz
  replace hS0 := G.size
  have ll_4 := ll 4 _ rfl
  have mm_0 := mm 0 _ rfl
  have mm_1 := mm 1 _ rfl
  have mm_2 := mm 2 _ rfl
  go_wp2_with (first | ((with_reducible refine ld_lay ll rfl ?a123 ?h123); (case a123 => exact ⟨_, rfl, rfl, rfl⟩)))
  ((with_reducible refine (HS.out _).mono ?_); rintro e w11 ⟨rfl, hb⟩)
  clear ll_4
  clear mm_0 mm_1 mm_2
  have hsz := hb.size
  (try simp at hsz)
  replace ll := cellsAt_keep ll hb
  replace mm := cellsAt_keep mm hb
  replace llz : w.heap.size < w11.heap.size := by omega
  replace mmz : w.heap.size + 1 < w11.heap.size := by omega
  have h11 := curAt_keep h10 hb
  replace G := gb_trans G (gb_of_below (some g) hb)
  clear hb hsz
  replace hS0 := G.size
  have ll_4 := ll 4 _ rfl
  have mm_0 := mm 0 _ rfl
  have mm_1 := mm 1 _ rfl
  have mm_2 := mm 2 _ rfl
  go_wp2_with (first | ((with_reducible refine ld_lay ll rfl ?a124 ?h124); (case a124 => exact ⟨_, rfl, rfl, rfl⟩)))
  ((with_reducible refine (rwstatus_any _ _ _).mono ?_); rintro e w' ⟨rfl, rfl⟩)
  go_wp2_with (first | ((with_reducible refine ld_lay ll rfl ?a125 ?h125); (case a125 => exact ⟨_, rfl, rfl, rfl⟩)))
  ((with_reducible refine (HX.out _ h11).mono ?_); rintro e w12 ⟨rfl, h12, hb⟩)
  clear ll_4
  clear mm_0 mm_1 mm_2
  have hsz := hb.size
  (try simp at hsz)
  replace ll := cellsAt_gb ll hb (by omega)
  replace mm := cellsAt_gb mm hb (by omega)
  replace llz : w.heap.size < w12.heap.size := by omega
  replace mmz : w.heap.size + 1 < w12.heap.size := by omega
  replace G := gb_trans G hb
  clear hb hsz
  replace hS0 := G.size
  have ll_4 := ll 4 _ rfl
  have mm_0 := mm 0 _ rfl
  have mm_1 := mm 1 _ rfl
  have mm_2 := mm 2 _ rfl
  go_wp2_with (first | ((with_reducible refine ld_lay ll rfl ?a126 ?h126); (case a126 => exact ⟨_, rfl, rfl, rfl⟩)))
  go_ret2
  exact ⟨rfl, h12, G⟩

theorem ask_t_casf (w : World) (g : Nat) (L : Ly) (hok : L.ok) (me other : Int) (m : Ct) (c0 : CSt) (h0 : CurAt w g c0) (r0 : Int) (b0 : Bool) (ca : CSt) (eca : cdo c0 ⟨1, atStatus L me, 0, 0⟩ = ((r0, b0), ca)) (ho : ¬r0 % 4 = 3) (s : Int) (b1 : Bool) (c1 : CSt) (ec1 : cdo ca ⟨1, atStatus L other, 0, 0⟩ = ((s, b1), c1)) (hs : ¬s % 4 = 0) (hi : I64 s) (x : Int) (b2 : Bool) (c2 : CSt) (ec2 : cdo c1 ⟨1, atStamp L other, 0, 0⟩ = ((x, b2), c2)) (y : Int) (b3 : Bool) (c3 : CSt) (ec3 : cdo c2 ⟨1, atKarma L other, 0, 0⟩ = ((y, b3), c3)) (hv : chooseD L.c.m m ⟨x, y, s / 4⟩ = 2) (hk : s % 4 = 1) (z : Int) (c4 : CSt) (ec4 : cdo c3 ⟨3, atStatus L other, s, wrap64 (4 * (s / 4) + 3)⟩ = ((z, false), c4)) :
    Calls Try.prog 86 #[.pointer (some ⟨g, 0, none⟩), L.v, .int .i64 me, .int .i64 other, .bool true, m.v] w fun e w' => e = .returned (.tuple #[.int .i64 0, .bool false]) ∧ CurAt w' g c4 ∧ w.grownBy w' (some g) := by
  have HS : Hid (∀ w, Calls Try.prog 46 #[L.v, .int .i64 other] w fun e w' => e = .returned (.int .i64 (atStatus L other)) ∧ Below w.heap.size w w') := Lib.hid (fun w => rstatus_any L other w hok)
  have HM : Hid (∀ w, Calls Try.prog 46 #[L.v, .int .i64 me] w fun e w' => e = .returned (.int .i64 (atStatus L me)) ∧ Below w.heap.size w w') := Lib.hid (fun w => rstatus_any L me w hok)
  have HL0 : Hid (∀ w, CurAt w g c0 → Calls Try.prog 75 #[.pointer (some ⟨g, 0, none⟩), .int .i64 (atStatus L me)] w fun e w' => e = .returned (.int .i64 r0) ∧ CurAt w' g ca ∧ w.grownBy w' (some g)) := Lib.hid (fun w h => by have := rload_any02 w g c0 (atStatus L me) h; rw [eca] at this; exact this)
  have q0 : (r0 % 4 == 3) = false := by simp [ho]
  have HL1 : Hid (∀ w, CurAt w g ca → Calls Try.prog 75 #[.pointer (some ⟨g, 0, none⟩), .int .i64 (atStatus L other)] w fun e w' => e = .returned (.int .i64 s) ∧ CurAt w' g c1 ∧ w.grownBy w' (some g)) := Lib.hid (fun w h => by have := rload_any02 w g ca (atStatus L other) h; rw [ec1] at this; exact this)
  have q1 : (s % 4 == 0) = false := by simp [hs]
  have HT : Hid (∀ w, Calls Try.prog 98 #[L.v, .int .i64 other] w fun e w' => e = .returned (.int .i64 (atStamp L other)) ∧ Below w.heap.size w w') := Lib.hid (fun w => rstamp_any L other w hok)
  have HK : Hid (∀ w, Calls Try.prog 99 #[L.v, .int .i64 other] w fun e w' => e = .returned (.int .i64 (atKarma L other)) ∧ Below w.heap.size w w') := Lib.hid (fun w => rkarma_any L other w hok)
  have HL2 : Hid (∀ w, CurAt w g c1 → Calls Try.prog 75 #[.pointer (some ⟨g, 0, none⟩), .int .i64 (atStamp L other)] w fun e w' => e = .returned (.int .i64 x) ∧ CurAt w' g c2 ∧ w.grownBy w' (some g)) := Lib.hid (fun w h => by have := rload_any02 w g c1 (atStamp L other) h; rw [ec2] at this; exact this)
  have HL3 : Hid (∀ w, CurAt w g c2 → Calls Try.prog 75 #[.pointer (some ⟨g, 0, none⟩), .int .i64 (atKarma L other)] w fun e w' => e = .returned (.int .i64 y) ∧ CurAt w' g c3 ∧ w.grownBy w' (some g)) := Lib.hid (fun w h => by have := rload_any02 w g c2 (atKarma L other) h; rw [ec3] at this; exact this)
  have HC : Hid (∀ w, Calls Try.prog 101 #[.int .i64 L.c.m, m.v, Ct.v ⟨x, y, s / 4⟩] w fun e w' => e = .returned (.int .i64 2) ∧ Below w.heap.size w w') := Lib.hid (fun w => by have := rchoose_any L.c.m m ⟨x, y, s / 4⟩ w; rwa [hv] at this)
  unfold Ct.v at HC
  have q3 : (s % 4 == 3) = false := by simp [hk]
  have q2 : (s % 4 == 2) = false := by simp [hk]
  have HX : Hid (∀ w, CurAt w g c3 → Calls Try.prog 76 #[.pointer (some ⟨g, 0, none⟩), .int .i64 (atStatus L other), .int .i64 s, .int .i64 (wrap64 (4 * (s / 4) + 3))] w fun e w' => e = .returned (.bool false) ∧ CurAt w' g c4 ∧ w.grownBy w' (some g)) := Lib.hid (fun w h => by have := rcas_any02 w g c3 (atStatus L other) s (wrap64 (4 * (s / 4) + 3)) h; rw [ec4] at this; exact this)
  unfold Ly.v at HS HM HT HK ⊢
  unfold Ct.v
  have hg0 := curAt_lt h0
  have G : w.grownBy w (some g) := gb_refl _ _
  have hS0 : w.heap.size + 0 ≤ w.heap.size := Nat.le_refl _
  go_enter Try.func86, Try.ntmps86
  go_wp2_with fail
  obtain ⟨w1, hwr⟩ : ∃ W, W = ((w.alloc (.cells #[.int .i64 L.c.t, .int .i64 L.c.l, .int .i64 L.c.k, .int .i64 L.c.s, .int .i64 L.c.m, .int .i64 L.clock, .int .i64 L.stamps, .int .i64 L.log, .int .i64 L.fin, .int .i64 L.thread, .int .i64 L.lock, .int .i64 L.loc, .int .i64 L.size] 25)).alloc (.cells #[.int .i64 m.s, .int .i64 m.k, .int .i64 m.a] 27)) := ⟨_, rfl⟩
  rw [← hwr]
  have hb : Below w.heap.size w w1 := by rw [hwr]; exact (Below.alloc (Below.alloc (Below.refl _ _) (by first | exact Nat.le_refl _ | (simp; omega) | simp) _) (by first | exact Nat.le_refl _ | (simp; omega) | simp) _)
  have ll : CellsAt w1 (w.heap.size) [.int .i64 L.c.t, .int .i64 L.c.l, .int .i64 L.c.k, .int .i64 L.c.s, .int .i64 L.c.m, .int .i64 L.clock, .int .i64 L.stamps, .int .i64 L.log, .int .i64 L.fin, .int .i64 L.thread, .int .i64 L.lock, .int .i64 L.loc, .int .i64 L.size] := by rw [hwr]; exact (cellsAt_alloc (cellsAt_new' w _ _ (w.heap.size) (by simp)) _)
  have llz : w.heap.size < w1.heap.size := World.block_lt_of_cell? _ _ (ll 0 _ rfl)
  have mm : CellsAt w1 (w.heap.size + 1) [.int .i64 m.s, .int .i64 m.k, .int .i64 m.a] := by rw [hwr]; exact (cellsAt_new' (w.alloc (.cells #[.int .i64 L.c.t, .int .i64 L.c.l, .int .i64 L.c.k, .int .i64 L.c.s, .int .i64 L.c.m, .int .i64 L.clock, .int .i64 L.stamps, .int .i64 L.log, .int .i64 L.fin, .int .i64 L.thread, .int .i64 L.lock, .int .i64 L.loc, .int .i64 L.size] 25)) _ _ (w.heap.size + 1) (by simp))
  have mmz : w.heap.size + 1 < w1.heap.size := World.block_lt_of_cell? _ _ (mm 0 _ rfl)
  have h1 := curAt_keep h0 hb
  replace G := gb_trans G (gb_of_below (some g) hb)
  clear hb hwr
  replace hS0 := G.size
  have ll_4 := ll 4 _ rfl
  have mm_0 := mm 0 _ rfl
  have mm_1 := mm 1 _ rfl
  have mm_2 := mm 2 _ rfl
  go_wp2_with (first | ((with_reducible refine ld_lay ll rfl ?a127 ?h127); (case a127 => exact ⟨_, rfl, rfl, rfl⟩)))
  ((with_reducible refine (HM.out _).mono ?_); rintro e w2 ⟨rfl, hb⟩)
  clear ll_4
  clear mm_0 mm_1 mm_2
  have hsz := hb.size
  (try simp at hsz)
  replace ll := cellsAt_keep ll hb
  replace mm := cellsAt_keep mm hb
  replace llz : w.heap.size < w2.heap.size := by omega
  replace mmz : w.heap.size + 1 < w2.heap.size := by omega
  have h2 := curAt_keep h1 hb
  replace G := gb_trans G (gb_of_below (some g) hb)
  clear hb hsz
  replace hS0 := G.size
  have ll_4 := ll 4 _ rfl
  have mm_0 := mm 0 _ rfl
  have mm_1 := mm 1 _ rfl
  have mm_2 := mm 2 _ rfl
  go_wp2_with (first | ((with_reducible refine ld_lay ll rfl ?a128 ?h128); (case a128 => exact ⟨_, rfl, rfl, rfl⟩)))
  ((with_reducible refine (HL0.out _ h2).mono ?_); rintro e w3 ⟨rfl, h3, hb⟩)
  clear ll_4
  clear mm_0 mm_1 mm_2
  have hsz := hb.size
  (try simp at hsz)
  replace ll := cellsAt_gb ll hb (by omega)
  replace mm := cellsAt_gb mm hb (by omega)
  replace llz : w.heap.size < w3.heap.size := by omega
  replace mmz : w.heap.size + 1 < w3.heap.size := by omega
  replace G := gb_trans G hb
  clear hb hsz
  replace hS0 := G.size
  have ll_4 := ll 4 _ rfl
  have mm_0 := mm 0 _ rfl
  have mm_1 := mm 1 _ rfl
  have mm_2 := mm 2 _ rfl
  go_wp2_with (first | ((with_reducible refine ld_lay ll rfl ?a129 ?h129); (case a129 => exact ⟨_, rfl, rfl, rfl⟩)))
  ((with_reducible refine (rkind_any _ _).mono ?_); rintro e w' ⟨rfl, rfl⟩)
  go_wp2_with (first | ((with_reducible refine ld_lay ll rfl ?a130 ?h130); (case a130 => exact ⟨_, rfl, rfl, rfl⟩)))
  ((with_reducible refine (HS.out _).mono ?_); rintro e w4 ⟨rfl, hb⟩)
  clear ll_4
  clear mm_0 mm_1 mm_2
  have hsz := hb.size
  (try simp at hsz)
  replace ll := cellsAt_keep ll hb
  replace mm := cellsAt_keep mm hb
  replace llz : w.heap.size < w4.heap.size := by omega
  replace mmz : w.heap.size + 1 < w4.heap.size := by omega
  have h4 := curAt_keep h3 hb
  replace G := gb_trans G (gb_of_below (some g) hb)
  clear hb hsz
  replace hS0 := G.size
  have ll_4 := ll 4 _ rfl
  have mm_0 := mm 0 _ rfl
  have mm_1 := mm 1 _ rfl
  have mm_2 := mm 2 _ rfl
  go_wp2_with (first | ((with_reducible refine ld_lay ll rfl ?a131 ?h131); (case a131 => exact ⟨_, rfl, rfl, rfl⟩)))
  ((with_reducible refine (HL1.out _ h4).mono ?_); rintro e w5 ⟨rfl, h5, hb⟩)
  clear ll_4
  clear mm_0 mm_1 mm_2
  have hsz := hb.size
  (try simp at hsz)
  replace ll := cellsAt_gb ll hb (by omega)
  replace mm := cellsAt_gb mm hb (by omega)
  replace llz : w.heap.size < w5.heap.size := by omega
  replace mmz : w.heap.size + 1 < w5.heap.size := by omega
  replace G := gb_trans G hb
  clear hb hsz
  replace hS0 := G.size
  have ll_4 := ll 4 _ rfl
  have mm_0 := mm 0 _ rfl
  have mm_1 := mm 1 _ rfl
  have mm_2 := mm 2 _ rfl
  go_wp2_with (first | ((with_reducible refine ld_lay ll rfl ?a132 ?h132); (case a132 => exact ⟨_, rfl, rfl, rfl⟩)))
  ((with_reducible refine (rkind_any _ _).mono ?_); rintro e w' ⟨rfl, rfl⟩)
  go_wp2_with (first | ((with_reducible refine ld_lay ll rfl ?a133 ?h133); (case a133 => exact ⟨_, rfl, rfl, rfl⟩)))
  ((with_reducible refine (HT.out _).mono ?_); rintro e w6 ⟨rfl, hb⟩)
  clear ll_4
  clear mm_0 mm_1 mm_2
  have hsz := hb.size
  (try simp at hsz)
  replace ll := cellsAt_keep ll hb
  replace mm := cellsAt_keep mm hb
  replace llz : w.heap.size < w6.heap.size := by omega
  replace mmz : w.heap.size + 1 < w6.heap.size := by omega
  have h6 := curAt_keep h5 hb
  replace G := gb_trans G (gb_of_below (some g) hb)
  clear hb hsz
  replace hS0 := G.size
  have ll_4 := ll 4 _ rfl
  have mm_0 := mm 0 _ rfl
  have mm_1 := mm 1 _ rfl
  have mm_2 := mm 2 _ rfl
  go_wp2_with (first | ((with_reducible refine ld_lay ll rfl ?a134 ?h134); (case a134 => exact ⟨_, rfl, rfl, rfl⟩)))
  ((with_reducible refine (HL2.out _ h6).mono ?_); rintro e w7 ⟨rfl, h7, hb⟩)
  clear ll_4
  clear mm_0 mm_1 mm_2
  have hsz := hb.size
  (try simp at hsz)
  replace ll := cellsAt_gb ll hb (by omega)
  replace mm := cellsAt_gb mm hb (by omega)
  replace llz : w.heap.size < w7.heap.size := by omega
  replace mmz : w.heap.size + 1 < w7.heap.size := by omega
  replace G := gb_trans G hb
  clear hb hsz
  replace hS0 := G.size
  have ll_4 := ll 4 _ rfl
  have mm_0 := mm 0 _ rfl
  have mm_1 := mm 1 _ rfl
  have mm_2 := mm 2 _ rfl
  go_wp2_with (first | ((with_reducible refine ld_lay ll rfl ?a135 ?h135); (case a135 => exact ⟨_, rfl, rfl, rfl⟩)))
  ((with_reducible refine (HK.out _).mono ?_); rintro e w8 ⟨rfl, hb⟩)
  clear ll_4
  clear mm_0 mm_1 mm_2
  have hsz := hb.size
  (try simp at hsz)
  replace ll := cellsAt_keep ll hb
  replace mm := cellsAt_keep mm hb
  replace llz : w.heap.size < w8.heap.size := by omega
  replace mmz : w.heap.size + 1 < w8.heap.size := by omega
  have h8 := curAt_keep h7 hb
  replace G := gb_trans G (gb_of_below (some g) hb)
  clear hb hsz
  replace hS0 := G.size
  have ll_4 := ll 4 _ rfl
  have mm_0 := mm 0 _ rfl
  have mm_1 := mm 1 _ rfl
  have mm_2 := mm 2 _ rfl
  go_wp2_with (first | ((with_reducible refine ld_lay ll rfl ?a136 ?h136); (case a136 => exact ⟨_, rfl, rfl, rfl⟩)))
  ((with_reducible refine (HL3.out _ h8).mono ?_); rintro e w9 ⟨rfl, h9, hb⟩)
  clear ll_4
  clear mm_0 mm_1 mm_2
  have hsz := hb.size
  (try simp at hsz)
  replace ll := cellsAt_gb ll hb (by omega)
  replace mm := cellsAt_gb mm hb (by omega)
  replace llz : w.heap.size < w9.heap.size := by omega
  replace mmz : w.heap.size + 1 < w9.heap.size := by omega
  replace G := gb_trans G hb
  clear hb hsz
  replace hS0 := G.size
  have ll_4 := ll 4 _ rfl
  have mm_0 := mm 0 _ rfl
  have mm_1 := mm 1 _ rfl
  have mm_2 := mm 2 _ rfl
  go_wp2_with (first | ((with_reducible refine ld_lay ll rfl ?a137 ?h137); (case a137 => exact ⟨_, rfl, rfl, rfl⟩)))
  ((with_reducible refine (rtry_any _ hi _).mono ?_); rintro e w' ⟨rfl, rfl⟩)
  go_wp2_with (first | ((with_reducible refine ld_lay ll rfl ?a138 ?h138); (case a138 => exact ⟨_, rfl, rfl, rfl⟩)))
  ((with_reducible refine (HC.out _).mono ?_); rintro e w10 ⟨rfl, hb⟩)
  clear ll_4
  clear mm_0 mm_1 mm_2
  have hsz := hb.size
  (try simp at hsz)
  replace ll := cellsAt_keep ll hb
  replace mm := cellsAt_keep mm hb
  replace llz : w.heap.size < w10.heap.size := by omega
  replace mmz : w.heap.size + 1 < w10.heap.size := by omega
  have h10 := curAt_keep h9 hb
  replace G := gb_trans G (gb_of_below (some g) hb)
  clear hb hsz
  replace hS0 := G.size
  have ll_4 := ll 4 _ rfl
  have mm_0 := mm 0 _ rfl
  have mm_1 := mm 1 _ rfl
  have mm_2 := mm 2 _ rfl
  go_wp2_with (first | ((with_reducible refine ld_lay ll rfl ?a139 ?h139); (case a139 => exact ⟨_, rfl, rfl, rfl⟩)))
  ((with_reducible refine (HS.out _).mono ?_); rintro e w11 ⟨rfl, hb⟩)
  clear ll_4
  clear mm_0 mm_1 mm_2
  have hsz := hb.size
  (try simp at hsz)
  replace ll := cellsAt_keep ll hb
  replace mm := cellsAt_keep mm hb
  replace llz : w.heap.size < w11.heap.size := by omega
  replace mmz : w.heap.size + 1 < w11.heap.size := by omega
  have h11 := curAt_keep h10 hb
  replace G := gb_trans G (gb_of_below (some g) hb)
  clear hb hsz
  replace hS0 := G.size
  have ll_4 := ll 4 _ rfl
  have mm_0 := mm 0 _ rfl
  have mm_1 := mm 1 _ rfl
  have mm_2 := mm 2 _ rfl
  go_wp2_with (first | ((with_reducible refine ld_lay ll rfl ?a140 ?h140); (case a140 => exact ⟨_, rfl, rfl, rfl⟩)))
  ((with_reducible refine (rwstatus_any _ _ _).mono ?_); rintro e w' ⟨rfl, rfl⟩)
  go_wp2_with (first | ((with_reducible refine ld_lay ll rfl ?a141 ?h141); (case a141 => exact ⟨_, rfl, rfl, rfl⟩)))
  ((with_reducible refine (HX.out _ h11).mono ?_); rintro e w12 ⟨rfl, h12, hb⟩)
  clear ll_4
  clear mm_0 mm_1 mm_2
  have hsz := hb.size
  (try simp at hsz)
  replace ll := cellsAt_gb ll hb (by omega)
  replace mm := cellsAt_gb mm hb (by omega)
  replace llz : w.heap.size < w12.heap.size := by omega
  replace mmz : w.heap.size + 1 < w12.heap.size := by omega
  replace G := gb_trans G hb
  clear hb hsz
  replace hS0 := G.size
  have ll_4 := ll 4 _ rfl
  have mm_0 := mm 0 _ rfl
  have mm_1 := mm 1 _ rfl
  have mm_2 := mm 2 _ rfl
  go_wp2_with (first | ((with_reducible refine ld_lay ll rfl ?a142 ?h142); (case a142 => exact ⟨_, rfl, rfl, rfl⟩)))
  go_ret2
  exact ⟨rfl, h12, G⟩

end Go.Proofs.Ytdfngmplfgifiaa


/-
  Layer 17: the reference's Next, as the same tree.
-/
namespace Go.Proofs.Ytdfngmplfgifiaa
set_option linter.unusedVariables false
set_option linter.unusedSimpArgs false
set_option maxRecDepth 100000
set_option maxHeartbeats 4000000
open Go.ChangeShapes Go.WideShapes Go.ChangeAt Go.RowKit


theorem cdo_i64 {c : CSt} (a : Ask) (h : ∀ x ∈ c.1, I64 x.1) : I64 (cdo c a).1.1 ∧ ∀ x ∈ (cdo c a).2.1, I64 x.1 := by
  match c, h with
  | (l, some q), h => exact ⟨i64_zero, h⟩
  | ([], none), h => exact ⟨i64_zero, h⟩
  | (r :: l, none), h => exact ⟨h r (by simp), fun x hx => h x (List.mem_cons_of_mem r (show x ∈ l from hx))⟩
theorem refRun_ask {a : Ask} {f : Int × Bool → Tree} {c c' : CSt} {r : Int × Bool} (e : cdo c a = (r, c')) : refRun (.ask a f) c = refRun (f r) c' := by
  show refRun (f (cdo c a).1) (cdo c a).2 = _
  rw [e]
theorem refRun_ret (o : OutD) (c : CSt) : refRun (.ret o) c = (o, c) := rfl
/-- What Ask leaves. -/
def AskPost (T : Tree) (g : Nat) (c : CSt) (w : World) (e : Ending) (w' : World) : Prop :=
  ∃ v b c', e = .returned (.tuple #[.int .i64 v, .bool b]) ∧ refRun T c = ({ val := v, lost := b }, c') ∧ CurAt w' g c' ∧ w.grownBy w' (some g)

theorem ask_fany (w : World) (g : Nat) (L : Ly) (hok : L.ok) (me other : Int) (m : Ct) (c0 : CSt) (h0 : CurAt w g c0) (hI : ∀ x ∈ c0.1, I64 x.1) :
    Calls Try.prog 86 #[.pointer (some ⟨g, 0, none⟩), L.v, .int .i64 me, .int .i64 other, .bool false, m.v] w fun e w' => ∃ v b c', e = .returned (.tuple #[.int .i64 v, .bool b]) ∧ refRun (asksT L other m) c0 = ({ val := v, lost := b }, c') ∧ CurAt w' g c' ∧ w.grownBy w' (some g) := by
  have hi := cdo_i64 ⟨1, atStatus L other, 0, 0⟩ hI
  obtain ⟨⟨⟨s, b1⟩, c1⟩, e1⟩ : ∃ X, cdo c0 ⟨1, atStatus L other, 0, 0⟩ = X := ⟨_, rfl⟩
  obtain ⟨⟨⟨x, b2⟩, c2⟩, e2⟩ : ∃ X, cdo c1 ⟨1, atStamp L other, 0, 0⟩ = X := ⟨_, rfl⟩
  obtain ⟨⟨⟨y, b3⟩, c3⟩, e3⟩ : ∃ X, cdo c2 ⟨1, atKarma L other, 0, 0⟩ = X := ⟨_, rfl⟩
  rw [e1] at hi
  have R1 := refRun_ask (f := fun s => if s.1 % 4 = 0 then Tree.ret { val := 0 } else .ask ⟨1, atStamp L other, 0, 0⟩ fun t => .ask ⟨1, atKarma L other, 0, 0⟩ fun k => if chooseD L.c.m m ⟨t.1, k.1, s.1 / 4⟩ = 1 then .ret { val := 1 } else doomT L other s.1) e1
  have hT : asksT L other m = .ask ⟨1, atStatus L other, 0, 0⟩ fun s => if s.1 % 4 = 0 then Tree.ret { val := 0 } else .ask ⟨1, atStamp L other, 0, 0⟩ fun t => .ask ⟨1, atKarma L other, 0, 0⟩ fun k => if chooseD L.c.m m ⟨t.1, k.1, s.1 / 4⟩ = 1 then .ret { val := 1 } else doomT L other s.1 := rfl
  rw [← hT] at R1
  simp only at R1 hi
  by_cases hs : s % 4 = 0
  · rw [if_pos hs, refRun_ret] at R1
    refine (ask_f_idle w g L hok me other m c0 h0 s b1 c1 e1 hs).mono ?_
    rintro e w' ⟨rfl, h, hg⟩
    exact ⟨0, false, c1, rfl, by rw [R1], h, hg⟩
  · rw [if_neg hs, refRun_ask e2, refRun_ask e3] at R1
    simp only at R1
    rcases tchoose_12 L.c.m m ⟨x, y, s / 4⟩ with hv | hv
    · rw [if_pos hv, refRun_ret] at R1
      refine (ask_f_abort w g L hok me other m c0 h0 s b1 c1 e1 hs hi.1 x b2 c2 e2 y b3 c3 e3 hv).mono ?_
      rintro e w' ⟨rfl, h, hg⟩
      exact ⟨1, false, c3, rfl, by rw [R1], h, hg⟩
    · rw [if_neg (by rw [hv]; decide)] at R1
      have h4 : s % 4 = 1 ∨ s % 4 = 2 ∨ s % 4 = 3 := by omega
      rcases h4 with hk | hk | hk
      · obtain ⟨⟨⟨z, b4⟩, c4⟩, e4⟩ : ∃ X, cdo c3 ⟨3, atStatus L other, s, wrap64 (4 * (s / 4) + 3)⟩ = X := ⟨_, rfl⟩
        unfold doomT at R1
        rw [if_pos hk, refRun_ask e4] at R1
        cases b4
        · rw [if_neg (by simp), refRun_ret] at R1
          refine (ask_f_casf w g L hok me other m c0 h0 s b1 c1 e1 hs hi.1 x b2 c2 e2 y b3 c3 e3 hv hk z c4 e4).mono ?_
          rintro e w' ⟨rfl, h, hg⟩
          exact ⟨0, false, c4, rfl, by rw [R1], h, hg⟩
        · rw [if_pos rfl, refRun_ret] at R1
          refine (ask_f_cast w g L hok me other m c0 h0 s b1 c1 e1 hs hi.1 x b2 c2 e2 y b3 c3 e3 hv hk z c4 e4).mono ?_
          rintro e w' ⟨rfl, h, hg⟩
          exact ⟨2, false, c4, rfl, by rw [R1], h, hg⟩
      · unfold doomT at R1
        rw [if_neg (by omega), if_neg (by omega), refRun_ret] at R1
        refine (ask_f_k2 w g L hok me other m c0 h0 s b1 c1 e1 hs hi.1 x b2 c2 e2 y b3 c3 e3 hv hk).mono ?_
        rintro e w' ⟨rfl, h, hg⟩
        exact ⟨3, false, c3, rfl, by rw [R1], h, hg⟩
      · unfold doomT at R1
        rw [if_neg (by omega), if_pos hk, refRun_ret] at R1
        refine (ask_f_k3 w g L hok me other m c0 h0 s b1 c1 e1 hs hi.1 x b2 c2 e2 y b3 c3 e3 hv hk).mono ?_
        rintro e w' ⟨rfl, h, hg⟩
        exact ⟨2, false, c3, rfl, by rw [R1], h, hg⟩

theorem ask_tany (w : World) (g : Nat) (L : Ly) (hok : L.ok) (me other : Int) (m : Ct) (c0 : CSt) (h0 : CurAt w g c0) (r0 : Int) (b0 : Bool) (ca : CSt) (eca : cdo c0 ⟨1, atStatus L me, 0, 0⟩ = ((r0, b0), ca)) (ho : ¬r0 % 4 = 3) (hI : ∀ x ∈ ca.1, I64 x.1) :
    Calls Try.prog 86 #[.pointer (some ⟨g, 0, none⟩), L.v, .int .i64 me, .int .i64 other, .bool true, m.v] w fun e w' => ∃ v b c', e = .returned (.tuple #[.int .i64 v, .bool b]) ∧ refRun (asksT L other m) ca = ({ val := v, lost := b }, c') ∧ CurAt w' g c' ∧ w.grownBy w' (some g) := by
  have hi := cdo_i64 ⟨1, atStatus L other, 0, 0⟩ hI
  obtain ⟨⟨⟨s, b1⟩, c1⟩, e1⟩ : ∃ X, cdo ca ⟨1, atStatus L other, 0, 0⟩ = X := ⟨_, rfl⟩
  obtain ⟨⟨⟨x, b2⟩, c2⟩, e2⟩ : ∃ X, cdo c1 ⟨1, atStamp L other, 0, 0⟩ = X := ⟨_, rfl⟩
  obtain ⟨⟨⟨y, b3⟩, c3⟩, e3⟩ : ∃ X, cdo c2 ⟨1, atKarma L other, 0, 0⟩ = X := ⟨_, rfl⟩
  rw [e1] at hi
  have R1 := refRun_ask (f := fun s => if s.1 % 4 = 0 then Tree.ret { val := 0 } else .ask ⟨1, atStamp L other, 0, 0⟩ fun t => .ask ⟨1, atKarma L other, 0, 0⟩ fun k => if chooseD L.c.m m ⟨t.1, k.1, s.1 / 4⟩ = 1 then .ret { val := 1 } else doomT L other s.1) e1
  have hT : asksT L other m = .ask ⟨1, atStatus L other, 0, 0⟩ fun s => if s.1 % 4 = 0 then Tree.ret { val := 0 } else .ask ⟨1, atStamp L other, 0, 0⟩ fun t => .ask ⟨1, atKarma L other, 0, 0⟩ fun k => if chooseD L.c.m m ⟨t.1, k.1, s.1 / 4⟩ = 1 then .ret { val := 1 } else doomT L other s.1 := rfl
  rw [← hT] at R1
  simp only at R1 hi
  by_cases hs : s % 4 = 0
  · rw [if_pos hs, refRun_ret] at R1
    refine (ask_t_idle w g L hok me other m c0 h0 r0 b0 ca eca ho s b1 c1 e1 hs).mono ?_
    rintro e w' ⟨rfl, h, hg⟩
    exact ⟨0, false, c1, rfl, by rw [R1], h, hg⟩
  · rw [if_neg hs, refRun_ask e2, refRun_ask e3] at R1
    simp only at R1
    rcases tchoose_12 L.c.m m ⟨x, y, s / 4⟩ with hv | hv
    · rw [if_pos hv, refRun_ret] at R1
      refine (ask_t_abort w g L hok me other m c0 h0 r0 b0 ca eca ho s b1 c1 e1 hs hi.1 x b2 c2 e2 y b3 c3 e3 hv).mono ?_
      rintro e w' ⟨rfl, h, hg⟩
      exact ⟨1, false, c3, rfl, by rw [R1], h, hg⟩
    · rw [if_neg (by rw [hv]; decide)] at R1
      have h4 : s % 4 = 1 ∨ s % 4 = 2 ∨ s % 4 = 3 := by omega
      rcases h4 with hk | hk | hk
      · obtain ⟨⟨⟨z, b4⟩, c4⟩, e4⟩ : ∃ X, cdo c3 ⟨3, atStatus L other, s, wrap64 (4 * (s / 4) + 3)⟩ = X := ⟨_, rfl⟩
        unfold doomT at R1
        rw [if_pos hk, refRun_ask e4] at R1
        cases b4
        · rw [if_neg (by simp), refRun_ret] at R1
          refine (ask_t_casf w g L hok me other m c0 h0 r0 b0 ca eca ho s b1 c1 e1 hs hi.1 x b2 c2 e2 y b3 c3 e3 hv hk z c4 e4).mono ?_
          rintro e w' ⟨rfl, h, hg⟩
          exact ⟨0, false, c4, rfl, by rw [R1], h, hg⟩
        · rw [if_pos rfl, refRun_ret] at R1
          refine (ask_t_cast w g L hok me other m c0 h0 r0 b0 ca eca ho s b1 c1 e1 hs hi.1 x b2 c2 e2 y b3 c3 e3 hv hk z c4 e4).mono ?_
          rintro e w' ⟨rfl, h, hg⟩
          exact ⟨2, false, c4, rfl, by rw [R1], h, hg⟩
      · unfold doomT at R1
        rw [if_neg (by omega), if_neg (by omega), refRun_ret] at R1
        refine (ask_t_k2 w g L hok me other m c0 h0 r0 b0 ca eca ho s b1 c1 e1 hs hi.1 x b2 c2 e2 y b3 c3 e3 hv hk).mono ?_
        rintro e w' ⟨rfl, h, hg⟩
        exact ⟨3, false, c3, rfl, by rw [R1], h, hg⟩
      · unfold doomT at R1
        rw [if_neg (by omega), if_pos hk, refRun_ret] at R1
        refine (ask_t_k3 w g L hok me other m c0 h0 r0 b0 ca eca ho s b1 c1 e1 hs hi.1 x b2 c2 e2 y b3 c3 e3 hv hk).mono ?_
        rintro e w' ⟨rfl, h, hg⟩
        exact ⟨2, false, c3, rfl, by rw [R1], h, hg⟩

theorem ask_any (w : World) (g : Nat) (L : Ly) (hok : L.ok) (me other : Int) (own : Bool) (m : Ct) (c0 : CSt) (h0 : CurAt w g c0) (hI : ∀ x ∈ c0.1, I64 x.1) :
    Calls Try.prog 86 #[.pointer (some ⟨g, 0, none⟩), L.v, .int .i64 me, .int .i64 other, .bool own, m.v] w (AskPost (resolveT L me other own m) g c0 w) := by
  cases own with
  | false => exact ask_fany w g L hok me other m c0 h0 hI
  | true =>
    have hi := cdo_i64 ⟨1, atStatus L me, 0, 0⟩ hI
    obtain ⟨⟨⟨r0, b0⟩, ca⟩, eca⟩ : ∃ X, cdo c0 ⟨1, atStatus L me, 0, 0⟩ = X := ⟨_, rfl⟩
    rw [eca] at hi
    have R := refRun_ask (f := fun r => if r.1 % 4 = 3 then Tree.ret { val := 1, lost := true } else asksT L other m) eca
    have hT : resolveT L me other true m = .ask ⟨1, atStatus L me, 0, 0⟩ fun r => if r.1 % 4 = 3 then Tree.ret { val := 1, lost := true } else asksT L other m := rfl
    rw [← hT] at R
    simp only at R
    by_cases ho : r0 % 4 = 3
    · rw [if_pos ho, refRun_ret] at R
      refine (ask_own3 w g L hok me other m c0 h0 r0 b0 ca eca ho).mono ?_
      rintro e w' ⟨rfl, h, hg⟩
      exact ⟨1, true, ca, rfl, R, h, hg⟩
    · rw [if_neg ho] at R
      refine (ask_tany w g L hok me other m c0 h0 r0 b0 ca eca ho hi.2).mono ?_
      rintro e w' ⟨v, b, c', rfl, hr, h, hg⟩
      exact ⟨v, b, c', rfl, R.trans hr, h, hg⟩
end Go.Proofs.Ytdfngmplfgifiaa
