/-
  Merged: AbsA, AbsN
-/
import Derived.Test.YtdfngmplfgifiaaRows
import Derived.Test.YtdfngmplfgifiaaPa1
import Derived.Test.YtdfngmplfgifiaaPa8
import Derived.Test.YtdfngmplfgifiaaPa4
import Derived.Test.YtdfngmplfgifiaaPa9
import Derived.WalkKit
import Derived.Test.YtdfngmplfgifiaaPa3

/-
  Layer 20: to take an abstract lock, over a run of accesses.
-/
namespace Go.Proofs.Ytdfngmplfgifiaa
open Go Go.RowKit SX
set_option linter.unusedVariables false
set_option maxRecDepth 100000
attribute [local irreducible] post

noncomputable def tkc (L : Ly) (me cell : Int) (g : Nat) (kind a b ty : Int) (m : Ct) (sa wa da : Option Addr) (sl sc wl wc dl dc : Nat) : Cfg := runC Try.prog ⟨0, []⟩ 50 (labC (runC Try.prog ⟨0, []⟩ 50 (aftC (runC Try.prog ⟨0, []⟩ 50 (scoC (runC Try.prog ⟨0, []⟩ 50 (cfg0 Try.f59 #[.pointer (some ⟨g, 0, none⟩), L.v, .int .i64 me, .agg #[.int .i64 kind, .int .i64 a, .int .i64 b, .int .i64 ty, .int .i64 m.s, .int .i64 m.k, .int .i64 m.a, .slice sa sl sc, .slice wa wl wc, .slice da dl dc]])))) (.v (.int .i64 cell)))))
noncomputable def tks (L : Ly) (me cell : Int) (g : Nat) (kind a b ty : Int) (m : Ct) (sa wa da : Option Addr) (sl sc wl wc dl dc : Nat) : SS := ⟨(tkc L me cell g kind a b ty m sa wa da sl sc wl wc dl dc).s.n, [(0, .v (.pointer (some ⟨g, 0, none⟩))), (2, .v (.int .i64 me)), (5, .p 0 0), (7, .p 1 0), (8, .p 2 0), (9, .p 3 0), (10, .v (.int .i64 cell)), (11, .p 4 0)], (tkc L me cell g kind a b ty m sa wa da sl sc wl wc dl dc).s.K⟩
set_option maxHeartbeats 8000000 in
theorem tk_0 (w0 : World) (L : Ly) (hok : L.ok) (me cell : Int) (g : Nat) (kind a b ty : Int) (m : Ct) (sa wa da : Option Addr) (sl sc wl wc dl dc : Nat) (n : Nat)  (bs : List Nat) (aa : Act) (w : World) (hI : ∀ x ∈ ([] : List (Int × Bool)), I64 x.1) (S : Sy w0 (some g) bs (tks L me cell g kind a b ty m sa wa da sl sc wl wc dl dc) [rfRun g ([])] aa w) : post Try.prog (.rnd (n + 1) (bodyL (tkc L me cell g kind a b ty m sa wa da sl sc wl wc dl dc)) :: (tkc L me cell g kind a b ty m sa wa da sl sc wl wc dl dc).k.tail) (bodyPost Try.prog Try.f59 (OpPost ((takeT L me cell m (n + 1)).run []) g w0)) .normal aa w := by
  refine sy_run (c := ⟨(.rnd (n + 1) (bodyL (tkc L me cell g kind a b ty m sa wa da sl sc wl wc dl dc)) :: (tkc L me cell g kind a b ty m sa wa da sl sc wl wc dl dc).k.tail), (tks L me cell g kind a b ty m sa wa da sl sc wl wc dl dc)⟩) ⟨0, []⟩ 60 S fun bs aa w S => ?_
  exact sy_panic S ((load_none w g cell S.run).mono fun e w' h => ⟨h.1, gb_of_below _ h.2⟩) (by kernel_rfl) fun w' hg => ⟨rfl, hg⟩
set_option maxHeartbeats 8000000 in
theorem tk_me (w0 : World) (L : Ly) (hok : L.ok) (me cell : Int) (g : Nat) (kind a b ty : Int) (m : Ct) (sa wa da : Option Addr) (sl sc wl wc dl dc : Nat) (n : Nat) (r : Int × Bool) (l : List (Int × Bool)) (h1 : r.1 = IntKind.i64.wrap (me + 1)) (bs : List Nat) (aa : Act) (w : World) (hI : ∀ x ∈ (r :: l : List (Int × Bool)), I64 x.1) (S : Sy w0 (some g) bs (tks L me cell g kind a b ty m sa wa da sl sc wl wc dl dc) [rfRun g (r :: l)] aa w) : post Try.prog (.rnd (n + 1) (bodyL (tkc L me cell g kind a b ty m sa wa da sl sc wl wc dl dc)) :: (tkc L me cell g kind a b ty m sa wa da sl sc wl wc dl dc).k.tail) (bodyPost Try.prog Try.f59 (OpPost ((takeT L me cell m (n + 1)).run (r :: l)) g w0)) .normal aa w := by
  have e : (takeT L me cell m (n + 1)).run (r :: l) = .inr { ok := true } := by unfold takeT; rw [trun_ask, if_pos h1, trun_ret]
  refine sy_run (c := ⟨(.rnd (n + 1) (bodyL (tkc L me cell g kind a b ty m sa wa da sl sc wl wc dl dc)) :: (tkc L me cell g kind a b ty m sa wa da sl sc wl wc dl dc).k.tail), (tks L me cell g kind a b ty m sa wa da sl sc wl wc dl dc)⟩) ⟨0, []⟩ 60 S fun bs aa w S => ?_
  refine sy_acc S (Or.inl rfl) (load_some w g r l cell S.run) (by kernel_rfl) (by simp) fun aa w S => ?_
  refine sy_run ⟨0, [10]⟩ 60 S fun bs aa w S => ?_
  refine sy_reg S fun S => ?_
  refine sy_ops 5 S fun bs aa w S => ?_
  refine sy_cond true S (decide_eq_true h1 : decide (r.1 = IntKind.i64.wrap (me + 1)) = true) (by kernel_rfl) fun S => ?_
  refine sy_run ⟨0, []⟩ 60 S fun bs aa w S => ?_
  exact sy_ret S (by kernel_rfl) (by kernel_rfl) fun hg => by rw [e]; exact ⟨rfl, hg⟩
set_option maxHeartbeats 8000000 in
theorem tk_c0 (w0 : World) (L : Ly) (hok : L.ok) (me cell : Int) (g : Nat) (kind a b ty : Int) (m : Ct) (sa wa da : Option Addr) (sl sc wl wc dl dc : Nat) (n : Nat) (r : Int × Bool) (h1 : ¬ r.1 = IntKind.i64.wrap (me + 1)) (h2 : r.1 = 0) (bs : List Nat) (aa : Act) (w : World) (hI : ∀ x ∈ ([r] : List (Int × Bool)), I64 x.1) (S : Sy w0 (some g) bs (tks L me cell g kind a b ty m sa wa da sl sc wl wc dl dc) [rfRun g ([r])] aa w) : post Try.prog (.rnd (n + 1) (bodyL (tkc L me cell g kind a b ty m sa wa da sl sc wl wc dl dc)) :: (tkc L me cell g kind a b ty m sa wa da sl sc wl wc dl dc).k.tail) (bodyPost Try.prog Try.f59 (OpPost ((takeT L me cell m (n + 1)).run [r]) g w0)) .normal aa w := by
  have e : (takeT L me cell m (n + 1)).run [r] = .inl ⟨3, cell, 0, IntKind.i64.wrap (me + 1)⟩ := by unfold takeT; rw [trun_ask, if_neg h1, if_pos h2]; rfl
  refine sy_run (c := ⟨(.rnd (n + 1) (bodyL (tkc L me cell g kind a b ty m sa wa da sl sc wl wc dl dc)) :: (tkc L me cell g kind a b ty m sa wa da sl sc wl wc dl dc).k.tail), (tks L me cell g kind a b ty m sa wa da sl sc wl wc dl dc)⟩) ⟨0, []⟩ 60 S fun bs aa w S => ?_
  refine sy_acc S (Or.inl rfl) (load_some w g r [] cell S.run) (by kernel_rfl) (by simp) fun aa w S => ?_
  refine sy_run ⟨0, [10]⟩ 60 S fun bs aa w S => ?_
  refine sy_reg S fun S => ?_
  refine sy_ops 5 S fun bs aa w S => ?_
  refine sy_cond false S (decide_eq_false h1 : decide (r.1 = IntKind.i64.wrap (me + 1)) = false) (by kernel_rfl) fun S => ?_
  refine sy_run ⟨0, [12]⟩ 60 S fun bs aa w S => ?_
  refine sy_reg S fun S => ?_
  refine sy_ops 3 S fun bs aa w S => ?_
  refine sy_cond true S (decide_eq_true h2 : decide (r.1 = 0) = true) (by kernel_rfl) fun S => ?_
  refine sy_run ⟨0, []⟩ 60 S fun bs aa w S => ?_
  exact sy_panic S ((swap_none w g cell 0 (IntKind.i64.wrap (me + 1)) S.run).mono fun e w' h => ⟨h.1, gb_of_below _ h.2⟩) (by kernel_rfl) fun w' hg => by rw [e]; exact ⟨rfl, hg⟩
set_option maxHeartbeats 8000000 in
theorem tk_ct (w0 : World) (L : Ly) (hok : L.ok) (me cell : Int) (g : Nat) (kind a b ty : Int) (m : Ct) (sa wa da : Option Addr) (sl sc wl wc dl dc : Nat) (n : Nat) (r : Int × Bool) (y : Int) (l : List (Int × Bool)) (hl : l.length < n) (h1 : ¬ r.1 = IntKind.i64.wrap (me + 1)) (h2 : r.1 = 0) (bs : List Nat) (aa : Act) (w : World) (hI : ∀ x ∈ (r :: (y, true) :: l : List (Int × Bool)), I64 x.1) (S : Sy w0 (some g) bs (tks L me cell g kind a b ty m sa wa da sl sc wl wc dl dc) [rfRun g (r :: (y, true) :: l)] aa w) : post Try.prog (.rnd (n + 1) (bodyL (tkc L me cell g kind a b ty m sa wa da sl sc wl wc dl dc)) :: (tkc L me cell g kind a b ty m sa wa da sl sc wl wc dl dc).k.tail) (bodyPost Try.prog Try.f59 (OpPost ((takeT L me cell m (n + 1)).run (r :: (y, true) :: l)) g w0)) .normal aa w := by
  have e : (takeT L me cell m (n + 1)).run (r :: (y, true) :: l) = .inr { ok := true } := by unfold takeT; rw [trun_ask, if_neg h1, if_pos h2, trun_ask, if_pos rfl, trun_ret]
  refine sy_run (c := ⟨(.rnd (n + 1) (bodyL (tkc L me cell g kind a b ty m sa wa da sl sc wl wc dl dc)) :: (tkc L me cell g kind a b ty m sa wa da sl sc wl wc dl dc).k.tail), (tks L me cell g kind a b ty m sa wa da sl sc wl wc dl dc)⟩) ⟨0, []⟩ 60 S fun bs aa w S => ?_
  refine sy_acc S (Or.inl rfl) (load_some w g r ((y, true) :: l) cell S.run) (by kernel_rfl) (by simp) fun aa w S => ?_
  refine sy_run ⟨0, [10]⟩ 60 S fun bs aa w S => ?_
  refine sy_reg S fun S => ?_
  refine sy_ops 5 S fun bs aa w S => ?_
  refine sy_cond false S (decide_eq_false h1 : decide (r.1 = IntKind.i64.wrap (me + 1)) = false) (by kernel_rfl) fun S => ?_
  refine sy_run ⟨0, [12]⟩ 60 S fun bs aa w S => ?_
  refine sy_reg S fun S => ?_
  refine sy_ops 3 S fun bs aa w S => ?_
  refine sy_cond true S (decide_eq_true h2 : decide (r.1 = 0) = true) (by kernel_rfl) fun S => ?_
  refine sy_run ⟨0, []⟩ 60 S fun bs aa w S => ?_
  refine sy_acc S (Or.inl rfl) (swap_some w g (y, true) l cell 0 (IntKind.i64.wrap (me + 1)) S.run) (by kernel_rfl) (by simp) fun aa w S => ?_
  refine sy_run ⟨0, []⟩ 60 S fun bs aa w S => ?_
  exact sy_ret S (by kernel_rfl) (by kernel_rfl) fun hg => by rw [e]; exact ⟨rfl, hg⟩
set_option maxHeartbeats 8000000 in
theorem tk_cf (w0 : World) (L : Ly) (hok : L.ok) (me cell : Int) (g : Nat) (kind a b ty : Int) (m : Ct) (sa wa da : Option Addr) (sl sc wl wc dl dc : Nat) (n : Nat) (r : Int × Bool) (y : Int) (l : List (Int × Bool)) (hl : l.length < n) (h1 : ¬ r.1 = IntKind.i64.wrap (me + 1)) (h2 : r.1 = 0) (ih : ∀ (l : List (Int × Bool)) (bs : List Nat) (aa : Act) (w : World), l.length < n → (∀ x ∈ l, I64 x.1) → Sy w0 (some g) bs (tks L me cell g kind a b ty m sa wa da sl sc wl wc dl dc) [rfRun g l] aa w → post Try.prog (.rnd n (bodyL (tkc L me cell g kind a b ty m sa wa da sl sc wl wc dl dc)) :: (tkc L me cell g kind a b ty m sa wa da sl sc wl wc dl dc).k.tail) (bodyPost Try.prog Try.f59 (OpPost ((takeT L me cell m n).run l) g w0)) .normal aa w) (bs : List Nat) (aa : Act) (w : World) (hI : ∀ x ∈ (r :: (y, false) :: l : List (Int × Bool)), I64 x.1) (S : Sy w0 (some g) bs (tks L me cell g kind a b ty m sa wa da sl sc wl wc dl dc) [rfRun g (r :: (y, false) :: l)] aa w) : post Try.prog (.rnd (n + 1) (bodyL (tkc L me cell g kind a b ty m sa wa da sl sc wl wc dl dc)) :: (tkc L me cell g kind a b ty m sa wa da sl sc wl wc dl dc).k.tail) (bodyPost Try.prog Try.f59 (OpPost ((takeT L me cell m (n + 1)).run (r :: (y, false) :: l)) g w0)) .normal aa w := by
  have e : (takeT L me cell m (n + 1)).run (r :: (y, false) :: l) = (takeT L me cell m n).run l := by rw [takeT, trun_ask, if_neg h1, if_pos h2, trun_ask, if_neg (fun h => by cases h)]
  rw [e]
  refine sy_run (c := ⟨(.rnd (n + 1) (bodyL (tkc L me cell g kind a b ty m sa wa da sl sc wl wc dl dc)) :: (tkc L me cell g kind a b ty m sa wa da sl sc wl wc dl dc).k.tail), (tks L me cell g kind a b ty m sa wa da sl sc wl wc dl dc)⟩) ⟨0, []⟩ 60 S fun bs aa w S => ?_
  refine sy_acc S (Or.inl rfl) (load_some w g r ((y, false) :: l) cell S.run) (by kernel_rfl) (by simp) fun aa w S => ?_
  refine sy_run ⟨0, [10]⟩ 60 S fun bs aa w S => ?_
  refine sy_reg S fun S => ?_
  refine sy_ops 5 S fun bs aa w S => ?_
  refine sy_cond false S (decide_eq_false h1 : decide (r.1 = IntKind.i64.wrap (me + 1)) = false) (by kernel_rfl) fun S => ?_
  refine sy_run ⟨0, [12]⟩ 60 S fun bs aa w S => ?_
  refine sy_reg S fun S => ?_
  refine sy_ops 3 S fun bs aa w S => ?_
  refine sy_cond true S (decide_eq_true h2 : decide (r.1 = 0) = true) (by kernel_rfl) fun S => ?_
  refine sy_run ⟨0, []⟩ 60 S fun bs aa w S => ?_
  refine sy_acc S (Or.inl rfl) (swap_some w g (y, false) l cell 0 (IntKind.i64.wrap (me + 1)) S.run) (by kernel_rfl) (by simp) fun aa w S => ?_
  refine sy_run ⟨0, [999]⟩ 60 S fun bs aa w S => ?_
  have S' := S.to [0, 1, 2, 3, 4] (tks L me cell g kind a b ty m sa wa da sl sc wl wc dl dc) (by kernel_rfl) (by kernel_rfl) (by kernel_rfl) (by kernel_rfl) (by kernel_rfl)
  refine sy_at (k := .rnd n (bodyL (tkc L me cell g kind a b ty m sa wa da sl sc wl wc dl dc)) :: (tkc L me cell g kind a b ty m sa wa da sl sc wl wc dl dc).k.tail) (by kernel_rfl) ?_
  exact ih l _ aa w hl (fun x hx => hI x (by simp [hx])) S'
set_option maxHeartbeats 8000000 in
theorem tk_rp (w0 : World) (L : Ly) (hok : L.ok) (me cell : Int) (g : Nat) (kind a b ty : Int) (m : Ct) (sa wa da : Option Addr) (sl sc wl wc dl dc : Nat) (n : Nat) (r : Int × Bool) (l : List (Int × Bool)) (h1 : ¬ r.1 = IntKind.i64.wrap (me + 1)) (h2 : ¬ r.1 = 0) (q : Ask) (hq : (resolveT L me (IntKind.i64.wrap (r.1 - 1)) true m).run l = .inl q) (bs : List Nat) (aa : Act) (w : World) (hI : ∀ x ∈ (r :: l : List (Int × Bool)), I64 x.1) (S : Sy w0 (some g) bs (tks L me cell g kind a b ty m sa wa da sl sc wl wc dl dc) [rfRun g (r :: l)] aa w) : post Try.prog (.rnd (n + 1) (bodyL (tkc L me cell g kind a b ty m sa wa da sl sc wl wc dl dc)) :: (tkc L me cell g kind a b ty m sa wa da sl sc wl wc dl dc).k.tail) (bodyPost Try.prog Try.f59 (OpPost ((takeT L me cell m (n + 1)).run (r :: l)) g w0)) .normal aa w := by
  have e : (takeT L me cell m (n + 1)).run (r :: l) = .inl q := by unfold takeT; rw [trun_ask, if_neg h1, if_neg h2, run_bind, hq]
  refine sy_run (c := ⟨(.rnd (n + 1) (bodyL (tkc L me cell g kind a b ty m sa wa da sl sc wl wc dl dc)) :: (tkc L me cell g kind a b ty m sa wa da sl sc wl wc dl dc).k.tail), (tks L me cell g kind a b ty m sa wa da sl sc wl wc dl dc)⟩) ⟨0, []⟩ 60 S fun bs aa w S => ?_
  refine sy_acc S (Or.inl rfl) (load_some w g r l cell S.run) (by kernel_rfl) (by simp) fun aa w S => ?_
  refine sy_run ⟨0, [10]⟩ 60 S fun bs aa w S => ?_
  refine sy_reg S fun S => ?_
  refine sy_ops 5 S fun bs aa w S => ?_
  refine sy_cond false S (decide_eq_false h1 : decide (r.1 = IntKind.i64.wrap (me + 1)) = false) (by kernel_rfl) fun S => ?_
  refine sy_run ⟨0, [12]⟩ 60 S fun bs aa w S => ?_
  refine sy_reg S fun S => ?_
  refine sy_ops 3 S fun bs aa w S => ?_
  refine sy_cond false S (decide_eq_false h2 : decide (r.1 = 0) = false) (by kernel_rfl) fun S => ?_
  refine sy_run ⟨0, []⟩ 60 S fun bs aa w S => ?_
  exact sy_panic S ((resolveR_any w g L hok me (IntKind.i64.wrap (r.1 - 1)) m l S.run (fun x hx => hI x (by simp [hx]))).mono fun e w' h => by rw [hq] at h; exact ⟨h.1.1, h.1.2⟩) (by kernel_rfl) fun w' hg => by rw [e]; exact ⟨rfl, hg⟩
set_option maxHeartbeats 8000000 in
theorem tk_r0 (w0 : World) (L : Ly) (hok : L.ok) (me cell : Int) (g : Nat) (kind a b ty : Int) (m : Ct) (sa wa da : Option Addr) (sl sc wl wc dl dc : Nat) (n : Nat) (r : Int × Bool) (l : List (Int × Bool)) (hl : l.length < n) (h1 : ¬ r.1 = IntKind.i64.wrap (me + 1)) (h2 : ¬ r.1 = 0) (hq : (resolveT L me (IntKind.i64.wrap (r.1 - 1)) true m).run l = .inr {}) (ih : ∀ (l : List (Int × Bool)) (bs : List Nat) (aa : Act) (w : World), l.length < n → (∀ x ∈ l, I64 x.1) → Sy w0 (some g) bs (tks L me cell g kind a b ty m sa wa da sl sc wl wc dl dc) [rfRun g l] aa w → post Try.prog (.rnd n (bodyL (tkc L me cell g kind a b ty m sa wa da sl sc wl wc dl dc)) :: (tkc L me cell g kind a b ty m sa wa da sl sc wl wc dl dc).k.tail) (bodyPost Try.prog Try.f59 (OpPost ((takeT L me cell m n).run l) g w0)) .normal aa w) (bs : List Nat) (aa : Act) (w : World) (hI : ∀ x ∈ (r :: l : List (Int × Bool)), I64 x.1) (S : Sy w0 (some g) bs (tks L me cell g kind a b ty m sa wa da sl sc wl wc dl dc) [rfRun g (r :: l)] aa w) : post Try.prog (.rnd (n + 1) (bodyL (tkc L me cell g kind a b ty m sa wa da sl sc wl wc dl dc)) :: (tkc L me cell g kind a b ty m sa wa da sl sc wl wc dl dc).k.tail) (bodyPost Try.prog Try.f59 (OpPost ((takeT L me cell m (n + 1)).run (r :: l)) g w0)) .normal aa w := by
  have e : (takeT L me cell m (n + 1)).run (r :: l) = (takeT L me cell m n).run ((resolveT L me (IntKind.i64.wrap (r.1 - 1)) true m).rest l) := by rw [takeT, trun_ask, if_neg h1, if_neg h2, run_bind, hq]; simp
  rw [e]
  refine sy_run (c := ⟨(.rnd (n + 1) (bodyL (tkc L me cell g kind a b ty m sa wa da sl sc wl wc dl dc)) :: (tkc L me cell g kind a b ty m sa wa da sl sc wl wc dl dc).k.tail), (tks L me cell g kind a b ty m sa wa da sl sc wl wc dl dc)⟩) ⟨0, []⟩ 60 S fun bs aa w S => ?_
  refine sy_acc S (Or.inl rfl) (load_some w g r l cell S.run) (by kernel_rfl) (by simp) fun aa w S => ?_
  refine sy_run ⟨0, [10]⟩ 60 S fun bs aa w S => ?_
  refine sy_reg S fun S => ?_
  refine sy_ops 5 S fun bs aa w S => ?_
  refine sy_cond false S (decide_eq_false h1 : decide (r.1 = IntKind.i64.wrap (me + 1)) = false) (by kernel_rfl) fun S => ?_
  refine sy_run ⟨0, [12]⟩ 60 S fun bs aa w S => ?_
  refine sy_reg S fun S => ?_
  refine sy_ops 3 S fun bs aa w S => ?_
  refine sy_cond false S (decide_eq_false h2 : decide (r.1 = 0) = false) (by kernel_rfl) fun S => ?_
  refine sy_run ⟨0, []⟩ 60 S fun bs aa w S => ?_
  refine sy_acc (l' := (resolveT L me (IntKind.i64.wrap (r.1 - 1)) true m).rest l) (v := ({} : OutD).v) S (Or.inl rfl) ((resolveR_any w g L hok me (IntKind.i64.wrap (r.1 - 1)) m l S.run (fun x hx => hI x (by simp [hx]))).mono fun e w' h => by rw [hq] at h; exact ⟨h.1.1, h.2 _ rfl, h.1.2⟩) (by kernel_rfl) (by simp) fun aa w S => ?_
  refine sy_run ⟨0, []⟩ 60 S fun bs aa w S => ?_
  refine sy_idx S fun aa S => ?_
  refine sy_run ⟨0, [999]⟩ 60 S fun bs aa w S => ?_
  have S' := S.to [0, 1, 2, 3, 4] (tks L me cell g kind a b ty m sa wa da sl sc wl wc dl dc) (by kernel_rfl) (by kernel_rfl) (by kernel_rfl) (by kernel_rfl) (by kernel_rfl)
  refine sy_at (k := .rnd n (bodyL (tkc L me cell g kind a b ty m sa wa da sl sc wl wc dl dc)) :: (tkc L me cell g kind a b ty m sa wa da sl sc wl wc dl dc).k.tail) (by kernel_rfl) ?_
  exact ih ((resolveT L me (IntKind.i64.wrap (r.1 - 1)) true m).rest l) _ aa w (Nat.lt_of_le_of_lt (rest_le _ _) hl) (fun x hx => hI x (by simp [rest_mem _ _ x hx])) S'
set_option maxHeartbeats 8000000 in
theorem tk_r1 (w0 : World) (L : Ly) (hok : L.ok) (me cell : Int) (g : Nat) (kind a b ty : Int) (m : Ct) (sa wa da : Option Addr) (sl sc wl wc dl dc : Nat) (n : Nat) (r : Int × Bool) (l : List (Int × Bool)) (hl : l.length < n) (h1 : ¬ r.1 = IntKind.i64.wrap (me + 1)) (h2 : ¬ r.1 = 0) (hq : (resolveT L me (IntKind.i64.wrap (r.1 - 1)) true m).run l = .inr { val := 1 }) (bs : List Nat) (aa : Act) (w : World) (hI : ∀ x ∈ (r :: l : List (Int × Bool)), I64 x.1) (S : Sy w0 (some g) bs (tks L me cell g kind a b ty m sa wa da sl sc wl wc dl dc) [rfRun g (r :: l)] aa w) : post Try.prog (.rnd (n + 1) (bodyL (tkc L me cell g kind a b ty m sa wa da sl sc wl wc dl dc)) :: (tkc L me cell g kind a b ty m sa wa da sl sc wl wc dl dc).k.tail) (bodyPost Try.prog Try.f59 (OpPost ((takeT L me cell m (n + 1)).run (r :: l)) g w0)) .normal aa w := by
  have e : (takeT L me cell m (n + 1)).run (r :: l) = .inr { lost := true } := by unfold takeT; rw [trun_ask, if_neg h1, if_neg h2, run_bind, hq]; simp [trun_ret]
  refine sy_run (c := ⟨(.rnd (n + 1) (bodyL (tkc L me cell g kind a b ty m sa wa da sl sc wl wc dl dc)) :: (tkc L me cell g kind a b ty m sa wa da sl sc wl wc dl dc).k.tail), (tks L me cell g kind a b ty m sa wa da sl sc wl wc dl dc)⟩) ⟨0, []⟩ 60 S fun bs aa w S => ?_
  refine sy_acc S (Or.inl rfl) (load_some w g r l cell S.run) (by kernel_rfl) (by simp) fun aa w S => ?_
  refine sy_run ⟨0, [10]⟩ 60 S fun bs aa w S => ?_
  refine sy_reg S fun S => ?_
  refine sy_ops 5 S fun bs aa w S => ?_
  refine sy_cond false S (decide_eq_false h1 : decide (r.1 = IntKind.i64.wrap (me + 1)) = false) (by kernel_rfl) fun S => ?_
  refine sy_run ⟨0, [12]⟩ 60 S fun bs aa w S => ?_
  refine sy_reg S fun S => ?_
  refine sy_ops 3 S fun bs aa w S => ?_
  refine sy_cond false S (decide_eq_false h2 : decide (r.1 = 0) = false) (by kernel_rfl) fun S => ?_
  refine sy_run ⟨0, []⟩ 60 S fun bs aa w S => ?_
  refine sy_acc (l' := (resolveT L me (IntKind.i64.wrap (r.1 - 1)) true m).rest l) (v := ({ val := 1 } : OutD).v) S (Or.inl rfl) ((resolveR_any w g L hok me (IntKind.i64.wrap (r.1 - 1)) m l S.run (fun x hx => hI x (by simp [hx]))).mono fun e w' h => by rw [hq] at h; exact ⟨h.1.1, h.2 _ rfl, h.1.2⟩) (by kernel_rfl) (by simp) fun aa w S => ?_
  refine sy_run ⟨0, []⟩ 60 S fun bs aa w S => ?_
  refine sy_idx S fun aa S => ?_
  refine sy_run ⟨0, []⟩ 60 S fun bs aa w S => ?_
  exact sy_ret S (by kernel_rfl) (by kernel_rfl) fun hg => by rw [e]; exact ⟨rfl, hg⟩
set_option maxHeartbeats 8000000 in
theorem tk_r1l (w0 : World) (L : Ly) (hok : L.ok) (me cell : Int) (g : Nat) (kind a b ty : Int) (m : Ct) (sa wa da : Option Addr) (sl sc wl wc dl dc : Nat) (n : Nat) (r : Int × Bool) (l : List (Int × Bool)) (hl : l.length < n) (h1 : ¬ r.1 = IntKind.i64.wrap (me + 1)) (h2 : ¬ r.1 = 0) (hq : (resolveT L me (IntKind.i64.wrap (r.1 - 1)) true m).run l = .inr { val := 1, lost := true }) (bs : List Nat) (aa : Act) (w : World) (hI : ∀ x ∈ (r :: l : List (Int × Bool)), I64 x.1) (S : Sy w0 (some g) bs (tks L me cell g kind a b ty m sa wa da sl sc wl wc dl dc) [rfRun g (r :: l)] aa w) : post Try.prog (.rnd (n + 1) (bodyL (tkc L me cell g kind a b ty m sa wa da sl sc wl wc dl dc)) :: (tkc L me cell g kind a b ty m sa wa da sl sc wl wc dl dc).k.tail) (bodyPost Try.prog Try.f59 (OpPost ((takeT L me cell m (n + 1)).run (r :: l)) g w0)) .normal aa w := by
  have e : (takeT L me cell m (n + 1)).run (r :: l) = .inr { lost := true } := by unfold takeT; rw [trun_ask, if_neg h1, if_neg h2, run_bind, hq]; simp [trun_ret]
  refine sy_run (c := ⟨(.rnd (n + 1) (bodyL (tkc L me cell g kind a b ty m sa wa da sl sc wl wc dl dc)) :: (tkc L me cell g kind a b ty m sa wa da sl sc wl wc dl dc).k.tail), (tks L me cell g kind a b ty m sa wa da sl sc wl wc dl dc)⟩) ⟨0, []⟩ 60 S fun bs aa w S => ?_
  refine sy_acc S (Or.inl rfl) (load_some w g r l cell S.run) (by kernel_rfl) (by simp) fun aa w S => ?_
  refine sy_run ⟨0, [10]⟩ 60 S fun bs aa w S => ?_
  refine sy_reg S fun S => ?_
  refine sy_ops 5 S fun bs aa w S => ?_
  refine sy_cond false S (decide_eq_false h1 : decide (r.1 = IntKind.i64.wrap (me + 1)) = false) (by kernel_rfl) fun S => ?_
  refine sy_run ⟨0, [12]⟩ 60 S fun bs aa w S => ?_
  refine sy_reg S fun S => ?_
  refine sy_ops 3 S fun bs aa w S => ?_
  refine sy_cond false S (decide_eq_false h2 : decide (r.1 = 0) = false) (by kernel_rfl) fun S => ?_
  refine sy_run ⟨0, []⟩ 60 S fun bs aa w S => ?_
  refine sy_acc (l' := (resolveT L me (IntKind.i64.wrap (r.1 - 1)) true m).rest l) (v := ({ val := 1, lost := true } : OutD).v) S (Or.inl rfl) ((resolveR_any w g L hok me (IntKind.i64.wrap (r.1 - 1)) m l S.run (fun x hx => hI x (by simp [hx]))).mono fun e w' h => by rw [hq] at h; exact ⟨h.1.1, h.2 _ rfl, h.1.2⟩) (by kernel_rfl) (by simp) fun aa w S => ?_
  refine sy_run ⟨0, []⟩ 60 S fun bs aa w S => ?_
  exact sy_ret S (by kernel_rfl) (by kernel_rfl) fun hg => by rw [e]; exact ⟨rfl, hg⟩
set_option maxHeartbeats 8000000 in
theorem tk_r2 (w0 : World) (L : Ly) (hok : L.ok) (me cell : Int) (g : Nat) (kind a b ty : Int) (m : Ct) (sa wa da : Option Addr) (sl sc wl wc dl dc : Nat) (n : Nat) (r : Int × Bool) (l : List (Int × Bool)) (hl : l.length < n) (h1 : ¬ r.1 = IntKind.i64.wrap (me + 1)) (h2 : ¬ r.1 = 0) (hq : (resolveT L me (IntKind.i64.wrap (r.1 - 1)) true m).run l = .inr { val := 2 }) (ih : ∀ (l : List (Int × Bool)) (bs : List Nat) (aa : Act) (w : World), l.length < n → (∀ x ∈ l, I64 x.1) → Sy w0 (some g) bs (tks L me cell g kind a b ty m sa wa da sl sc wl wc dl dc) [rfRun g l] aa w → post Try.prog (.rnd n (bodyL (tkc L me cell g kind a b ty m sa wa da sl sc wl wc dl dc)) :: (tkc L me cell g kind a b ty m sa wa da sl sc wl wc dl dc).k.tail) (bodyPost Try.prog Try.f59 (OpPost ((takeT L me cell m n).run l) g w0)) .normal aa w) (bs : List Nat) (aa : Act) (w : World) (hI : ∀ x ∈ (r :: l : List (Int × Bool)), I64 x.1) (S : Sy w0 (some g) bs (tks L me cell g kind a b ty m sa wa da sl sc wl wc dl dc) [rfRun g (r :: l)] aa w) : post Try.prog (.rnd (n + 1) (bodyL (tkc L me cell g kind a b ty m sa wa da sl sc wl wc dl dc)) :: (tkc L me cell g kind a b ty m sa wa da sl sc wl wc dl dc).k.tail) (bodyPost Try.prog Try.f59 (OpPost ((takeT L me cell m (n + 1)).run (r :: l)) g w0)) .normal aa w := by
  have e : (takeT L me cell m (n + 1)).run (r :: l) = (takeT L me cell m n).run ((resolveT L me (IntKind.i64.wrap (r.1 - 1)) true m).rest l) := by rw [takeT, trun_ask, if_neg h1, if_neg h2, run_bind, hq]; simp
  rw [e]
  refine sy_run (c := ⟨(.rnd (n + 1) (bodyL (tkc L me cell g kind a b ty m sa wa da sl sc wl wc dl dc)) :: (tkc L me cell g kind a b ty m sa wa da sl sc wl wc dl dc).k.tail), (tks L me cell g kind a b ty m sa wa da sl sc wl wc dl dc)⟩) ⟨0, []⟩ 60 S fun bs aa w S => ?_
  refine sy_acc S (Or.inl rfl) (load_some w g r l cell S.run) (by kernel_rfl) (by simp) fun aa w S => ?_
  refine sy_run ⟨0, [10]⟩ 60 S fun bs aa w S => ?_
  refine sy_reg S fun S => ?_
  refine sy_ops 5 S fun bs aa w S => ?_
  refine sy_cond false S (decide_eq_false h1 : decide (r.1 = IntKind.i64.wrap (me + 1)) = false) (by kernel_rfl) fun S => ?_
  refine sy_run ⟨0, [12]⟩ 60 S fun bs aa w S => ?_
  refine sy_reg S fun S => ?_
  refine sy_ops 3 S fun bs aa w S => ?_
  refine sy_cond false S (decide_eq_false h2 : decide (r.1 = 0) = false) (by kernel_rfl) fun S => ?_
  refine sy_run ⟨0, []⟩ 60 S fun bs aa w S => ?_
  refine sy_acc (l' := (resolveT L me (IntKind.i64.wrap (r.1 - 1)) true m).rest l) (v := ({ val := 2 } : OutD).v) S (Or.inl rfl) ((resolveR_any w g L hok me (IntKind.i64.wrap (r.1 - 1)) m l S.run (fun x hx => hI x (by simp [hx]))).mono fun e w' h => by rw [hq] at h; exact ⟨h.1.1, h.2 _ rfl, h.1.2⟩) (by kernel_rfl) (by simp) fun aa w S => ?_
  refine sy_run ⟨0, []⟩ 60 S fun bs aa w S => ?_
  refine sy_idx S fun aa S => ?_
  refine sy_run ⟨0, [999]⟩ 60 S fun bs aa w S => ?_
  have S' := S.to [0, 1, 2, 3, 4] (tks L me cell g kind a b ty m sa wa da sl sc wl wc dl dc) (by kernel_rfl) (by kernel_rfl) (by kernel_rfl) (by kernel_rfl) (by kernel_rfl)
  refine sy_at (k := .rnd n (bodyL (tkc L me cell g kind a b ty m sa wa da sl sc wl wc dl dc)) :: (tkc L me cell g kind a b ty m sa wa da sl sc wl wc dl dc).k.tail) (by kernel_rfl) ?_
  exact ih ((resolveT L me (IntKind.i64.wrap (r.1 - 1)) true m).rest l) _ aa w (Nat.lt_of_le_of_lt (rest_le _ _) hl) (fun x hx => hI x (by simp [rest_mem _ _ x hx])) S'
set_option maxHeartbeats 8000000 in
theorem tk_r3 (w0 : World) (L : Ly) (hok : L.ok) (me cell : Int) (g : Nat) (kind a b ty : Int) (m : Ct) (sa wa da : Option Addr) (sl sc wl wc dl dc : Nat) (n : Nat) (r : Int × Bool) (l : List (Int × Bool)) (hl : l.length < n) (h1 : ¬ r.1 = IntKind.i64.wrap (me + 1)) (h2 : ¬ r.1 = 0) (hq : (resolveT L me (IntKind.i64.wrap (r.1 - 1)) true m).run l = .inr { val := 3 }) (ih : ∀ (l : List (Int × Bool)) (bs : List Nat) (aa : Act) (w : World), l.length < n → (∀ x ∈ l, I64 x.1) → Sy w0 (some g) bs (tks L me cell g kind a b ty m sa wa da sl sc wl wc dl dc) [rfRun g l] aa w → post Try.prog (.rnd n (bodyL (tkc L me cell g kind a b ty m sa wa da sl sc wl wc dl dc)) :: (tkc L me cell g kind a b ty m sa wa da sl sc wl wc dl dc).k.tail) (bodyPost Try.prog Try.f59 (OpPost ((takeT L me cell m n).run l) g w0)) .normal aa w) (bs : List Nat) (aa : Act) (w : World) (hI : ∀ x ∈ (r :: l : List (Int × Bool)), I64 x.1) (S : Sy w0 (some g) bs (tks L me cell g kind a b ty m sa wa da sl sc wl wc dl dc) [rfRun g (r :: l)] aa w) : post Try.prog (.rnd (n + 1) (bodyL (tkc L me cell g kind a b ty m sa wa da sl sc wl wc dl dc)) :: (tkc L me cell g kind a b ty m sa wa da sl sc wl wc dl dc).k.tail) (bodyPost Try.prog Try.f59 (OpPost ((takeT L me cell m (n + 1)).run (r :: l)) g w0)) .normal aa w := by
  have e : (takeT L me cell m (n + 1)).run (r :: l) = (takeT L me cell m n).run ((resolveT L me (IntKind.i64.wrap (r.1 - 1)) true m).rest l) := by rw [takeT, trun_ask, if_neg h1, if_neg h2, run_bind, hq]; simp
  rw [e]
  refine sy_run (c := ⟨(.rnd (n + 1) (bodyL (tkc L me cell g kind a b ty m sa wa da sl sc wl wc dl dc)) :: (tkc L me cell g kind a b ty m sa wa da sl sc wl wc dl dc).k.tail), (tks L me cell g kind a b ty m sa wa da sl sc wl wc dl dc)⟩) ⟨0, []⟩ 60 S fun bs aa w S => ?_
  refine sy_acc S (Or.inl rfl) (load_some w g r l cell S.run) (by kernel_rfl) (by simp) fun aa w S => ?_
  refine sy_run ⟨0, [10]⟩ 60 S fun bs aa w S => ?_
  refine sy_reg S fun S => ?_
  refine sy_ops 5 S fun bs aa w S => ?_
  refine sy_cond false S (decide_eq_false h1 : decide (r.1 = IntKind.i64.wrap (me + 1)) = false) (by kernel_rfl) fun S => ?_
  refine sy_run ⟨0, [12]⟩ 60 S fun bs aa w S => ?_
  refine sy_reg S fun S => ?_
  refine sy_ops 3 S fun bs aa w S => ?_
  refine sy_cond false S (decide_eq_false h2 : decide (r.1 = 0) = false) (by kernel_rfl) fun S => ?_
  refine sy_run ⟨0, []⟩ 60 S fun bs aa w S => ?_
  refine sy_acc (l' := (resolveT L me (IntKind.i64.wrap (r.1 - 1)) true m).rest l) (v := ({ val := 3 } : OutD).v) S (Or.inl rfl) ((resolveR_any w g L hok me (IntKind.i64.wrap (r.1 - 1)) m l S.run (fun x hx => hI x (by simp [hx]))).mono fun e w' h => by rw [hq] at h; exact ⟨h.1.1, h.2 _ rfl, h.1.2⟩) (by kernel_rfl) (by simp) fun aa w S => ?_
  refine sy_run ⟨0, []⟩ 60 S fun bs aa w S => ?_
  refine sy_idx S fun aa S => ?_
  refine sy_run ⟨0, [999]⟩ 60 S fun bs aa w S => ?_
  have S' := S.to [0, 1, 2, 3, 4] (tks L me cell g kind a b ty m sa wa da sl sc wl wc dl dc) (by kernel_rfl) (by kernel_rfl) (by kernel_rfl) (by kernel_rfl) (by kernel_rfl)
  refine sy_at (k := .rnd n (bodyL (tkc L me cell g kind a b ty m sa wa da sl sc wl wc dl dc)) :: (tkc L me cell g kind a b ty m sa wa da sl sc wl wc dl dc).k.tail) (by kernel_rfl) ?_
  exact ih ((resolveT L me (IntKind.i64.wrap (r.1 - 1)) true m).rest l) _ aa w (Nat.lt_of_le_of_lt (rest_le _ _) hl) (fun x hx => hI x (by simp [rest_mem _ _ x hx])) S'
theorem tk_all (w0 : World) (L : Ly) (hok : L.ok) (me cell : Int) (g : Nat) (kind a b ty : Int) (m : Ct) (sa wa da : Option Addr) (sl sc wl wc dl dc : Nat) : ∀ (n : Nat) (l : List (Int × Bool)) (bs : List Nat) (aa : Act) (w : World), l.length < n → (∀ x ∈ l, I64 x.1) → Sy w0 (some g) bs (tks L me cell g kind a b ty m sa wa da sl sc wl wc dl dc) [rfRun g l] aa w → post Try.prog (.rnd n (bodyL (tkc L me cell g kind a b ty m sa wa da sl sc wl wc dl dc)) :: (tkc L me cell g kind a b ty m sa wa da sl sc wl wc dl dc).k.tail) (bodyPost Try.prog Try.f59 (OpPost ((takeT L me cell m n).run l) g w0)) .normal aa w := by
  intro n
  induction n with
  | zero => intro l bs aa w h; omega
  | succ n ih =>
    intro l bs aa w hl hI S
    rcases l with _ | ⟨r, l⟩
    · exact tk_0 w0 L hok me cell g kind a b ty m sa wa da sl sc wl wc dl dc n bs aa w hI S
    · by_cases h1 : r.1 = IntKind.i64.wrap (me + 1)
      · exact tk_me w0 L hok me cell g kind a b ty m sa wa da sl sc wl wc dl dc n r l h1 bs aa w hI S
      · by_cases h2 : r.1 = 0
        · rcases l with _ | ⟨⟨y, b⟩, l⟩
          · exact tk_c0 w0 L hok me cell g kind a b ty m sa wa da sl sc wl wc dl dc n r h1 h2 bs aa w hI S
          · cases b with
            | true => exact tk_ct w0 L hok me cell g kind a b ty m sa wa da sl sc wl wc dl dc n r y l (by simp at hl; omega) h1 h2 bs aa w hI S
            | false => exact tk_cf w0 L hok me cell g kind a b ty m sa wa da sl sc wl wc dl dc n r y l (by simp at hl; omega) h1 h2 ih bs aa w hI S
        · have hl' : l.length < n := by simp at hl; omega
          cases hq : (resolveT L me (IntKind.i64.wrap (r.1 - 1)) true m).run l with
          | inl q => exact tk_rp w0 L hok me cell g kind a b ty m sa wa da sl sc wl wc dl dc n r l h1 h2 q hq bs aa w hI S
          | inr o =>
            rcases resolve_form L me (IntKind.i64.wrap (r.1 - 1)) m l o hq with rfl | rfl | rfl | rfl | rfl
            · exact tk_r0 w0 L hok me cell g kind a b ty m sa wa da sl sc wl wc dl dc n r l hl' h1 h2 hq ih bs aa w hI S
            · exact tk_r1 w0 L hok me cell g kind a b ty m sa wa da sl sc wl wc dl dc n r l hl' h1 h2 hq bs aa w hI S
            · exact tk_r1l w0 L hok me cell g kind a b ty m sa wa da sl sc wl wc dl dc n r l hl' h1 h2 hq bs aa w hI S
            · exact tk_r2 w0 L hok me cell g kind a b ty m sa wa da sl sc wl wc dl dc n r l hl' h1 h2 hq ih bs aa w hI S
            · exact tk_r3 w0 L hok me cell g kind a b ty m sa wa da sl sc wl wc dl dc n r l hl' h1 h2 hq ih bs aa w hI S
set_option maxHeartbeats 4000000 in
theorem atake_any (w : World) (g : Nat) (L : Ly) (hok : L.ok) (me : Int) (kind a b ty : Int) (m : Ct) (sa wa da : Option Addr) (sl sc wl wc dl dc : Nat) (l : List (Int × Bool)) (hI : ∀ x ∈ l, I64 x.1) (hR : RunAt w g l) : Calls Try.prog 59 #[.pointer (some ⟨g, 0, none⟩), L.v, .int .i64 me, .agg #[.int .i64 kind, .int .i64 a, .int .i64 b, .int .i64 ty, .int .i64 m.s, .int .i64 m.k, .int .i64 m.a, .slice sa sl sc, .slice wa wl wc, .slice da dl dc]] w (OpPost ((takeT L me (atLock L a) m (l.length + 1)).run l) g w) := by
  refine sy_enterF (some g) [rfRun g l] (by intro f hf; simp at hf; subst hf; exact hR) Try.func59 rfl fun aa S => ?_
  refine sy_run ⟨0, []⟩ 50 S fun bs aa w1 S => ?_
  refine sy_scope S fun S => ?_
  refine sy_run ⟨0, []⟩ 50 S fun bs aa w1 S => ?_
  refine sy_call1 S (lock_any L a w1 hok) (by kernel_rfl) fun aa w1 hb S => ?_
  refine sy_run ⟨0, []⟩ 50 S fun bs aa w1 S => ?_
  refine sy_label S fun S => ?_
  refine sy_run ⟨0, []⟩ 50 S fun bs aa w1 S => ?_
  have S' := S.to [0, 1, 2, 3, 4] (tks L me (atLock L a) g kind a b ty m sa wa da sl sc wl wc dl dc) (by kernel_rfl) (by kernel_rfl) (by kernel_rfl) (by kernel_rfl) (by kernel_rfl)
  refine sy_loop (l.length + 1) (by kernel_rfl) ?_
  exact tk_all w L hok me (atLock L a) g kind a b ty m sa wa da sl sc wl wc dl dc (l.length + 1) l _ aa w1 (by omega) hI S'
end Go.Proofs.Ytdfngmplfgifiaa


/-
  Layer 20: the next access of an operation on an abstract lock.
-/
namespace Go.Proofs.Ytdfngmplfgifiaa
open Go Go.RowKit SX
set_option linter.unusedVariables false
set_option maxRecDepth 100000

/-- A call over a run of which nothing is wanted any more. -/
theorem sy_gone {P : Program} {w0 : World} {r : Option Nat} {bs : List Nat} {F : List RF} {aa : Act} {w : World} {g : Nat} {l : List (Int × Bool)} {c : Cfg} (S : Sy w0 r bs c.s (rfRun g l :: F) aa w) (h0 : r = some g ∨ w0.heap.size ≤ g) {v : Value} {f : FuncId} {args : Array Value} {Q : Exit → Act → World → Prop}
    (hC : Calls P f args w fun e w' => e = .returned v ∧ w.grownBy w' (some g))
    (hh : (headC P c).map (fun q => (q.1, q.2.map (den bs))) = some (f, args.toList))
    (h : ∀ a' w', Sy w0 r bs (aftC c (.v v)).s [] a' w' → post P (aftC c (.v v)).k Q .normal a' w') : post P c.k Q .normal aa w := by
  have hap := (S.fs _ (by simp : rfRun g l ∈ rfRun g l :: F)).2
  refine sy_callG S h0 (X := Unit) (val := fun _ => v) (C := fun _ _ => True) (hC.mono fun e w' h => ⟨(), h.1, trivial, h.2⟩) hh [] (by simp) (fun i hi he => hap i hi (by show _ ≤ g; rw [he]; exact Nat.le_refl _)) ?_
  intro _ a' w' _ _ S'
  exact h a' w' S'
theorem heap_below {w w' : World} {B b : Nat} {o : Obj} (hb : Below B w w') (hB : b < B) (h : w.heap[b]? = some o) : w'.heap[b]? = some o := (hb.block b hB).trans h
attribute [local irreducible] post
set_option maxHeartbeats 4000000 in
theorem anx1_any (w : World) (g b1 b2 b3 : Nat) (L : Ly) (hok : L.ok) (me : Int) (kind a b ty : Int) (m : Ct) (sa wa da : Option Addr) (sl sc wl wc dl dc : Nat) (l : List (Int × Bool)) (hI : ∀ x ∈ l, I64 x.1) (hR : RunAt w g l)
    (h1 : w.heap[b1]? = some (.cells ([.int .i64 L.c.t, .int .i64 L.c.l, .int .i64 L.c.k, .int .i64 L.c.s, .int .i64 L.c.m, .int .i64 L.clock, .int .i64 L.stamps, .int .i64 L.log, .int .i64 L.fin, .int .i64 L.thread, .int .i64 L.lock, .int .i64 L.loc, .int .i64 L.size] : List Value).toArray 25 (0, 0))) (h2 : w.heap[b2]? = some (.cells ([.int .i64 me] : List Value).toArray 3 (0, 0))) (h3 : w.heap[b3]? = some (.cells ([.int .i64 kind, .int .i64 a, .int .i64 b, .int .i64 ty, .int .i64 m.s, .int .i64 m.k, .int .i64 m.a, .slice sa sl sc, .slice wa wl wc, .slice da dl dc] : List Value).toArray 32 (0, 0))) :
    Calls Try.prog 58 #[.pointer (some ⟨g, 0, none⟩), .pointer (some ⟨b1, 0, none⟩), .pointer (some ⟨b2, 0, none⟩), .pointer (some ⟨b3, 0, none⟩)] w (OpPost ((takeT L me (atLock L a) m (l.length + 1)).run l) g w) := by
  refine sy_enterF (some g) [rfRun g l, rfBox b1 25 [.int .i64 L.c.t, .int .i64 L.c.l, .int .i64 L.c.k, .int .i64 L.c.s, .int .i64 L.c.m, .int .i64 L.clock, .int .i64 L.stamps, .int .i64 L.log, .int .i64 L.fin, .int .i64 L.thread, .int .i64 L.lock, .int .i64 L.loc, .int .i64 L.size], rfBox b2 3 [.int .i64 me], rfBox b3 32 [.int .i64 kind, .int .i64 a, .int .i64 b, .int .i64 ty, .int .i64 m.s, .int .i64 m.k, .int .i64 m.a, .slice sa sl sc, .slice wa wl wc, .slice da dl dc]] (by
    intro f hf
    simp only [List.mem_cons, List.not_mem_nil, or_false] at hf
    rcases hf with rfl | rfl | rfl | rfl
    · exact hR
    · exact h1
    · exact h2
    · exact h3) Try.func58 rfl fun aa S => ?_
  refine sy_run ⟨0, []⟩ 80 S fun bs aa w1 S => ?_
  refine sy_ldo S (S.ldBox (b := b1) (ty' := 25) (cs := [.int .i64 L.c.t, .int .i64 L.c.l, .int .i64 L.c.k, .int .i64 L.c.s, .int .i64 L.c.m, .int .i64 L.clock, .int .i64 L.stamps, .int .i64 L.log, .int .i64 L.fin, .int .i64 L.thread, .int .i64 L.lock, .int .i64 L.loc, .int .i64 L.size]) (o := 0) (ty := 25) (v := L.v) (by simp) (by kernel_rfl)) (by kernel_rfl) fun aa S => ?_
  refine sy_run ⟨0, []⟩ 80 S fun bs aa w1 S => ?_
  refine sy_ldo S (S.ldBox (b := b2) (ty' := 3) (cs := [.int .i64 me]) (o := 0) (ty := 3) (v := .int .i64 me) (by simp) (by kernel_rfl)) (by kernel_rfl) fun aa S => ?_
  refine sy_run ⟨0, []⟩ 80 S fun bs aa w1 S => ?_
  refine sy_ldo S (S.ldBox (b := b3) (ty' := 32) (cs := [.int .i64 kind, .int .i64 a, .int .i64 b, .int .i64 ty, .int .i64 m.s, .int .i64 m.k, .int .i64 m.a, .slice sa sl sc, .slice wa wl wc, .slice da dl dc]) (o := 0) (ty := 32) (v := .agg #[.int .i64 kind, .int .i64 a, .int .i64 b, .int .i64 ty, .int .i64 m.s, .int .i64 m.k, .int .i64 m.a, .slice sa sl sc, .slice wa wl wc, .slice da dl dc]) (by simp) (by kernel_rfl)) (by kernel_rfl) fun aa S => ?_
  refine sy_run ⟨0, []⟩ 80 S fun bs aa w1 S => ?_
  have hC := atake_any w1 g L hok me kind a b ty m sa wa da sl sc wl wc dl dc l hI S.run
  cases hx : (takeT L me (atLock L a) m (l.length + 1)).run l with
  | inl q =>
    rw [hx] at hC
    exact sy_panic S (hC.mono fun e w' h => ⟨h.1, h.2⟩) (by kernel_rfl) fun w' hg => ⟨rfl, hg⟩
  | inr o =>
    rw [hx] at hC
    refine sy_gone S (Or.inl rfl) (hC.mono fun e w' h => ⟨h.1, h.2⟩) (by kernel_rfl) fun aa w1 S => ?_
    refine sy_run ⟨0, []⟩ 80 S fun bs aa w1 S => ?_
    exact sy_ret S (by kernel_rfl) (by kernel_rfl) fun hg => ⟨rfl, hg⟩
set_option maxHeartbeats 4000000 in
theorem anx2_any (w : World) (g b1 : Nat) (cell : Int) (l : List (Int × Bool)) (hR : RunAt w g l)
    (h1 : w.heap[b1]? = some (.cells ([.int .i64 cell] : List Value).toArray 3 (0, 0))) :
    Calls Try.prog 60 #[.pointer (some ⟨g, 0, none⟩), .pointer (some ⟨b1, 0, none⟩)] w (OpPost ((Tree.ask ⟨2, cell, 0, 0⟩ fun _ => .ret { ok := true }).run l) g w) := by
  refine sy_enterF (some g) [rfRun g l, rfBox b1 3 [.int .i64 cell]] (by
    intro f hf
    simp only [List.mem_cons, List.not_mem_nil, or_false] at hf
    rcases hf with rfl | rfl
    · exact hR
    · exact h1) Try.func60 rfl fun aa S => ?_
  refine sy_run ⟨0, []⟩ 80 S fun bs aa w1 S => ?_
  refine sy_ldo S (S.ldBox (b := b1) (ty' := 3) (cs := [.int .i64 cell]) (o := 0) (ty := 3) (v := .int .i64 cell) (by simp) (by kernel_rfl)) (by kernel_rfl) fun aa S => ?_
  refine sy_run ⟨0, []⟩ 80 S fun bs aa w1 S => ?_
  rcases l with _ | ⟨r, l⟩
  · exact sy_panic S ((store_none w1 g cell 0 S.run).mono fun e w' h => ⟨h.1, gb_of_below _ h.2⟩) (by kernel_rfl) fun w' hg => ⟨rfl, hg⟩
  · have e : (Tree.ask ⟨2, cell, 0, 0⟩ fun _ => .ret { ok := true }).run (r :: l) = .inr { ok := true } := by rw [trun_ask, trun_ret]
    rw [e]
    refine sy_gone S (Or.inl rfl) ((store_some w1 g r l cell 0 S.run).mono fun e w' h => ⟨h.1, h.2.2⟩) (by kernel_rfl) fun aa w1 S => ?_
    refine sy_run ⟨0, []⟩ 80 S fun bs aa w1 S => ?_
    exact sy_ret S (by kernel_rfl) (by kernel_rfl) fun hg => ⟨rfl, hg⟩
set_option maxHeartbeats 4000000 in
theorem anext_lo (w : World) (L : Ly) (hok : L.ok) (me : Int) (kind a b ty : Int) (m : Ct) (sa wa da : Option Addr) (sl sc wl wc dl dc : Nat) (v : Value) (l : List (Int × Bool)) (hv : LogOf w v l) (hc : decide (atLock L a < 0) = true) : Calls Try.prog 30 #[L.v, .int .i64 me, .agg #[.int .i64 kind, .int .i64 a, .int .i64 b, .int .i64 ty, .int .i64 m.s, .int .i64 m.k, .int .i64 m.a, .slice sa sl sc, .slice wa wl wc, .slice da dl dc], v] w fun e w' => e = .returned (nextV (.inr { err := 1 })) ∧ Below w.heap.size w w' := by
  refine sy_enterF none [rfLog v l] (by intro f hf; simp at hf; subst hf; exact hv) Try.func30 rfl fun aa S => ?_
  refine sy_run ⟨0, []⟩ 80 S fun bs aa w1 S => ?_
  refine sy_call1 S (lock_any L a w1 hok) (by kernel_rfl) fun aa w1 hb S => ?_
  refine sy_run ⟨0, [2]⟩ 80 S fun bs aa w1 S => ?_
  refine sy_reg S fun S => ?_
  refine sy_ops 3 S fun bs aa w1 S => ?_
  refine sy_cond true S (hc : decide (atLock L a < 0) = true) (by kernel_rfl) fun S => ?_
  refine sy_run ⟨0, []⟩ 80 S fun bs aa w1 S => ?_
  refine sy_call1 S (refuse_any 1 w1) (by kernel_rfl) fun aa w2 hb S => ?_
  refine sy_run ⟨0, []⟩ 80 S fun bs aa w1 S => ?_
  exact sy_ret S (by kernel_rfl) (by kernel_rfl) fun g => ⟨rfl, below_of_gr g⟩
set_option maxHeartbeats 4000000 in
theorem anext_no (w : World) (L : Ly) (hok : L.ok) (me : Int) (kind a b ty : Int) (m : Ct) (sa wa da : Option Addr) (sl sc wl wc dl dc : Nat) (v : Value) (l : List (Int × Bool)) (hv : LogOf w v l) (hc : decide (atLock L a < 0) = false) (h7 : decide (kind = 7) = false) (h8 : decide (kind = 8) = false) : Calls Try.prog 30 #[L.v, .int .i64 me, .agg #[.int .i64 kind, .int .i64 a, .int .i64 b, .int .i64 ty, .int .i64 m.s, .int .i64 m.k, .int .i64 m.a, .slice sa sl sc, .slice wa wl wc, .slice da dl dc], v] w fun e w' => e = .returned (nextV (.inr { err := 1 })) ∧ Below w.heap.size w w' := by
  refine sy_enterF none [rfLog v l] (by intro f hf; simp at hf; subst hf; exact hv) Try.func30 rfl fun aa S => ?_
  refine sy_run ⟨0, []⟩ 80 S fun bs aa w1 S => ?_
  refine sy_call1 S (lock_any L a w1 hok) (by kernel_rfl) fun aa w1 hb S => ?_
  refine sy_run ⟨0, [2]⟩ 80 S fun bs aa w1 S => ?_
  refine sy_reg S fun S => ?_
  refine sy_ops 3 S fun bs aa w1 S => ?_
  refine sy_cond false S (hc : decide (atLock L a < 0) = false) (by kernel_rfl) fun S => ?_
  refine sy_run ⟨0, [5]⟩ 80 S fun bs aa w1 S => ?_
  refine sy_reg S fun S => ?_
  refine sy_ops 3 S fun bs aa w1 S => ?_
  refine sy_cond false S (h7 : decide (kind = 7) = false) (by kernel_rfl) fun S => ?_
  refine sy_run ⟨0, [7]⟩ 80 S fun bs aa w1 S => ?_
  refine sy_reg S fun S => ?_
  refine sy_ops 3 S fun bs aa w1 S => ?_
  refine sy_cond false S (h8 : decide (kind = 8) = false) (by kernel_rfl) fun S => ?_
  refine sy_run ⟨0, []⟩ 80 S fun bs aa w1 S => ?_
  refine sy_call1 S (refuse_any 1 w1) (by kernel_rfl) fun aa w2 hb S => ?_
  refine sy_run ⟨0, []⟩ 80 S fun bs aa w1 S => ?_
  exact sy_ret S (by kernel_rfl) (by kernel_rfl) fun g => ⟨rfl, below_of_gr g⟩
set_option maxHeartbeats 4000000 in
theorem anext_take (w : World) (L : Ly) (hok : L.ok) (me : Int) (kind a b ty : Int) (m : Ct) (sa wa da : Option Addr) (sl sc wl wc dl dc : Nat) (v : Value) (l : List (Int × Bool)) (hv : LogOf w v l) (hI : ∀ x ∈ l, I64 x.1) (hc : decide (atLock L a < 0) = false) (h7 : decide (kind = 7) = true) (x : Ask ⊕ OutD) (hx : (takeT L me (atLock L a) m (l.length + 1)).run l = x) : Calls Try.prog 30 #[L.v, .int .i64 me, .agg #[.int .i64 kind, .int .i64 a, .int .i64 b, .int .i64 ty, .int .i64 m.s, .int .i64 m.k, .int .i64 m.a, .slice sa sl sc, .slice wa wl wc, .slice da dl dc], v] w fun e w' => e = .returned (nextV x) ∧ Below w.heap.size w w' := by
  refine sy_enterF none [rfLog v l] (by intro f hf; simp at hf; subst hf; exact hv) Try.func30 rfl fun aa S => ?_
  refine sy_run ⟨0, []⟩ 80 S fun bs aa w1 S => ?_
  refine sy_call1 S (lock_any L a w1 hok) (by kernel_rfl) fun aa w1 hb S => ?_
  refine sy_run ⟨0, [2]⟩ 80 S fun bs aa w1 S => ?_
  refine sy_reg S fun S => ?_
  refine sy_ops 3 S fun bs aa w1 S => ?_
  refine sy_cond false S (hc : decide (atLock L a < 0) = false) (by kernel_rfl) fun S => ?_
  refine sy_run ⟨0, [5]⟩ 80 S fun bs aa w1 S => ?_
  refine sy_reg S fun S => ?_
  refine sy_ops 3 S fun bs aa w1 S => ?_
  refine sy_cond true S (h7 : decide (kind = 7) = true) (by kernel_rfl) fun S => ?_
  refine sy_run ⟨0, []⟩ 80 S fun bs aa w1 S => ?_
  generalize hBS : (_ ++ bs : List Nat) = BS at S
  have hb0 := S.bx 0 ⟨25, [.int .i64 L.c.t, .int .i64 L.c.l, .int .i64 L.c.k, .int .i64 L.c.s, .int .i64 L.c.m, .int .i64 L.clock, .int .i64 L.stamps, .int .i64 L.log, .int .i64 L.fin, .int .i64 L.thread, .int .i64 L.lock, .int .i64 L.loc, .int .i64 L.size]⟩ (by kernel_rfl)
  have hn0 : BS.getD 0 0 < w1.heap.size := (Array.getElem?_eq_some_iff.1 hb0).1
  have hb1 := S.bx 1 ⟨3, [.int .i64 me]⟩ (by kernel_rfl)
  have hn1 : BS.getD 1 0 < w1.heap.size := (Array.getElem?_eq_some_iff.1 hb1).1
  have hb2 := S.bx 2 ⟨32, [.int .i64 kind, .int .i64 a, .int .i64 b, .int .i64 ty, .int .i64 m.s, .int .i64 m.k, .int .i64 m.a, .slice sa sl sc, .slice wa wl wc, .slice da dl dc]⟩ (by kernel_rfl)
  have hn2 : BS.getD 2 0 < w1.heap.size := (Array.getElem?_eq_some_iff.1 hb2).1
  have hF : ∀ w2 g, Below w1.heap.size w1 w2 → w1.heap.size ≤ g → RunAt w2 g l → Calls Try.prog 58 #[.pointer (some ⟨g, 0, none⟩), .pointer (some ⟨BS.getD 0 0, 0, none⟩), .pointer (some ⟨BS.getD 1 0, 0, none⟩), .pointer (some ⟨BS.getD 2 0, 0, none⟩)] w2 (OpPost x g w2) := fun w2 g hb hg hR => by
    rw [← hx]
    exact anx1_any w2 g _ _ _ L hok me kind a b ty m sa wa da sl sc wl wc dl dc l hI hR (heap_below hb hn0 hb0) (heap_below hb hn1 hb1) (heap_below hb hn2 hb2)
  cases x with
  | inl o =>
    refine sy_call1 S (of_c3 w1 v l 58 (by intro args w; rfl) (.pointer (some ⟨BS.getD 0 0, 0, none⟩)) (.pointer (some ⟨BS.getD 1 0, 0, none⟩)) (.pointer (some ⟨BS.getD 2 0, 0, none⟩)) (.inl o) (S.fact (f := rfLog v l) (by simp)) hF) (by kernel_rfl) fun aa w2 hb S => ?_
    refine sy_run ⟨0, []⟩ 80 S fun bs aa w1 S => ?_
    exact sy_ret S (by kernel_rfl) (by kernel_rfl) fun g => ⟨rfl, below_of_gr g⟩
  | inr o =>
    refine sy_call1 S (of_c3 w1 v l 58 (by intro args w; rfl) (.pointer (some ⟨BS.getD 0 0, 0, none⟩)) (.pointer (some ⟨BS.getD 1 0, 0, none⟩)) (.pointer (some ⟨BS.getD 2 0, 0, none⟩)) (.inr o) (S.fact (f := rfLog v l) (by simp)) hF) (by kernel_rfl) fun aa w2 hb S => ?_
    refine sy_run ⟨0, []⟩ 80 S fun bs aa w1 S => ?_
    exact sy_ret S (by kernel_rfl) (by kernel_rfl) fun g => ⟨rfl, below_of_gr g⟩
set_option maxHeartbeats 4000000 in
theorem anext_give (w : World) (L : Ly) (hok : L.ok) (me : Int) (kind a b ty : Int) (m : Ct) (sa wa da : Option Addr) (sl sc wl wc dl dc : Nat) (v : Value) (l : List (Int × Bool)) (hv : LogOf w v l) (hc : decide (atLock L a < 0) = false) (h7 : decide (kind = 7) = false) (h8 : decide (kind = 8) = true) (x : Ask ⊕ OutD) (hx : (Tree.ask ⟨2, atLock L a, 0, 0⟩ fun _ => .ret { ok := true }).run l = x) : Calls Try.prog 30 #[L.v, .int .i64 me, .agg #[.int .i64 kind, .int .i64 a, .int .i64 b, .int .i64 ty, .int .i64 m.s, .int .i64 m.k, .int .i64 m.a, .slice sa sl sc, .slice wa wl wc, .slice da dl dc], v] w fun e w' => e = .returned (nextV x) ∧ Below w.heap.size w w' := by
  refine sy_enterF none [rfLog v l] (by intro f hf; simp at hf; subst hf; exact hv) Try.func30 rfl fun aa S => ?_
  refine sy_run ⟨0, []⟩ 80 S fun bs aa w1 S => ?_
  refine sy_call1 S (lock_any L a w1 hok) (by kernel_rfl) fun aa w1 hb S => ?_
  refine sy_run ⟨0, [2]⟩ 80 S fun bs aa w1 S => ?_
  refine sy_reg S fun S => ?_
  refine sy_ops 3 S fun bs aa w1 S => ?_
  refine sy_cond false S (hc : decide (atLock L a < 0) = false) (by kernel_rfl) fun S => ?_
  refine sy_run ⟨0, [5]⟩ 80 S fun bs aa w1 S => ?_
  refine sy_reg S fun S => ?_
  refine sy_ops 3 S fun bs aa w1 S => ?_
  refine sy_cond false S (h7 : decide (kind = 7) = false) (by kernel_rfl) fun S => ?_
  refine sy_run ⟨0, [7]⟩ 80 S fun bs aa w1 S => ?_
  refine sy_reg S fun S => ?_
  refine sy_ops 3 S fun bs aa w1 S => ?_
  refine sy_cond true S (h8 : decide (kind = 8) = true) (by kernel_rfl) fun S => ?_
  refine sy_run ⟨0, []⟩ 80 S fun bs aa w1 S => ?_
  generalize hBS : (_ ++ bs : List Nat) = BS at S
  have hb5 := S.bx 5 ⟨3, [.int .i64 (atLock L a)]⟩ (by kernel_rfl)
  have hn5 : BS.getD 5 0 < w1.heap.size := (Array.getElem?_eq_some_iff.1 hb5).1
  have hF : ∀ w2 g, Below w1.heap.size w1 w2 → w1.heap.size ≤ g → RunAt w2 g l → Calls Try.prog 60 #[.pointer (some ⟨g, 0, none⟩), .pointer (some ⟨BS.getD 5 0, 0, none⟩)] w2 (OpPost x g w2) := fun w2 g hb hg hR => by
    rw [← hx]
    exact anx2_any w2 g _ _ l hR (heap_below hb hn5 hb5)
  cases x with
  | inl o =>
    refine sy_call1 S (of_c1 w1 v l 60 (by intro args w; rfl) (.pointer (some ⟨BS.getD 5 0, 0, none⟩)) (.inl o) (S.fact (f := rfLog v l) (by simp)) hF) (by kernel_rfl) fun aa w2 hb S => ?_
    refine sy_run ⟨0, []⟩ 80 S fun bs aa w1 S => ?_
    exact sy_ret S (by kernel_rfl) (by kernel_rfl) fun g => ⟨rfl, below_of_gr g⟩
  | inr o =>
    refine sy_call1 S (of_c1 w1 v l 60 (by intro args w; rfl) (.pointer (some ⟨BS.getD 5 0, 0, none⟩)) (.inr o) (S.fact (f := rfLog v l) (by simp)) hF) (by kernel_rfl) fun aa w2 hb S => ?_
    refine sy_run ⟨0, []⟩ 80 S fun bs aa w1 S => ?_
    exact sy_ret S (by kernel_rfl) (by kernel_rfl) fun g => ⟨rfl, below_of_gr g⟩
theorem anext_any (w : World) (L : Ly) (hok : L.ok) (me : Int) (kind a b ty : Int) (m : Ct) (sa wa da : Option Addr) (sl sc wl wc dl dc : Nat) (v : Value) (l : List (Int × Bool)) (hv : LogOf w v l) (hI : ∀ x ∈ l, I64 x.1) : Calls Try.prog 30 #[L.v, .int .i64 me, .agg #[.int .i64 kind, .int .i64 a, .int .i64 b, .int .i64 ty, .int .i64 m.s, .int .i64 m.k, .int .i64 m.a, .slice sa sl sc, .slice wa wl wc, .slice da dl dc], v] w fun e w' => e = .returned (nextV ((absT L me kind a m (l.length + 1)).run l)) ∧ Below w.heap.size w w' := by
  unfold absT
  by_cases hc : atLock L a < 0
  · rw [if_pos hc, trun_ret]; exact anext_lo w L hok me kind a b ty m sa wa da sl sc wl wc dl dc v l hv (decide_eq_true hc)
  · rw [if_neg hc]
    by_cases h7 : kind = 7
    · rw [if_pos h7]; exact anext_take w L hok me kind a b ty m sa wa da sl sc wl wc dl dc v l hv hI (decide_eq_false hc) (decide_eq_true h7) _ rfl
    · rw [if_neg h7]
      by_cases h8 : kind = 8
      · rw [if_pos h8]; exact anext_give w L hok me kind a b ty m sa wa da sl sc wl wc dl dc v l hv (decide_eq_false hc) (decide_eq_false h7) (decide_eq_true h8) _ rfl
      · rw [if_neg h8, trun_ret]; exact anext_no w L hok me kind a b ty m sa wa da sl sc wl wc dl dc v l hv (decide_eq_false hc) (decide_eq_false h7) (decide_eq_false h8)
end Go.Proofs.Ytdfngmplfgifiaa
