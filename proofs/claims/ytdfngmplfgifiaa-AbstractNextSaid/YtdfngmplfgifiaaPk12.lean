/-
  Merged: AbsR, AbsQ
-/
import Derived.Test.YtdfngmplfgifiaaRows
import Derived.Test.YtdfngmplfgifiaaPk1
import Derived.Test.YtdfngmplfgifiaaPk7
import Derived.Test.YtdfngmplfgifiaaPk6
import Derived.Test.YtdfngmplfgifiaaPk11
import Derived.Test.YtdfngmplfgifiaaPk8
import Derived.Test.YtdfngmplfgifiaaPk10
import Derived.WalkKit
import Derived.Test.YtdfngmplfgifiaaPk4

/-
  Layer 20: the reference's taking of an abstract lock, over its run of accesses.
-/
namespace Go.Proofs.Ytdfngmplfgifiaa
open Go Go.RowKit SX
set_option linter.unusedVariables false
set_option maxRecDepth 100000
attribute [local irreducible] post

def Tree.all (P : OutD → Prop) : Tree → Prop
  | .ret o => P o
  | .ask _ f => ∀ r, (f r).all P
theorem refRun_all {P : OutD → Prop} : ∀ (T : Tree) (s : CSt), T.all P → P (refRun T s).1 := by
  intro T
  induction T with
  | ret o => intro s h; exact h
  | ask a f ih => intro s h; exact ih _ _ (h _)
theorem resolve_all (L : Ly) (me other : Int) (m : Ct) : (resolveT L me other true m).all fun o => ∃ v b, o = { val := v, lost := b } := by
  intro r
  show (if r.1 % 4 = 3 then Tree.ret { val := 1, lost := true } else asksT L other m).all _
  by_cases hr : r.1 % 4 = 3
  · rw [if_pos hr]; exact ⟨1, true, rfl⟩
  · rw [if_neg hr]
    intro s
    show (if s.1 % 4 = 0 then Tree.ret { val := 0 } else .ask ⟨1, atStamp L other, 0, 0⟩ fun t => .ask ⟨1, atKarma L other, 0, 0⟩ fun k => if chooseD L.c.m m ⟨t.1, k.1, s.1 / 4⟩ = 1 then .ret { val := 1 } else doomT L other s.1).all _
    by_cases hs : s.1 % 4 = 0
    · rw [if_pos hs]; exact ⟨0, false, rfl⟩
    · rw [if_neg hs]
      intro t k
      show (if chooseD L.c.m m ⟨t.1, k.1, s.1 / 4⟩ = 1 then Tree.ret { val := 1 } else doomT L other s.1).all _
      by_cases hc : chooseD L.c.m m ⟨t.1, k.1, s.1 / 4⟩ = 1
      · rw [if_pos hc]; exact ⟨1, false, rfl⟩
      · rw [if_neg hc]
        unfold doomT
        by_cases h1 : s.1 % 4 = 1
        · rw [if_pos h1]
          intro u
          show (if u.2 = true then Tree.ret { val := 2 } else .ret { val := 0 }).all _
          by_cases hu : u.2 = true
          · rw [if_pos hu]; exact ⟨2, false, rfl⟩
          · rw [if_neg hu]; exact ⟨0, false, rfl⟩
        · rw [if_neg h1]
          by_cases h3 : s.1 % 4 = 3
          · rw [if_pos h3]; exact ⟨2, false, rfl⟩
          · rw [if_neg h3]; exact ⟨3, false, rfl⟩
noncomputable def rtc (L : Ly) (me cell : Int) (g : Nat) (a : Int) (m : Ct) : Cfg := runC Try.prog ⟨0, []⟩ 50 (aftC (runC Try.prog ⟨0, []⟩ 50 (cfg0 Try.f64 #[.pointer (some ⟨g, 0, none⟩), L.v, .int .i64 me, .int .i64 a, m.v])) (.v (.int .i64 cell)))
noncomputable def rts (L : Ly) (me cell : Int) (g : Nat) (a : Int) (m : Ct) : SS := ⟨(rtc L me cell g a m).s.n, [(0, .v (.pointer (some ⟨g, 0, none⟩))), (2, .v (.int .i64 me)), (6, .p 0 0), (9, .p 1 0), (10, .v (.bool false)), (11, .v (.int .i64 cell))], (rtc L me cell g a m).s.K⟩
/-- The reference's Ask at a known end. -/
theorem rask_at {w : World} {g : Nat} {L : Ly} (hok : L.ok) {me other : Int} {m : Ct} {l : List (Int × Bool)} (h0 : CurAt w g (l, none)) (hI : ∀ x ∈ l, I64 x.1) {v : Int} {b : Bool} {c' : CSt} (hX : refRun (resolveT L me other true m) (l, none) = ({ val := v, lost := b }, c')) :
    Calls Try.prog 86 #[.pointer (some ⟨g, 0, none⟩), L.v, .int .i64 me, .int .i64 other, .bool true, m.v] w fun e w' => e = .returned (.tuple #[.int .i64 v, .bool b]) ∧ CurAt w' g c' ∧ w.grownBy w' (some g) := by
  refine (ask_any w g L hok me other true m (l, none) h0 hI).mono ?_
  rintro e w' ⟨v', b', c'', rfl, hr, h, hg⟩
  rw [hX] at hr
  cases hr
  exact ⟨rfl, h, hg⟩
set_option maxHeartbeats 8000000 in
theorem rk_0 (w0 : World) (L : Ly) (hok : L.ok) (me cell : Int) (hm : decide (0 = (IntKind.i64.wrap (me + 1))) = false) (g : Nat) (a : Int) (m : Ct) (n : Nat)  (bs : List Nat) (aa : Act) (w : World) (hI : ∀ x ∈ ([] : List (Int × Bool)), I64 x.1) (S : Sy w0 (some g) bs (rts L me cell g a m) [rfCur g ([], none)] aa w) : post Try.prog (.rnd (n + 1 + 1) (bodyL (rtc L me cell g a m)) :: (rtc L me cell g a m).k.tail) (bodyPost Try.prog Try.f64 (fun e w' => e = .returned (.bool (rtake L me cell m (n + 1) ([])).1) ∧ CurAt w' g (rtake L me cell m (n + 1) ([])).2 ∧ w0.grownBy w' (some g))) .normal aa w := by
  have e : rtake L me cell m (n + 1) [] = (false, ([], some ⟨1, cell, 0, 0⟩)) := rfl
  refine sy_run (c := ⟨(.rnd (n + 1 + 1) (bodyL (rtc L me cell g a m)) :: (rtc L me cell g a m).k.tail), (rts L me cell g a m)⟩) ⟨0, []⟩ 60 S fun bs aa w S => ?_
  refine sy_ldf S (curAt_stop S.cur) (by kernel_rfl) fun aa S => ?_
  refine sy_run ⟨0, []⟩ 60 S fun bs aa w S => ?_
  refine sy_cur (x' := ([], some ⟨1, cell, 0, 0⟩)) (v := .int .i64 0) S (Or.inl rfl) (rload_any02 w g ([], none) cell S.cur) (by kernel_rfl) (by simp) fun aa w S => ?_
  refine sy_run ⟨0, [4]⟩ 60 S fun bs aa w S => ?_
  refine sy_reg S fun S => ?_
  refine sy_ops 5 S fun bs aa w S => ?_
  refine sy_cond false S (hm : decide (0 = (IntKind.i64.wrap (me + 1))) = false) (by kernel_rfl) fun S => ?_
  refine sy_run ⟨0, []⟩ 60 S fun bs aa w S => ?_
  refine sy_cur (x' := ([], some ⟨1, cell, 0, 0⟩)) (v := .bool false) S (Or.inl rfl) (rcas_any02 w g ([], some ⟨1, cell, 0, 0⟩) cell 0 (IntKind.i64.wrap (me + 1)) S.cur) (by kernel_rfl) (by simp) fun aa w S => ?_
  refine sy_run ⟨0, []⟩ 60 S fun bs aa w S => ?_
  refine sy_ldf S (curAt_stop S.cur) (by kernel_rfl) fun aa S => ?_
  refine sy_run ⟨0, []⟩ 60 S fun bs aa w S => ?_
  exact sy_ret S (by kernel_rfl) (by kernel_rfl) fun hg => by rw [e]; exact ⟨rfl, S.cur, hg⟩
set_option maxHeartbeats 8000000 in
theorem rk_me (w0 : World) (L : Ly) (hok : L.ok) (me cell : Int) (hm : decide (0 = (IntKind.i64.wrap (me + 1))) = false) (g : Nat) (a : Int) (m : Ct) (n : Nat) (r : Int × Bool) (l : List (Int × Bool)) (h1 : r.1 = (IntKind.i64.wrap (me + 1))) (bs : List Nat) (aa : Act) (w : World) (hI : ∀ x ∈ (r :: l : List (Int × Bool)), I64 x.1) (S : Sy w0 (some g) bs (rts L me cell g a m) [rfCur g (r :: l, none)] aa w) : post Try.prog (.rnd (n + 1 + 1) (bodyL (rtc L me cell g a m)) :: (rtc L me cell g a m).k.tail) (bodyPost Try.prog Try.f64 (fun e w' => e = .returned (.bool (rtake L me cell m (n + 1) (r :: l)).1) ∧ CurAt w' g (rtake L me cell m (n + 1) (r :: l)).2 ∧ w0.grownBy w' (some g))) .normal aa w := by
  have e : rtake L me cell m (n + 1) (r :: l) = (true, (l, none)) := by unfold rtake; rw [if_pos h1]
  refine sy_run (c := ⟨(.rnd (n + 1 + 1) (bodyL (rtc L me cell g a m)) :: (rtc L me cell g a m).k.tail), (rts L me cell g a m)⟩) ⟨0, []⟩ 60 S fun bs aa w S => ?_
  refine sy_ldf S (curAt_stop S.cur) (by kernel_rfl) fun aa S => ?_
  refine sy_run ⟨0, []⟩ 60 S fun bs aa w S => ?_
  refine sy_cur (x' := (l, none)) (v := .int .i64 r.1) S (Or.inl rfl) (rload_any02 w g (r :: l, none) cell S.cur) (by kernel_rfl) (by simp) fun aa w S => ?_
  refine sy_run ⟨0, [4]⟩ 60 S fun bs aa w S => ?_
  refine sy_reg S fun S => ?_
  refine sy_ops 5 S fun bs aa w S => ?_
  refine sy_cond true S (decide_eq_true h1 : decide (r.1 = (IntKind.i64.wrap (me + 1))) = true) (by kernel_rfl) fun S => ?_
  refine sy_run ⟨0, []⟩ 60 S fun bs aa w S => ?_
  exact sy_ret S (by kernel_rfl) (by kernel_rfl) fun hg => by rw [e]; exact ⟨rfl, S.cur, hg⟩
set_option maxHeartbeats 8000000 in
theorem rk_c0 (w0 : World) (L : Ly) (hok : L.ok) (me cell : Int) (hm : decide (0 = (IntKind.i64.wrap (me + 1))) = false) (g : Nat) (a : Int) (m : Ct) (n : Nat) (r : Int × Bool) (h1 : ¬ r.1 = (IntKind.i64.wrap (me + 1))) (h2 : r.1 = 0) (bs : List Nat) (aa : Act) (w : World) (hI : ∀ x ∈ ([r] : List (Int × Bool)), I64 x.1) (S : Sy w0 (some g) bs (rts L me cell g a m) [rfCur g ([r], none)] aa w) : post Try.prog (.rnd (n + 1 + 1) (bodyL (rtc L me cell g a m)) :: (rtc L me cell g a m).k.tail) (bodyPost Try.prog Try.f64 (fun e w' => e = .returned (.bool (rtake L me cell m (n + 1) ([r])).1) ∧ CurAt w' g (rtake L me cell m (n + 1) ([r])).2 ∧ w0.grownBy w' (some g))) .normal aa w := by
  have e : rtake L me cell m (n + 1) [r] = (false, ([], some ⟨3, cell, 0, (IntKind.i64.wrap (me + 1))⟩)) := by unfold rtake; rw [if_neg h1, if_pos h2]
  refine sy_run (c := ⟨(.rnd (n + 1 + 1) (bodyL (rtc L me cell g a m)) :: (rtc L me cell g a m).k.tail), (rts L me cell g a m)⟩) ⟨0, []⟩ 60 S fun bs aa w S => ?_
  refine sy_ldf S (curAt_stop S.cur) (by kernel_rfl) fun aa S => ?_
  refine sy_run ⟨0, []⟩ 60 S fun bs aa w S => ?_
  refine sy_cur (x' := ([], none)) (v := .int .i64 r.1) S (Or.inl rfl) (rload_any02 w g ([r], none) cell S.cur) (by kernel_rfl) (by simp) fun aa w S => ?_
  refine sy_run ⟨0, [4]⟩ 60 S fun bs aa w S => ?_
  refine sy_reg S fun S => ?_
  refine sy_ops 5 S fun bs aa w S => ?_
  refine sy_cond false S (decide_eq_false h1 : decide (r.1 = (IntKind.i64.wrap (me + 1))) = false) (by kernel_rfl) fun S => ?_
  refine sy_run ⟨0, [6]⟩ 60 S fun bs aa w S => ?_
  refine sy_reg S fun S => ?_
  refine sy_ops 3 S fun bs aa w S => ?_
  refine sy_cond true S (decide_eq_true h2 : decide (r.1 = 0) = true) (by kernel_rfl) fun S => ?_
  refine sy_run ⟨0, []⟩ 60 S fun bs aa w S => ?_
  refine sy_cur (x' := ([], some ⟨3, cell, 0, (IntKind.i64.wrap (me + 1))⟩)) (v := .bool false) S (Or.inl rfl) (rcas_any02 w g ([], none) cell 0 (IntKind.i64.wrap (me + 1)) S.cur) (by kernel_rfl) (by simp) fun aa w S => ?_
  refine sy_run ⟨0, []⟩ 60 S fun bs aa w S => ?_
  refine sy_ldf S (curAt_stop S.cur) (by kernel_rfl) fun aa S => ?_
  refine sy_run ⟨0, []⟩ 60 S fun bs aa w S => ?_
  exact sy_ret S (by kernel_rfl) (by kernel_rfl) fun hg => by rw [e]; exact ⟨rfl, S.cur, hg⟩
set_option maxHeartbeats 8000000 in
theorem rk_ct (w0 : World) (L : Ly) (hok : L.ok) (me cell : Int) (hm : decide (0 = (IntKind.i64.wrap (me + 1))) = false) (g : Nat) (a : Int) (m : Ct) (n : Nat) (r : Int × Bool) (y : Int) (l : List (Int × Bool)) (hl : l.length < n) (h1 : ¬ r.1 = (IntKind.i64.wrap (me + 1))) (h2 : r.1 = 0) (bs : List Nat) (aa : Act) (w : World) (hI : ∀ x ∈ (r :: (y, true) :: l : List (Int × Bool)), I64 x.1) (S : Sy w0 (some g) bs (rts L me cell g a m) [rfCur g (r :: (y, true) :: l, none)] aa w) : post Try.prog (.rnd (n + 1 + 1) (bodyL (rtc L me cell g a m)) :: (rtc L me cell g a m).k.tail) (bodyPost Try.prog Try.f64 (fun e w' => e = .returned (.bool (rtake L me cell m (n + 1) (r :: (y, true) :: l)).1) ∧ CurAt w' g (rtake L me cell m (n + 1) (r :: (y, true) :: l)).2 ∧ w0.grownBy w' (some g))) .normal aa w := by
  have e : rtake L me cell m (n + 1) (r :: (y, true) :: l) = (true, (l, none)) := by unfold rtake; rw [if_neg h1, if_pos h2]; rfl
  refine sy_run (c := ⟨(.rnd (n + 1 + 1) (bodyL (rtc L me cell g a m)) :: (rtc L me cell g a m).k.tail), (rts L me cell g a m)⟩) ⟨0, []⟩ 60 S fun bs aa w S => ?_
  refine sy_ldf S (curAt_stop S.cur) (by kernel_rfl) fun aa S => ?_
  refine sy_run ⟨0, []⟩ 60 S fun bs aa w S => ?_
  refine sy_cur (x' := ((y, true) :: l, none)) (v := .int .i64 r.1) S (Or.inl rfl) (rload_any02 w g (r :: (y, true) :: l, none) cell S.cur) (by kernel_rfl) (by simp) fun aa w S => ?_
  refine sy_run ⟨0, [4]⟩ 60 S fun bs aa w S => ?_
  refine sy_reg S fun S => ?_
  refine sy_ops 5 S fun bs aa w S => ?_
  refine sy_cond false S (decide_eq_false h1 : decide (r.1 = (IntKind.i64.wrap (me + 1))) = false) (by kernel_rfl) fun S => ?_
  refine sy_run ⟨0, [6]⟩ 60 S fun bs aa w S => ?_
  refine sy_reg S fun S => ?_
  refine sy_ops 3 S fun bs aa w S => ?_
  refine sy_cond true S (decide_eq_true h2 : decide (r.1 = 0) = true) (by kernel_rfl) fun S => ?_
  refine sy_run ⟨0, []⟩ 60 S fun bs aa w S => ?_
  refine sy_cur (x' := (l, none)) (v := .bool true) S (Or.inl rfl) (rcas_any02 w g ((y, true) :: l, none) cell 0 (IntKind.i64.wrap (me + 1)) S.cur) (by kernel_rfl) (by simp) fun aa w S => ?_
  refine sy_run ⟨0, []⟩ 60 S fun bs aa w S => ?_
  exact sy_ret S (by kernel_rfl) (by kernel_rfl) fun hg => by rw [e]; exact ⟨rfl, S.cur, hg⟩
set_option maxHeartbeats 8000000 in
theorem rk_cf (w0 : World) (L : Ly) (hok : L.ok) (me cell : Int) (hm : decide (0 = (IntKind.i64.wrap (me + 1))) = false) (g : Nat) (a : Int) (m : Ct) (n : Nat) (r : Int × Bool) (y : Int) (l : List (Int × Bool)) (hl : l.length < n) (h1 : ¬ r.1 = (IntKind.i64.wrap (me + 1))) (h2 : r.1 = 0) (ih : ∀ (l : List (Int × Bool)) (bs : List Nat) (aa : Act) (w : World), l.length < n → (∀ x ∈ l, I64 x.1) → Sy w0 (some g) bs (rts L me cell g a m) [rfCur g (l, none)] aa w → post Try.prog (.rnd (n + 1) (bodyL (rtc L me cell g a m)) :: (rtc L me cell g a m).k.tail) (bodyPost Try.prog Try.f64 (fun e w' => e = .returned (.bool (rtake L me cell m n (l)).1) ∧ CurAt w' g (rtake L me cell m n (l)).2 ∧ w0.grownBy w' (some g))) .normal aa w) (bs : List Nat) (aa : Act) (w : World) (hI : ∀ x ∈ (r :: (y, false) :: l : List (Int × Bool)), I64 x.1) (S : Sy w0 (some g) bs (rts L me cell g a m) [rfCur g (r :: (y, false) :: l, none)] aa w) : post Try.prog (.rnd (n + 1 + 1) (bodyL (rtc L me cell g a m)) :: (rtc L me cell g a m).k.tail) (bodyPost Try.prog Try.f64 (fun e w' => e = .returned (.bool (rtake L me cell m (n + 1) (r :: (y, false) :: l)).1) ∧ CurAt w' g (rtake L me cell m (n + 1) (r :: (y, false) :: l)).2 ∧ w0.grownBy w' (some g))) .normal aa w := by
  have e : rtake L me cell m (n + 1) (r :: (y, false) :: l) = rtake L me cell m n l := by rw [rtake_cons, if_neg h1, if_pos h2]; rfl
  rw [e]
  refine sy_run (c := ⟨(.rnd (n + 1 + 1) (bodyL (rtc L me cell g a m)) :: (rtc L me cell g a m).k.tail), (rts L me cell g a m)⟩) ⟨0, []⟩ 60 S fun bs aa w S => ?_
  refine sy_ldf S (curAt_stop S.cur) (by kernel_rfl) fun aa S => ?_
  refine sy_run ⟨0, []⟩ 60 S fun bs aa w S => ?_
  refine sy_cur (x' := ((y, false) :: l, none)) (v := .int .i64 r.1) S (Or.inl rfl) (rload_any02 w g (r :: (y, false) :: l, none) cell S.cur) (by kernel_rfl) (by simp) fun aa w S => ?_
  refine sy_run ⟨0, [4]⟩ 60 S fun bs aa w S => ?_
  refine sy_reg S fun S => ?_
  refine sy_ops 5 S fun bs aa w S => ?_
  refine sy_cond false S (decide_eq_false h1 : decide (r.1 = (IntKind.i64.wrap (me + 1))) = false) (by kernel_rfl) fun S => ?_
  refine sy_run ⟨0, [6]⟩ 60 S fun bs aa w S => ?_
  refine sy_reg S fun S => ?_
  refine sy_ops 3 S fun bs aa w S => ?_
  refine sy_cond true S (decide_eq_true h2 : decide (r.1 = 0) = true) (by kernel_rfl) fun S => ?_
  refine sy_run ⟨0, []⟩ 60 S fun bs aa w S => ?_
  refine sy_cur (x' := (l, none)) (v := .bool false) S (Or.inl rfl) (rcas_any02 w g ((y, false) :: l, none) cell 0 (IntKind.i64.wrap (me + 1)) S.cur) (by kernel_rfl) (by simp) fun aa w S => ?_
  refine sy_run ⟨0, [999]⟩ 60 S fun bs aa w S => ?_
  have S' := S.to [0, 1] (rts L me cell g a m) (by kernel_rfl) (by kernel_rfl) (by kernel_rfl) (by kernel_rfl) (by kernel_rfl)
  refine sy_at (k := .rnd (n + 1) (bodyL (rtc L me cell g a m)) :: (rtc L me cell g a m).k.tail) (by kernel_rfl) ?_
  exact ih l _ aa w hl (fun x hx => hI x (by simp [hx])) S'
set_option maxHeartbeats 8000000 in
theorem rk_lnone (w0 : World) (L : Ly) (hok : L.ok) (me cell : Int) (hm : decide (0 = (IntKind.i64.wrap (me + 1))) = false) (g : Nat) (a : Int) (m : Ct) (n : Nat) (r : Int × Bool) (l : List (Int × Bool)) (h1 : ¬ r.1 = (IntKind.i64.wrap (me + 1))) (h2 : ¬ r.1 = 0) (v : Int) (l' : List (Int × Bool)) (hX : refRun (resolveT L me (IntKind.i64.wrap (r.1 - 1)) true m) (l, none) = ({ val := v, lost := true }, (l', none))) (bs : List Nat) (aa : Act) (w : World) (hI : ∀ x ∈ (r :: l : List (Int × Bool)), I64 x.1) (S : Sy w0 (some g) bs (rts L me cell g a m) [rfCur g (r :: l, none)] aa w) : post Try.prog (.rnd (n + 1 + 1) (bodyL (rtc L me cell g a m)) :: (rtc L me cell g a m).k.tail) (bodyPost Try.prog Try.f64 (fun e w' => e = .returned (.bool (rtake L me cell m (n + 1) (r :: l)).1) ∧ CurAt w' g (rtake L me cell m (n + 1) (r :: l)).2 ∧ w0.grownBy w' (some g))) .normal aa w := by
  have e : rtake L me cell m (n + 1) (r :: l) = (false, (l', none)) := by rw [rtake_cons, if_neg h1, if_neg h2, hX]; simp
  refine sy_run (c := ⟨(.rnd (n + 1 + 1) (bodyL (rtc L me cell g a m)) :: (rtc L me cell g a m).k.tail), (rts L me cell g a m)⟩) ⟨0, []⟩ 60 S fun bs aa w S => ?_
  refine sy_ldf S (curAt_stop S.cur) (by kernel_rfl) fun aa S => ?_
  refine sy_run ⟨0, []⟩ 60 S fun bs aa w S => ?_
  refine sy_cur (x' := (l, none)) (v := .int .i64 r.1) S (Or.inl rfl) (rload_any02 w g (r :: l, none) cell S.cur) (by kernel_rfl) (by simp) fun aa w S => ?_
  refine sy_run ⟨0, [4]⟩ 60 S fun bs aa w S => ?_
  refine sy_reg S fun S => ?_
  refine sy_ops 5 S fun bs aa w S => ?_
  refine sy_cond false S (decide_eq_false h1 : decide (r.1 = (IntKind.i64.wrap (me + 1))) = false) (by kernel_rfl) fun S => ?_
  refine sy_run ⟨0, [6]⟩ 60 S fun bs aa w S => ?_
  refine sy_reg S fun S => ?_
  refine sy_ops 3 S fun bs aa w S => ?_
  refine sy_cond false S (decide_eq_false h2 : decide (r.1 = 0) = false) (by kernel_rfl) fun S => ?_
  refine sy_run ⟨0, []⟩ 60 S fun bs aa w S => ?_
  refine sy_cur (x' := (l', none)) (v := .tuple #[.int .i64 v, .bool true]) S (Or.inl rfl) (rask_at (w := w) hok S.cur (fun x hx => hI x (by simp [hx])) hX) (by kernel_rfl) (by simp) fun aa w S => ?_
  refine sy_run ⟨0, []⟩ 60 S fun bs aa w S => ?_
  exact sy_ret S (by kernel_rfl) (by kernel_rfl) fun hg => by rw [e]; exact ⟨rfl, S.cur, hg⟩
set_option maxHeartbeats 8000000 in
theorem rk_anone (w0 : World) (L : Ly) (hok : L.ok) (me cell : Int) (hm : decide (0 = (IntKind.i64.wrap (me + 1))) = false) (g : Nat) (a : Int) (m : Ct) (n : Nat) (r : Int × Bool) (l : List (Int × Bool)) (h1 : ¬ r.1 = (IntKind.i64.wrap (me + 1))) (h2 : ¬ r.1 = 0) (v : Int) (hv : v = 1) (l' : List (Int × Bool)) (hX : refRun (resolveT L me (IntKind.i64.wrap (r.1 - 1)) true m) (l, none) = ({ val := v, lost := false }, (l', none))) (bs : List Nat) (aa : Act) (w : World) (hI : ∀ x ∈ (r :: l : List (Int × Bool)), I64 x.1) (S : Sy w0 (some g) bs (rts L me cell g a m) [rfCur g (r :: l, none)] aa w) : post Try.prog (.rnd (n + 1 + 1) (bodyL (rtc L me cell g a m)) :: (rtc L me cell g a m).k.tail) (bodyPost Try.prog Try.f64 (fun e w' => e = .returned (.bool (rtake L me cell m (n + 1) (r :: l)).1) ∧ CurAt w' g (rtake L me cell m (n + 1) (r :: l)).2 ∧ w0.grownBy w' (some g))) .normal aa w := by
  have e : rtake L me cell m (n + 1) (r :: l) = (false, (l', none)) := by rw [rtake_cons, if_neg h1, if_neg h2, hX]; simp [hv]
  refine sy_run (c := ⟨(.rnd (n + 1 + 1) (bodyL (rtc L me cell g a m)) :: (rtc L me cell g a m).k.tail), (rts L me cell g a m)⟩) ⟨0, []⟩ 60 S fun bs aa w S => ?_
  refine sy_ldf S (curAt_stop S.cur) (by kernel_rfl) fun aa S => ?_
  refine sy_run ⟨0, []⟩ 60 S fun bs aa w S => ?_
  refine sy_cur (x' := (l, none)) (v := .int .i64 r.1) S (Or.inl rfl) (rload_any02 w g (r :: l, none) cell S.cur) (by kernel_rfl) (by simp) fun aa w S => ?_
  refine sy_run ⟨0, [4]⟩ 60 S fun bs aa w S => ?_
  refine sy_reg S fun S => ?_
  refine sy_ops 5 S fun bs aa w S => ?_
  refine sy_cond false S (decide_eq_false h1 : decide (r.1 = (IntKind.i64.wrap (me + 1))) = false) (by kernel_rfl) fun S => ?_
  refine sy_run ⟨0, [6]⟩ 60 S fun bs aa w S => ?_
  refine sy_reg S fun S => ?_
  refine sy_ops 3 S fun bs aa w S => ?_
  refine sy_cond false S (decide_eq_false h2 : decide (r.1 = 0) = false) (by kernel_rfl) fun S => ?_
  refine sy_run ⟨0, []⟩ 60 S fun bs aa w S => ?_
  refine sy_cur (x' := (l', none)) (v := .tuple #[.int .i64 v, .bool false]) S (Or.inl rfl) (rask_at (w := w) hok S.cur (fun x hx => hI x (by simp [hx])) hX) (by kernel_rfl) (by simp) fun aa w S => ?_
  refine sy_run ⟨0, [11]⟩ 60 S fun bs aa w S => ?_
  refine sy_reg S fun S => ?_
  refine sy_ops 6 S fun bs aa w S => ?_
  refine sy_cond true S (decide_eq_true hv : decide (v = 1) = true) (by kernel_rfl) fun S => ?_
  refine sy_run ⟨0, []⟩ 60 S fun bs aa w S => ?_
  exact sy_ret S (by kernel_rfl) (by kernel_rfl) fun hg => by rw [e]; exact ⟨rfl, S.cur, hg⟩
set_option maxHeartbeats 8000000 in
theorem rk_gnone (w0 : World) (L : Ly) (hok : L.ok) (me cell : Int) (hm : decide (0 = (IntKind.i64.wrap (me + 1))) = false) (g : Nat) (a : Int) (m : Ct) (n : Nat) (r : Int × Bool) (l : List (Int × Bool)) (h1 : ¬ r.1 = (IntKind.i64.wrap (me + 1))) (h2 : ¬ r.1 = 0) (v : Int) (hv : ¬ v = 1) (l' : List (Int × Bool)) (hX : refRun (resolveT L me (IntKind.i64.wrap (r.1 - 1)) true m) (l, none) = ({ val := v, lost := false }, (l', none))) (hl : l'.length < n) (hI' : ∀ x ∈ l', I64 x.1) (ih : ∀ (l : List (Int × Bool)) (bs : List Nat) (aa : Act) (w : World), l.length < n → (∀ x ∈ l, I64 x.1) → Sy w0 (some g) bs (rts L me cell g a m) [rfCur g (l, none)] aa w → post Try.prog (.rnd (n + 1) (bodyL (rtc L me cell g a m)) :: (rtc L me cell g a m).k.tail) (bodyPost Try.prog Try.f64 (fun e w' => e = .returned (.bool (rtake L me cell m n (l)).1) ∧ CurAt w' g (rtake L me cell m n (l)).2 ∧ w0.grownBy w' (some g))) .normal aa w) (bs : List Nat) (aa : Act) (w : World) (hI : ∀ x ∈ (r :: l : List (Int × Bool)), I64 x.1) (S : Sy w0 (some g) bs (rts L me cell g a m) [rfCur g (r :: l, none)] aa w) : post Try.prog (.rnd (n + 1 + 1) (bodyL (rtc L me cell g a m)) :: (rtc L me cell g a m).k.tail) (bodyPost Try.prog Try.f64 (fun e w' => e = .returned (.bool (rtake L me cell m (n + 1) (r :: l)).1) ∧ CurAt w' g (rtake L me cell m (n + 1) (r :: l)).2 ∧ w0.grownBy w' (some g))) .normal aa w := by
  have e : rtake L me cell m (n + 1) (r :: l) = rtake L me cell m n l' := by rw [rtake_cons, if_neg h1, if_neg h2, hX]; simp [hv]
  rw [e]
  refine sy_run (c := ⟨(.rnd (n + 1 + 1) (bodyL (rtc L me cell g a m)) :: (rtc L me cell g a m).k.tail), (rts L me cell g a m)⟩) ⟨0, []⟩ 60 S fun bs aa w S => ?_
  refine sy_ldf S (curAt_stop S.cur) (by kernel_rfl) fun aa S => ?_
  refine sy_run ⟨0, []⟩ 60 S fun bs aa w S => ?_
  refine sy_cur (x' := (l, none)) (v := .int .i64 r.1) S (Or.inl rfl) (rload_any02 w g (r :: l, none) cell S.cur) (by kernel_rfl) (by simp) fun aa w S => ?_
  refine sy_run ⟨0, [4]⟩ 60 S fun bs aa w S => ?_
  refine sy_reg S fun S => ?_
  refine sy_ops 5 S fun bs aa w S => ?_
  refine sy_cond false S (decide_eq_false h1 : decide (r.1 = (IntKind.i64.wrap (me + 1))) = false) (by kernel_rfl) fun S => ?_
  refine sy_run ⟨0, [6]⟩ 60 S fun bs aa w S => ?_
  refine sy_reg S fun S => ?_
  refine sy_ops 3 S fun bs aa w S => ?_
  refine sy_cond false S (decide_eq_false h2 : decide (r.1 = 0) = false) (by kernel_rfl) fun S => ?_
  refine sy_run ⟨0, []⟩ 60 S fun bs aa w S => ?_
  refine sy_cur (x' := (l', none)) (v := .tuple #[.int .i64 v, .bool false]) S (Or.inl rfl) (rask_at (w := w) hok S.cur (fun x hx => hI x (by simp [hx])) hX) (by kernel_rfl) (by simp) fun aa w S => ?_
  refine sy_run ⟨0, [11]⟩ 60 S fun bs aa w S => ?_
  refine sy_reg S fun S => ?_
  refine sy_ops 6 S fun bs aa w S => ?_
  refine sy_cond false S (decide_eq_false hv : decide (v = 1) = false) (by kernel_rfl) fun S => ?_
  refine sy_run ⟨0, [999]⟩ 60 S fun bs aa w S => ?_
  have S' := S.to [0, 1] (rts L me cell g a m) (by kernel_rfl) (by kernel_rfl) (by kernel_rfl) (by kernel_rfl) (by kernel_rfl)
  refine sy_at (k := .rnd (n + 1) (bodyL (rtc L me cell g a m)) :: (rtc L me cell g a m).k.tail) (by kernel_rfl) ?_
  exact ih l' _ aa w hl hI' S'
set_option maxHeartbeats 8000000 in
theorem rk_lsome (w0 : World) (L : Ly) (hok : L.ok) (me cell : Int) (hm : decide (0 = (IntKind.i64.wrap (me + 1))) = false) (g : Nat) (a : Int) (m : Ct) (n : Nat) (r : Int × Bool) (l : List (Int × Bool)) (h1 : ¬ r.1 = (IntKind.i64.wrap (me + 1))) (h2 : ¬ r.1 = 0) (v : Int) (l' : List (Int × Bool)) (q : Ask) (hX : refRun (resolveT L me (IntKind.i64.wrap (r.1 - 1)) true m) (l, none) = ({ val := v, lost := true }, (l', some q))) (bs : List Nat) (aa : Act) (w : World) (hI : ∀ x ∈ (r :: l : List (Int × Bool)), I64 x.1) (S : Sy w0 (some g) bs (rts L me cell g a m) [rfCur g (r :: l, none)] aa w) : post Try.prog (.rnd (n + 1 + 1) (bodyL (rtc L me cell g a m)) :: (rtc L me cell g a m).k.tail) (bodyPost Try.prog Try.f64 (fun e w' => e = .returned (.bool (rtake L me cell m (n + 1) (r :: l)).1) ∧ CurAt w' g (rtake L me cell m (n + 1) (r :: l)).2 ∧ w0.grownBy w' (some g))) .normal aa w := by
  have e : rtake L me cell m (n + 1) (r :: l) = (false, (l', some q)) := by rw [rtake_cons, if_neg h1, if_neg h2, hX]
  refine sy_run (c := ⟨(.rnd (n + 1 + 1) (bodyL (rtc L me cell g a m)) :: (rtc L me cell g a m).k.tail), (rts L me cell g a m)⟩) ⟨0, []⟩ 60 S fun bs aa w S => ?_
  refine sy_ldf S (curAt_stop S.cur) (by kernel_rfl) fun aa S => ?_
  refine sy_run ⟨0, []⟩ 60 S fun bs aa w S => ?_
  refine sy_cur (x' := (l, none)) (v := .int .i64 r.1) S (Or.inl rfl) (rload_any02 w g (r :: l, none) cell S.cur) (by kernel_rfl) (by simp) fun aa w S => ?_
  refine sy_run ⟨0, [4]⟩ 60 S fun bs aa w S => ?_
  refine sy_reg S fun S => ?_
  refine sy_ops 5 S fun bs aa w S => ?_
  refine sy_cond false S (decide_eq_false h1 : decide (r.1 = (IntKind.i64.wrap (me + 1))) = false) (by kernel_rfl) fun S => ?_
  refine sy_run ⟨0, [6]⟩ 60 S fun bs aa w S => ?_
  refine sy_reg S fun S => ?_
  refine sy_ops 3 S fun bs aa w S => ?_
  refine sy_cond false S (decide_eq_false h2 : decide (r.1 = 0) = false) (by kernel_rfl) fun S => ?_
  refine sy_run ⟨0, []⟩ 60 S fun bs aa w S => ?_
  refine sy_cur (x' := (l', some q)) (v := .tuple #[.int .i64 v, .bool true]) S (Or.inl rfl) (rask_at (w := w) hok S.cur (fun x hx => hI x (by simp [hx])) hX) (by kernel_rfl) (by simp) fun aa w S => ?_
  refine sy_run ⟨0, []⟩ 60 S fun bs aa w S => ?_
  exact sy_ret S (by kernel_rfl) (by kernel_rfl) fun hg => by rw [e]; exact ⟨rfl, S.cur, hg⟩
set_option maxHeartbeats 8000000 in
theorem rk_asome (w0 : World) (L : Ly) (hok : L.ok) (me cell : Int) (hm : decide (0 = (IntKind.i64.wrap (me + 1))) = false) (g : Nat) (a : Int) (m : Ct) (n : Nat) (r : Int × Bool) (l : List (Int × Bool)) (h1 : ¬ r.1 = (IntKind.i64.wrap (me + 1))) (h2 : ¬ r.1 = 0) (v : Int) (hv : v = 1) (l' : List (Int × Bool)) (q : Ask) (hX : refRun (resolveT L me (IntKind.i64.wrap (r.1 - 1)) true m) (l, none) = ({ val := v, lost := false }, (l', some q))) (bs : List Nat) (aa : Act) (w : World) (hI : ∀ x ∈ (r :: l : List (Int × Bool)), I64 x.1) (S : Sy w0 (some g) bs (rts L me cell g a m) [rfCur g (r :: l, none)] aa w) : post Try.prog (.rnd (n + 1 + 1) (bodyL (rtc L me cell g a m)) :: (rtc L me cell g a m).k.tail) (bodyPost Try.prog Try.f64 (fun e w' => e = .returned (.bool (rtake L me cell m (n + 1) (r :: l)).1) ∧ CurAt w' g (rtake L me cell m (n + 1) (r :: l)).2 ∧ w0.grownBy w' (some g))) .normal aa w := by
  have e : rtake L me cell m (n + 1) (r :: l) = (false, (l', some q)) := by rw [rtake_cons, if_neg h1, if_neg h2, hX]
  refine sy_run (c := ⟨(.rnd (n + 1 + 1) (bodyL (rtc L me cell g a m)) :: (rtc L me cell g a m).k.tail), (rts L me cell g a m)⟩) ⟨0, []⟩ 60 S fun bs aa w S => ?_
  refine sy_ldf S (curAt_stop S.cur) (by kernel_rfl) fun aa S => ?_
  refine sy_run ⟨0, []⟩ 60 S fun bs aa w S => ?_
  refine sy_cur (x' := (l, none)) (v := .int .i64 r.1) S (Or.inl rfl) (rload_any02 w g (r :: l, none) cell S.cur) (by kernel_rfl) (by simp) fun aa w S => ?_
  refine sy_run ⟨0, [4]⟩ 60 S fun bs aa w S => ?_
  refine sy_reg S fun S => ?_
  refine sy_ops 5 S fun bs aa w S => ?_
  refine sy_cond false S (decide_eq_false h1 : decide (r.1 = (IntKind.i64.wrap (me + 1))) = false) (by kernel_rfl) fun S => ?_
  refine sy_run ⟨0, [6]⟩ 60 S fun bs aa w S => ?_
  refine sy_reg S fun S => ?_
  refine sy_ops 3 S fun bs aa w S => ?_
  refine sy_cond false S (decide_eq_false h2 : decide (r.1 = 0) = false) (by kernel_rfl) fun S => ?_
  refine sy_run ⟨0, []⟩ 60 S fun bs aa w S => ?_
  refine sy_cur (x' := (l', some q)) (v := .tuple #[.int .i64 v, .bool false]) S (Or.inl rfl) (rask_at (w := w) hok S.cur (fun x hx => hI x (by simp [hx])) hX) (by kernel_rfl) (by simp) fun aa w S => ?_
  refine sy_run ⟨0, [11]⟩ 60 S fun bs aa w S => ?_
  refine sy_reg S fun S => ?_
  refine sy_ops 6 S fun bs aa w S => ?_
  refine sy_cond true S (decide_eq_true hv : decide (v = 1) = true) (by kernel_rfl) fun S => ?_
  refine sy_run ⟨0, []⟩ 60 S fun bs aa w S => ?_
  exact sy_ret S (by kernel_rfl) (by kernel_rfl) fun hg => by rw [e]; exact ⟨rfl, S.cur, hg⟩
set_option maxHeartbeats 8000000 in
theorem rk_gsome (w0 : World) (L : Ly) (hok : L.ok) (me cell : Int) (hm : decide (0 = (IntKind.i64.wrap (me + 1))) = false) (g : Nat) (a : Int) (m : Ct) (n : Nat) (r : Int × Bool) (l : List (Int × Bool)) (h1 : ¬ r.1 = (IntKind.i64.wrap (me + 1))) (h2 : ¬ r.1 = 0) (v : Int) (hv : ¬ v = 1) (l' : List (Int × Bool)) (q : Ask) (hX : refRun (resolveT L me (IntKind.i64.wrap (r.1 - 1)) true m) (l, none) = ({ val := v, lost := false }, (l', some q))) (bs : List Nat) (aa : Act) (w : World) (hI : ∀ x ∈ (r :: l : List (Int × Bool)), I64 x.1) (S : Sy w0 (some g) bs (rts L me cell g a m) [rfCur g (r :: l, none)] aa w) : post Try.prog (.rnd (n + 1 + 1) (bodyL (rtc L me cell g a m)) :: (rtc L me cell g a m).k.tail) (bodyPost Try.prog Try.f64 (fun e w' => e = .returned (.bool (rtake L me cell m (n + 1) (r :: l)).1) ∧ CurAt w' g (rtake L me cell m (n + 1) (r :: l)).2 ∧ w0.grownBy w' (some g))) .normal aa w := by
  have e : rtake L me cell m (n + 1) (r :: l) = (false, (l', some q)) := by rw [rtake_cons, if_neg h1, if_neg h2, hX]
  refine sy_run (c := ⟨(.rnd (n + 1 + 1) (bodyL (rtc L me cell g a m)) :: (rtc L me cell g a m).k.tail), (rts L me cell g a m)⟩) ⟨0, []⟩ 60 S fun bs aa w S => ?_
  refine sy_ldf S (curAt_stop S.cur) (by kernel_rfl) fun aa S => ?_
  refine sy_run ⟨0, []⟩ 60 S fun bs aa w S => ?_
  refine sy_cur (x' := (l, none)) (v := .int .i64 r.1) S (Or.inl rfl) (rload_any02 w g (r :: l, none) cell S.cur) (by kernel_rfl) (by simp) fun aa w S => ?_
  refine sy_run ⟨0, [4]⟩ 60 S fun bs aa w S => ?_
  refine sy_reg S fun S => ?_
  refine sy_ops 5 S fun bs aa w S => ?_
  refine sy_cond false S (decide_eq_false h1 : decide (r.1 = (IntKind.i64.wrap (me + 1))) = false) (by kernel_rfl) fun S => ?_
  refine sy_run ⟨0, [6]⟩ 60 S fun bs aa w S => ?_
  refine sy_reg S fun S => ?_
  refine sy_ops 3 S fun bs aa w S => ?_
  refine sy_cond false S (decide_eq_false h2 : decide (r.1 = 0) = false) (by kernel_rfl) fun S => ?_
  refine sy_run ⟨0, []⟩ 60 S fun bs aa w S => ?_
  refine sy_cur (x' := (l', some q)) (v := .tuple #[.int .i64 v, .bool false]) S (Or.inl rfl) (rask_at (w := w) hok S.cur (fun x hx => hI x (by simp [hx])) hX) (by kernel_rfl) (by simp) fun aa w S => ?_
  refine sy_run ⟨0, [11]⟩ 60 S fun bs aa w S => ?_
  refine sy_reg S fun S => ?_
  refine sy_ops 6 S fun bs aa w S => ?_
  refine sy_cond false S (decide_eq_false hv : decide (v = 1) = false) (by kernel_rfl) fun S => ?_
  refine sy_run ⟨0, []⟩ 60 S fun bs aa w S => ?_
  refine sy_ldf S (curAt_stop S.cur) (by kernel_rfl) fun aa S => ?_
  refine sy_run ⟨0, []⟩ 60 S fun bs aa w S => ?_
  exact sy_ret S (by kernel_rfl) (by kernel_rfl) fun hg => by rw [e]; exact ⟨rfl, S.cur, hg⟩
theorem rk_all (w0 : World) (L : Ly) (hok : L.ok) (me cell : Int) (hm : decide (0 = (IntKind.i64.wrap (me + 1))) = false) (g : Nat) (a : Int) (m : Ct) : ∀ (n : Nat), ∀ (l : List (Int × Bool)) (bs : List Nat) (aa : Act) (w : World), l.length < n → (∀ x ∈ l, I64 x.1) → Sy w0 (some g) bs (rts L me cell g a m) [rfCur g (l, none)] aa w → post Try.prog (.rnd (n + 1) (bodyL (rtc L me cell g a m)) :: (rtc L me cell g a m).k.tail) (bodyPost Try.prog Try.f64 (fun e w' => e = .returned (.bool (rtake L me cell m n (l)).1) ∧ CurAt w' g (rtake L me cell m n (l)).2 ∧ w0.grownBy w' (some g))) .normal aa w := by
  intro n
  induction n with
  | zero => intro l bs aa w h; omega
  | succ n ih =>
    intro l bs aa w hl hI S
    rcases l with _ | ⟨r, l⟩
    · exact rk_0 w0 L hok me cell hm g a m n bs aa w hI S
    · by_cases h1 : r.1 = (IntKind.i64.wrap (me + 1))
      · exact rk_me w0 L hok me cell hm g a m n r l h1 bs aa w hI S
      · by_cases h2 : r.1 = 0
        · rcases l with _ | ⟨⟨y, b⟩, l⟩
          · exact rk_c0 w0 L hok me cell hm g a m n r h1 h2 bs aa w hI S
          · cases b with
            | true => exact rk_ct w0 L hok me cell hm g a m n r y l (by simp at hl; omega) h1 h2 bs aa w hI S
            | false => exact rk_cf w0 L hok me cell hm g a m n r y l (by simp at hl; omega) h1 h2 ih bs aa w hI S
        · have hl' : l.length < n := by simp at hl; omega
          obtain ⟨v, b, ho⟩ := refRun_all (resolveT L me (IntKind.i64.wrap (r.1 - 1)) true m) (l, none) (resolve_all L me (IntKind.i64.wrap (r.1 - 1)) m)
          obtain ⟨⟨o, l', q⟩, hX⟩ : ∃ X, refRun (resolveT L me (IntKind.i64.wrap (r.1 - 1)) true m) (l, none) = X := ⟨_, rfl⟩
          rw [hX] at ho
          simp only at ho
          subst ho
          have hq : q = none → (resolveT L me (IntKind.i64.wrap (r.1 - 1)) true m).rest l = l' := by
            intro hq
            subst hq
            cases hr : (resolveT L me (IntKind.i64.wrap (r.1 - 1)) true m).run l with
            | inl a => have := refRun_inl _ _ _ hr; rw [hX] at this; cases this
            | inr o => have := refRun_inr _ _ _ hr; rw [hX] at this; cases this; rfl
          cases q with
          | none =>
            have hq := hq rfl
            cases b with
            | true => exact rk_lnone w0 L hok me cell hm g a m n r l h1 h2 v l' hX bs aa w hI S
            | false =>
              by_cases hv : v = 1
              · exact rk_anone w0 L hok me cell hm g a m n r l h1 h2 v hv l' hX bs aa w hI S
              · exact rk_gnone w0 L hok me cell hm g a m n r l h1 h2 v hv l' hX (by rw [← hq]; exact Nat.lt_of_le_of_lt (rest_le _ _) hl') (by rw [← hq]; exact fun x hx => hI x (by simp [rest_mem _ _ x hx])) ih bs aa w hI S
          | some q =>
            cases b with
            | true => exact rk_lsome w0 L hok me cell hm g a m n r l h1 h2 v l' q hX bs aa w hI S
            | false =>
              by_cases hv : v = 1
              · exact rk_asome w0 L hok me cell hm g a m n r l h1 h2 v hv l' q hX bs aa w hI S
              · exact rk_gsome w0 L hok me cell hm g a m n r l h1 h2 v hv l' q hX bs aa w hI S
set_option maxHeartbeats 4000000 in
theorem rtake_any (w0 : World) (g : Nat) (L : Ly) (hok : L.ok) (me : Int) (hm : decide (0 = (IntKind.i64.wrap (me + 1))) = false) (a : Int) (m : Ct) (l : List (Int × Bool)) (hI : ∀ x ∈ l, I64 x.1) (hR : CurAt w0 g (l, none)) : Calls Try.prog 64 #[.pointer (some ⟨g, 0, none⟩), L.v, .int .i64 me, .int .i64 a, m.v] w0 (fun e w' => e = .returned (.bool (rtake L me (atLock L a) m (l.length + 1) l).1) ∧ CurAt w' g (rtake L me (atLock L a) m (l.length + 1) l).2 ∧ w0.grownBy w' (some g)) := by
  refine sy_enterF (some g) [rfCur g (l, none)] (by intro f hf; simp at hf; subst hf; exact hR) Try.func64 rfl fun aa S => ?_
  refine sy_run ⟨0, []⟩ 50 S fun bs aa w1 S => ?_
  refine sy_call1 S (rlock_any L a w1 hok) (by kernel_rfl) fun aa w1 hb S => ?_
  refine sy_run ⟨0, []⟩ 50 S fun bs aa w1 S => ?_
  have S' := S.to [0, 1] (rts L me (atLock L a) g a m) (by kernel_rfl) (by kernel_rfl) (by kernel_rfl) (by kernel_rfl) (by kernel_rfl)
  refine sy_loop (l.length + 1 + 1) (by kernel_rfl) ?_
  exact rk_all w0 L hok me (atLock L a) hm g a m (l.length + 1) l _ aa w1 (by omega) hI S'
end Go.Proofs.Ytdfngmplfgifiaa


/-
  Layer 20: the reference's next access of an operation on an abstract lock.
-/
namespace Go.Proofs.Ytdfngmplfgifiaa
open Go Go.RowKit SX
set_option linter.unusedVariables false
set_option maxRecDepth 100000
attribute [local irreducible] post GD

set_option maxHeartbeats 4000000 in
theorem ranext_lo (w : World) (L : Ly) (hok : L.ok) (me : Int) (kind a b ty : Int) (m : Ct) (sa wa da : Option Addr) (sl sc wl wc dl dc : Nat) (la : Option Addr) (lc : Nat) (l : List (Int × Bool)) (hv : LogOf w (.slice la l.length lc) l) (hc : decide (atLock L a < 0) = true) : Calls Try.prog 31 #[L.v, .int .i64 me, .agg #[.int .i64 kind, .int .i64 a, .int .i64 b, .int .i64 ty, .int .i64 m.s, .int .i64 m.k, .int .i64 m.a, .slice sa sl sc, .slice wa wl wc, .slice da dl dc], .slice la l.length lc] w fun e w' => e = .returned (nextV (.inr { err := 1 })) ∧ Below w.heap.size w w' := by
  refine sy_enterF none [rfLog (.slice la l.length lc) l] (by intro f hf; simp at hf; subst hf; exact hv) Try.func31 rfl fun aa S => ?_
  refine sy_run ⟨0, []⟩ 80 S fun bs aa w1 S => ?_
  refine sy_call1 S (rlock_any L a w1 hok) (by kernel_rfl) fun aa w2 hb S => ?_
  refine sy_run ⟨0, [3]⟩ 80 S fun bs aa w1 S => ?_
  refine sy_reg S fun S => ?_
  refine sy_ops 2 S fun bs aa w1 S => ?_
  refine sy_cast 22 S (congrArg Value.bool hc) (by kernel_rfl) fun S => ?_
  refine sy_run ⟨0, []⟩ 80 S fun bs aa w1 S => ?_
  exact sy_ret S (by kernel_rfl) (by kernel_rfl) fun g => ⟨rfl, below_of_gr g⟩
set_option maxHeartbeats 4000000 in
theorem ranext_no (w : World) (L : Ly) (hok : L.ok) (me : Int) (kind a b ty : Int) (m : Ct) (sa wa da : Option Addr) (sl sc wl wc dl dc : Nat) (la : Option Addr) (lc : Nat) (l : List (Int × Bool)) (hv : LogOf w (.slice la l.length lc) l) (hc : decide (atLock L a < 0) = false) (n7 : (!decide (kind = 7)) = true) (n8 : (!decide (kind = 8)) = true) : Calls Try.prog 31 #[L.v, .int .i64 me, .agg #[.int .i64 kind, .int .i64 a, .int .i64 b, .int .i64 ty, .int .i64 m.s, .int .i64 m.k, .int .i64 m.a, .slice sa sl sc, .slice wa wl wc, .slice da dl dc], .slice la l.length lc] w fun e w' => e = .returned (nextV (.inr { err := 1 })) ∧ Below w.heap.size w w' := by
  refine sy_enterF none [rfLog (.slice la l.length lc) l] (by intro f hf; simp at hf; subst hf; exact hv) Try.func31 rfl fun aa S => ?_
  refine sy_run ⟨0, []⟩ 80 S fun bs aa w1 S => ?_
  refine sy_call1 S (rlock_any L a w1 hok) (by kernel_rfl) fun aa w2 hb S => ?_
  refine sy_run ⟨0, [3]⟩ 80 S fun bs aa w1 S => ?_
  refine sy_reg S fun S => ?_
  refine sy_ops 2 S fun bs aa w1 S => ?_
  refine sy_cast 22 S (congrArg Value.bool hc) (by kernel_rfl) fun S => ?_
  refine sy_ops 4 S fun bs aa w1 S => ?_
  refine sy_cast 26 S (congrArg Value.bool n7) (by kernel_rfl) fun S => ?_
  refine sy_ops 4 S fun bs aa w1 S => ?_
  refine sy_cast 30 S (congrArg Value.bool n8) (by kernel_rfl) fun S => ?_
  refine sy_run ⟨0, []⟩ 80 S fun bs aa w1 S => ?_
  exact sy_ret S (by kernel_rfl) (by kernel_rfl) fun g => ⟨rfl, below_of_gr g⟩
set_option maxHeartbeats 4000000 in
theorem ranext_take (w : World) (L : Ly) (hok : L.ok) (me : Int) (kind a b ty : Int) (m : Ct) (sa wa da : Option Addr) (sl sc wl wc dl dc : Nat) (la : Option Addr) (lc : Nat) (l : List (Int × Bool)) (hv : LogOf w (.slice la l.length lc) l) (hI : ∀ x ∈ l, I64 x.1) (hl : l.length ≤ 1000000) (hm : decide (0 = IntKind.i64.wrap (me + 1)) = false) (hc : decide (atLock L a < 0) = false) (n7 : (!decide (kind = 7)) = false) (h8 : decide (kind = 8) = false) (x : Ask ⊕ OutD) (hx : (takeT L me (atLock L a) m (l.length + 1)).run l = x) : Calls Try.prog 31 #[L.v, .int .i64 me, .agg #[.int .i64 kind, .int .i64 a, .int .i64 b, .int .i64 ty, .int .i64 m.s, .int .i64 m.k, .int .i64 m.a, .slice sa sl sc, .slice wa wl wc, .slice da dl dc], .slice la l.length lc] w fun e w' => e = .returned (nextV x) ∧ Below w.heap.size w w' := by
  have hT : toldX ({ ok := (rtake L me (atLock L a) m (l.length + 1) l).1, lost := !(rtake L me (atLock L a) m (l.length + 1) l).1 }, (rtake L me (atLock L a) m (l.length + 1) l).2) = (takeT L me (atLock L a) m (l.length + 1)).run l := rtake_told L me _ m _ l (by omega)
  refine sy_enterF none [rfLog (.slice la l.length lc) l] (by intro f hf; simp at hf; subst hf; exact hv) Try.func31 rfl fun aa S => ?_
  refine sy_run ⟨0, []⟩ 80 S fun bs aa w1 S => ?_
  refine sy_call1 S (rlock_any L a w1 hok) (by kernel_rfl) fun aa w2 hb S => ?_
  refine sy_run ⟨0, [3]⟩ 80 S fun bs aa w1 S => ?_
  refine sy_reg S fun S => ?_
  refine sy_ops 2 S fun bs aa w1 S => ?_
  refine sy_cast 22 S (congrArg Value.bool hc) (by kernel_rfl) fun S => ?_
  refine sy_ops 4 S fun bs aa w1 S => ?_
  refine sy_cast 26 S (congrArg Value.bool n7) (by kernel_rfl) fun S => ?_
  refine sy_run ⟨0, [5]⟩ 80 S fun bs aa w1 S => ?_
  refine sy_reg S fun S => ?_
  refine sy_ops 4 S fun bs aa w1 S => ?_
  refine sy_cond false S (h8 : decide (kind = 8) = false) (by kernel_rfl) fun S => ?_
  refine sy_run ⟨0, []⟩ 80 S fun bs aa w1 S => ?_
  refine sy_reify 11 4 0 S (by kernel_rfl) fun S => ?_
  refine sy_reify 47 4 0 S (by kernel_rfl) fun S => ?_
  have hC0 := cur_box S 4 (by kernel_rfl) hv (S.fact (f := rfLog (.slice la l.length lc) l) (by simp)) hl
  have hg := own_ge4 S (by kernel_rfl)
  have hnd := own_ne4 S (by kernel_rfl)
  refine sy_less [0, 1, 2, 3] S (by kernel_rfl) (by kernel_rfl) (by kernel_rfl) (by kernel_rfl) fun S => ?_
  refine sy_callG S (Or.inr hg) (X := Unit) (val := fun _ => .bool (rtake L me (atLock L a) m (l.length + 1) l).1) (C := fun _ w' => CurAt w' _ ((rtake L me (atLock L a) m (l.length + 1) l).2)) ((rtake_any w1 _ L hok me hm a m l hI hC0).mono fun e w' h => ⟨(), h⟩) (by kernel_rfl) [] (by simp) (by
    intro i hi he
    have hi4 : i < 4 := by simpa using hi
    refine hnd i hi4 ?_
    rw [← he]
    match i, hi4 with
    | 0, _ => rfl
    | 1, _ => rfl
    | 2, _ => rfl
    | 3, _ => rfl) fun _ aa w hC hgr S => ?_
  generalize hgg : List.getD _ 4 0 = g at hC S
  refine sy_quiet (O := ⟨0, []⟩) 40 S fun aa S => ?_
  cases x with
  | inl o =>
    refine sy_call1 S (by rw [← hx, ← hT]; exact rtold_any w g ((rtake L me (atLock L a) m (l.length + 1) l).2) { ok := (rtake L me (atLock L a) m (l.length + 1) l).1, lost := !(rtake L me (atLock L a) m (l.length + 1) l).1 } hC : Calls Try.prog 49 #[.pointer (some ⟨g, 0, none⟩), ({ ok := (rtake L me (atLock L a) m (l.length + 1) l).1, lost := !(rtake L me (atLock L a) m (l.length + 1) l).1 } : OutD).v] w fun e w' => e = .returned (nextV (.inl o)) ∧ Below w.heap.size w w') (by kernel_rfl) fun aa w2 hb S => ?_
    refine sy_run ⟨0, []⟩ 80 S fun bs aa w1 S => ?_
    exact sy_ret S (by kernel_rfl) (by kernel_rfl) fun g => ⟨rfl, below_of_gr g⟩
  | inr o =>
    refine sy_call1 S (by rw [← hx, ← hT]; exact rtold_any w g ((rtake L me (atLock L a) m (l.length + 1) l).2) { ok := (rtake L me (atLock L a) m (l.length + 1) l).1, lost := !(rtake L me (atLock L a) m (l.length + 1) l).1 } hC : Calls Try.prog 49 #[.pointer (some ⟨g, 0, none⟩), ({ ok := (rtake L me (atLock L a) m (l.length + 1) l).1, lost := !(rtake L me (atLock L a) m (l.length + 1) l).1 } : OutD).v] w fun e w' => e = .returned (nextV (.inr o)) ∧ Below w.heap.size w w') (by kernel_rfl) fun aa w2 hb S => ?_
    refine sy_run ⟨0, []⟩ 80 S fun bs aa w1 S => ?_
    exact sy_ret S (by kernel_rfl) (by kernel_rfl) fun g => ⟨rfl, below_of_gr g⟩
set_option maxHeartbeats 4000000 in
theorem ranext_give (w : World) (L : Ly) (hok : L.ok) (me : Int) (kind a b ty : Int) (m : Ct) (sa wa da : Option Addr) (sl sc wl wc dl dc : Nat) (la : Option Addr) (lc : Nat) (l : List (Int × Bool)) (hv : LogOf w (.slice la l.length lc) l) (hl : l.length ≤ 1000000) (hc : decide (atLock L a < 0) = false) (n7 : (!decide (kind = 7)) = true) (n8 : (!decide (kind = 8)) = false) (h8 : decide (kind = 8) = true) (x : Ask ⊕ OutD) (hx : (Tree.ask ⟨2, atLock L a, 0, 0⟩ fun _ => .ret { ok := true }).run l = x) : Calls Try.prog 31 #[L.v, .int .i64 me, .agg #[.int .i64 kind, .int .i64 a, .int .i64 b, .int .i64 ty, .int .i64 m.s, .int .i64 m.k, .int .i64 m.a, .slice sa sl sc, .slice wa wl wc, .slice da dl dc], .slice la l.length lc] w fun e w' => e = .returned (nextV x) ∧ Below w.heap.size w w' := by
  have hT : toldX ({ ok := true }, (cdo (l, none) ⟨2, atLock L a, 0, 0⟩).2) = (Tree.ask ⟨2, atLock L a, 0, 0⟩ fun _ => .ret { ok := true }).run l := told_run (Tree.ask ⟨2, atLock L a, 0, 0⟩ fun _ => .ret { ok := true }) l
  refine sy_enterF none [rfLog (.slice la l.length lc) l] (by intro f hf; simp at hf; subst hf; exact hv) Try.func31 rfl fun aa S => ?_
  refine sy_run ⟨0, []⟩ 80 S fun bs aa w1 S => ?_
  refine sy_call1 S (rlock_any L a w1 hok) (by kernel_rfl) fun aa w2 hb S => ?_
  refine sy_run ⟨0, [3]⟩ 80 S fun bs aa w1 S => ?_
  refine sy_reg S fun S => ?_
  refine sy_ops 2 S fun bs aa w1 S => ?_
  refine sy_cast 22 S (congrArg Value.bool hc) (by kernel_rfl) fun S => ?_
  refine sy_ops 4 S fun bs aa w1 S => ?_
  refine sy_cast 26 S (congrArg Value.bool n7) (by kernel_rfl) fun S => ?_
  refine sy_ops 4 S fun bs aa w1 S => ?_
  refine sy_cast 30 S (congrArg Value.bool n8) (by kernel_rfl) fun S => ?_
  refine sy_run ⟨0, [5]⟩ 80 S fun bs aa w1 S => ?_
  refine sy_reg S fun S => ?_
  refine sy_ops 4 S fun bs aa w1 S => ?_
  refine sy_cond true S (h8 : decide (kind = 8) = true) (by kernel_rfl) fun S => ?_
  refine sy_run ⟨0, []⟩ 80 S fun bs aa w1 S => ?_
  refine sy_reify 11 4 0 S (by kernel_rfl) fun S => ?_
  refine sy_reify 38 4 0 S (by kernel_rfl) fun S => ?_
  have hC0 := cur_box S 4 (by kernel_rfl) hv (S.fact (f := rfLog (.slice la l.length lc) l) (by simp)) hl
  have hg := own_ge4 S (by kernel_rfl)
  have hnd := own_ne4 S (by kernel_rfl)
  refine sy_less [0, 1, 2, 3] S (by kernel_rfl) (by kernel_rfl) (by kernel_rfl) (by kernel_rfl) fun S => ?_
  refine sy_callG S (Or.inr hg) (X := Unit) (val := fun _ => .tuple #[]) (C := fun _ w' => CurAt w' _ ((cdo (l, none) ⟨2, atLock L a, 0, 0⟩).2)) ((rstore_any02 w1 _ (l, none) (atLock L a) 0 hC0).mono fun e w' h => ⟨(), h⟩) (by kernel_rfl) [] (by simp) (by
    intro i hi he
    have hi4 : i < 4 := by simpa using hi
    refine hnd i hi4 ?_
    rw [← he]
    match i, hi4 with
    | 0, _ => rfl
    | 1, _ => rfl
    | 2, _ => rfl
    | 3, _ => rfl) fun _ aa w hC hgr S => ?_
  generalize hgg : List.getD _ 4 0 = g at hC S
  refine sy_quiet (O := ⟨0, []⟩) 40 S fun aa S => ?_
  cases x with
  | inl o =>
    refine sy_call1 S (by rw [← hx, ← hT]; exact rtold_any w g ((cdo (l, none) ⟨2, atLock L a, 0, 0⟩).2) { ok := true } hC : Calls Try.prog 49 #[.pointer (some ⟨g, 0, none⟩), ({ ok := true } : OutD).v] w fun e w' => e = .returned (nextV (.inl o)) ∧ Below w.heap.size w w') (by kernel_rfl) fun aa w2 hb S => ?_
    refine sy_run ⟨0, []⟩ 80 S fun bs aa w1 S => ?_
    exact sy_ret S (by kernel_rfl) (by kernel_rfl) fun g => ⟨rfl, below_of_gr g⟩
  | inr o =>
    refine sy_call1 S (by rw [← hx, ← hT]; exact rtold_any w g ((cdo (l, none) ⟨2, atLock L a, 0, 0⟩).2) { ok := true } hC : Calls Try.prog 49 #[.pointer (some ⟨g, 0, none⟩), ({ ok := true } : OutD).v] w fun e w' => e = .returned (nextV (.inr o)) ∧ Below w.heap.size w w') (by kernel_rfl) fun aa w2 hb S => ?_
    refine sy_run ⟨0, []⟩ 80 S fun bs aa w1 S => ?_
    exact sy_ret S (by kernel_rfl) (by kernel_rfl) fun g => ⟨rfl, below_of_gr g⟩
theorem ranext_any (w : World) (L : Ly) (hok : L.ok) (me : Int) (kind a b ty : Int) (m : Ct) (sa wa da : Option Addr) (sl sc wl wc dl dc : Nat) (v : Value) (l : List (Int × Bool)) (hv : LogOf w v l) (hI : ∀ x ∈ l, I64 x.1) (hl : l.length ≤ 1000000) (hm : decide (0 = IntKind.i64.wrap (me + 1)) = false) : Calls Try.prog 31 #[L.v, .int .i64 me, .agg #[.int .i64 kind, .int .i64 a, .int .i64 b, .int .i64 ty, .int .i64 m.s, .int .i64 m.k, .int .i64 m.a, .slice sa sl sc, .slice wa wl wc, .slice da dl dc], v] w fun e w' => e = .returned (nextV ((absT L me kind a m (l.length + 1)).run l)) ∧ Below w.heap.size w w' := by
  obtain ⟨la, lc, rfl, hrest⟩ := id hv
  unfold absT
  by_cases hc : atLock L a < 0
  · rw [if_pos hc, trun_ret]; exact ranext_lo w L hok me kind a b ty m sa wa da sl sc wl wc dl dc la lc l hv (decide_eq_true hc)
  · rw [if_neg hc]
    by_cases h7 : kind = 7
    · rw [if_pos h7]; exact ranext_take w L hok me kind a b ty m sa wa da sl sc wl wc dl dc la lc l hv hI hl hm (decide_eq_false hc) (by simp [h7]) (by simp [h7]) _ rfl
    · rw [if_neg h7]
      by_cases h8 : kind = 8
      · rw [if_pos h8]; exact ranext_give w L hok me kind a b ty m sa wa da sl sc wl wc dl dc la lc l hv hl (decide_eq_false hc) (by simp [h7]) (by simp [h8]) (by simp [h8]) _ rfl
      · rw [if_neg h8, trun_ret]; exact ranext_no w L hok me kind a b ty m sa wa da sl sc wl wc dl dc la lc l hv (decide_eq_false hc) (by simp [h7]) (by simp [h8])
end Go.Proofs.Ytdfngmplfgifiaa
