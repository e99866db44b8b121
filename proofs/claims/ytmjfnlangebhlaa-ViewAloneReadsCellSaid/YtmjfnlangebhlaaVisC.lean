
/-
  Layer 18: the reference's operations on masks, and when reads are visible.
-/
import Derived.Test.YtmjfnlangebhlaaRows
import Derived.Test.YtmjfnlangebhlaaBase
import Derived.Test.YtmjfnlangebhlaaLayA
import Derived.Test.YtmjfnlangebhlaaCurA
import Derived.Test.YtmjfnlangebhlaaCurC
import Derived.Test.YtmjfnlangebhlaaCurD
import Derived.Test.YtmjfnlangebhlaaSd
import Derived.Test.YtmjfnlangebhlaaSxR
import Derived.Test.YtmjfnlangebhlaaVisA
import Derived.WalkKit
namespace Go.Proofs.Ytmjfnlangebhlaa
open Go Go.RowKit SX
set_option linter.unusedVariables false
set_option maxRecDepth 100000
attribute [local irreducible] post GD

theorem curAt_stop {w : World} {g : Nat} {s : CSt} (h : CurAt w g s) : w.cell? ⟨g, 7, none⟩ = some (.bool s.2.isSome) := by
  obtain ⟨a, c, at_, all, h0, h1, h2, h3, h4, h5, h6, h7, h8⟩ := h
  exact h7
/-- The reference's change of a mask over a log. -/
def runP (has : Int → Bool) (ap : Int → Int) (cell : Int) : List (Int × Bool) → Bool × CSt
  | [] => (false, ([], some ⟨1, cell, 0, 0⟩))
  | r :: l => if has r.1 = true then (false, (l, none)) else match l with
    | [] => (false, ([], some ⟨3, cell, r.1, ap r.1⟩))
    | (_, true) :: l => (true, (l, none))
    | (_, false) :: l => runP has ap cell l
theorem runP_told {has : Int → Bool} {ap : Int → Int} (cell : Int) (N : Nat) : ∀ l : List (Int × Bool), l.length < N → (∀ x ∈ l, (has x.1 = true) = (ap x.1 = x.1)) → toldX ({ ok := (runP has ap cell l).1 }, (runP has ap cell l).2) = runV ap cell l := by
  induction N with
  | zero => intro l h; omega
  | succ N ih =>
    intro l hl hh
    rcases l with _ | ⟨r, l⟩
    · rfl
    · have e := hh r (by simp)
      by_cases hr : ap r.1 = r.1
      · have h2 : has r.1 = true := by rw [e]; exact hr
        have e1 : runP has ap cell (r :: l) = (false, (l, none)) := by unfold runP; rw [if_pos h2]
        have e2 : runV ap cell (r :: l) = .inr {} := by unfold runV; rw [if_pos hr]
        rw [e1, e2]; rfl
      · have h2 : ¬ has r.1 = true := by rw [e]; exact hr
        rcases l with _ | ⟨⟨y, b⟩, l⟩
        · rw [runP, runV, if_neg h2, if_neg hr]; rfl
        · cases b with
          | true => rw [runP, runV, if_neg h2, if_neg hr]; rfl
          | false =>
            rw [runP, runV, if_neg h2, if_neg hr]
            exact ih l (by simp at hl; omega) (fun x hx => hh x (by simp [hx]))
theorem pw_pos {t : Int} (ht : 0 ≤ t ∧ t ≤ 61) : 0 < pw t := by
  obtain ⟨n, rfl⟩ := Int.eq_ofNat_of_zero_le ht.1
  rw [pw_in (by omega)]
  exact pow_pos' n
theorem has_with {t : Int} (ht : 0 ≤ t ∧ t ≤ 61) (m : Int) : (isIn m t = true) = (withT m t = m) := by
  have := pw_pos ht
  unfold withT
  cases isIn m t
  · simp; omega
  · simp
theorem has_sans {t : Int} (ht : 0 ≤ t ∧ t ≤ 61) (m : Int) : ((!isIn m t) = true) = (sansT m t = m) := by
  have := pw_pos ht
  unfold sansT
  cases isIn m t
  · simp
  · simp; omega
theorem isIn_zero (t : Int) : isIn 0 t = false := by unfold isIn tb; simp

noncomputable def pc_put (cell t : Int) (g : Nat) : Cfg := runC Try.prog ⟨0, []⟩ 50 (cfg0 Try.f54 #[.pointer (some ⟨g, 0, none⟩), .int .i64 cell, .int .i64 t])
noncomputable def ps_put (cell t : Int) (g : Nat) : SS := ⟨(pc_put cell t g).s.n, [(0, .v (.pointer (some ⟨g, 0, none⟩))), (1, .v (.int .i64 cell)), (2, .v (.int .i64 t))], []⟩
set_option maxHeartbeats 8000000 in
theorem pk_put (w0 : World) (cell t : Int) (g : Nat) (N : Nat) : ∀ (l : List (Int × Bool)) (n : Nat) (bs : List Nat) (aa : Act) (w : World), l.length < N → l.length < n → (∀ x ∈ l, I64 x.1) → Sy w0 (some g) bs (ps_put cell t g) [rfCur g (l, none)] aa w →
    post Try.prog (.rnd (n + 1) (bodyL (pc_put cell t g)) :: (pc_put cell t g).k.tail) (bodyPost Try.prog Try.f54 (fun e w' => e = .returned (.bool (runP (fun m => isIn m t) (fun m => withT m t) cell l).1) ∧ CurAt w' g (runP (fun m => isIn m t) (fun m => withT m t) cell l).2 ∧ w0.grownBy w' (some g))) .normal aa w := by
  induction N with
  | zero => intro l n bs a w h; omega
  | succ N ih =>
    intro l n bs aa w hN hn hI S
    obtain ⟨n, rfl⟩ : ∃ m, n = m + 1 := ⟨n - 1, by omega⟩
    rcases l with _ | ⟨r, l⟩
    · have e : runP (fun m => isIn m t) (fun m => withT m t) cell [] = (false, ([], some ⟨1, cell, 0, 0⟩)) := rfl
      refine sy_run (c := ⟨.rnd (n + 1 + 1) (bodyL (pc_put cell t g)) :: (pc_put cell t g).k.tail, ps_put cell t g⟩) ⟨0, []⟩ 50 S fun bs aa w S => ?_
      refine sy_ldf S (curAt_stop S.cur) (by kernel_rfl) fun aa S => ?_
      refine sy_run ⟨0, []⟩ 50 S fun bs aa w S => ?_
      refine sy_cur (x' := ([], some ⟨1, cell, 0, 0⟩)) (v := .int .i64 0) S (Or.inl rfl) (rload_any02 w g ([], none) cell S.cur) (by kernel_rfl) (by simp) fun aa w S => ?_
      refine sy_run ⟨0, []⟩ 50 S fun bs aa w S => ?_
      refine sy_call1 S (toBelow (rin_any 0 t ⟨by decide, by decide⟩ w)) (by kernel_rfl) fun aa w hb S => ?_
      refine sy_run ⟨0, [4]⟩ 50 S fun bs aa w S => ?_
      refine sy_reg S fun S => ?_
      refine sy_ops 2 S fun bs aa w S => ?_
      refine sy_cond false S (isIn_zero t) (by kernel_rfl) fun S => ?_
      refine sy_run ⟨0, []⟩ 50 S fun bs aa w S => ?_
      refine sy_call1 S (toBelow (rwith_any 0 t ⟨by decide, by decide⟩ w)) (by kernel_rfl) fun aa w hb S => ?_
      refine sy_cur (x' := ([], some ⟨1, cell, 0, 0⟩)) (v := .bool false) S (Or.inl rfl) (rcas_any02 w g ([], some ⟨1, cell, 0, 0⟩) cell 0 ((fun m => withT m t) 0) S.cur) (by kernel_rfl) (by simp) fun aa w S => ?_
      refine sy_run ⟨0, []⟩ 50 S fun bs aa w S => ?_
      refine sy_ldf S (curAt_stop S.cur) (by kernel_rfl) fun aa S => ?_
      refine sy_run ⟨0, []⟩ 50 S fun bs aa w S => ?_
      exact sy_ret S (by kernel_rfl) (by kernel_rfl) fun hg => by rw [e]; exact ⟨rfl, S.cur, hg⟩
    · cases hr : (fun m => isIn m t) r.1 with
      | true =>
        have e : runP (fun m => isIn m t) (fun m => withT m t) cell (r :: l) = (false, (l, none)) := by unfold runP; rw [if_pos hr]
        refine sy_run (c := ⟨.rnd (n + 1 + 1) (bodyL (pc_put cell t g)) :: (pc_put cell t g).k.tail, ps_put cell t g⟩) ⟨0, []⟩ 50 S fun bs aa w S => ?_
        refine sy_ldf S (curAt_stop S.cur) (by kernel_rfl) fun aa S => ?_
        refine sy_run ⟨0, []⟩ 50 S fun bs aa w S => ?_
        refine sy_cur (x' := (l, none)) (v := .int .i64 r.1) S (Or.inl rfl) (rload_any02 w g (r :: l, none) cell S.cur) (by kernel_rfl) (by simp) fun aa w S => ?_
        refine sy_run ⟨0, []⟩ 50 S fun bs aa w S => ?_
        refine sy_call1 S (toBelow (rin_any r.1 t (hI r (by simp)) w)) (by kernel_rfl) fun aa w hb S => ?_
        refine sy_run ⟨0, [4]⟩ 50 S fun bs aa w S => ?_
        refine sy_reg S fun S => ?_
        refine sy_ops 2 S fun bs aa w S => ?_
        refine sy_cond true S (hr) (by kernel_rfl) fun S => ?_
        refine sy_run ⟨0, []⟩ 50 S fun bs aa w S => ?_
        exact sy_ret S (by kernel_rfl) (by kernel_rfl) fun hg => by rw [e]; exact ⟨rfl, S.cur, hg⟩
      | false =>
        have hr' : ¬ (fun m => isIn m t) r.1 = true := by rw [hr]; decide
        rcases l with _ | ⟨⟨y, b⟩, l⟩
        · have e : runP (fun m => isIn m t) (fun m => withT m t) cell [r] = (false, ([], some ⟨3, cell, r.1, (fun m => withT m t) r.1⟩)) := by unfold runP; rw [if_neg hr']
          refine sy_run (c := ⟨.rnd (n + 1 + 1) (bodyL (pc_put cell t g)) :: (pc_put cell t g).k.tail, ps_put cell t g⟩) ⟨0, []⟩ 50 S fun bs aa w S => ?_
          refine sy_ldf S (curAt_stop S.cur) (by kernel_rfl) fun aa S => ?_
          refine sy_run ⟨0, []⟩ 50 S fun bs aa w S => ?_
          refine sy_cur (x' := ([], none)) (v := .int .i64 r.1) S (Or.inl rfl) (rload_any02 w g ([r], none) cell S.cur) (by kernel_rfl) (by simp) fun aa w S => ?_
          refine sy_run ⟨0, []⟩ 50 S fun bs aa w S => ?_
          refine sy_call1 S (toBelow (rin_any r.1 t (hI r (by simp)) w)) (by kernel_rfl) fun aa w hb S => ?_
          refine sy_run ⟨0, [4]⟩ 50 S fun bs aa w S => ?_
          refine sy_reg S fun S => ?_
          refine sy_ops 2 S fun bs aa w S => ?_
          refine sy_cond false S (hr) (by kernel_rfl) fun S => ?_
          refine sy_run ⟨0, []⟩ 50 S fun bs aa w S => ?_
          refine sy_call1 S (toBelow (rwith_any r.1 t (hI r (by simp)) w)) (by kernel_rfl) fun aa w hb S => ?_
          refine sy_cur (x' := ([], some ⟨3, cell, r.1, (fun m => withT m t) r.1⟩)) (v := .bool false) S (Or.inl rfl) (rcas_any02 w g ([], none) cell r.1 ((fun m => withT m t) r.1) S.cur) (by kernel_rfl) (by simp) fun aa w S => ?_
          refine sy_run ⟨0, []⟩ 50 S fun bs aa w S => ?_
          refine sy_ldf S (curAt_stop S.cur) (by kernel_rfl) fun aa S => ?_
          refine sy_run ⟨0, []⟩ 50 S fun bs aa w S => ?_
          exact sy_ret S (by kernel_rfl) (by kernel_rfl) fun hg => by rw [e]; exact ⟨rfl, S.cur, hg⟩
        · cases b with
          | true =>
            have e : runP (fun m => isIn m t) (fun m => withT m t) cell (r :: (y, true) :: l) = (true, (l, none)) := by unfold runP; rw [if_neg hr']
            refine sy_run (c := ⟨.rnd (n + 1 + 1) (bodyL (pc_put cell t g)) :: (pc_put cell t g).k.tail, ps_put cell t g⟩) ⟨0, []⟩ 50 S fun bs aa w S => ?_
            refine sy_ldf S (curAt_stop S.cur) (by kernel_rfl) fun aa S => ?_
            refine sy_run ⟨0, []⟩ 50 S fun bs aa w S => ?_
            refine sy_cur (x' := ((y, true) :: l, none)) (v := .int .i64 r.1) S (Or.inl rfl) (rload_any02 w g (r :: (y, true) :: l, none) cell S.cur) (by kernel_rfl) (by simp) fun aa w S => ?_
            refine sy_run ⟨0, []⟩ 50 S fun bs aa w S => ?_
            refine sy_call1 S (toBelow (rin_any r.1 t (hI r (by simp)) w)) (by kernel_rfl) fun aa w hb S => ?_
            refine sy_run ⟨0, [4]⟩ 50 S fun bs aa w S => ?_
            refine sy_reg S fun S => ?_
            refine sy_ops 2 S fun bs aa w S => ?_
            refine sy_cond false S (hr) (by kernel_rfl) fun S => ?_
            refine sy_run ⟨0, []⟩ 50 S fun bs aa w S => ?_
            refine sy_call1 S (toBelow (rwith_any r.1 t (hI r (by simp)) w)) (by kernel_rfl) fun aa w hb S => ?_
            refine sy_cur (x' := (l, none)) (v := .bool true) S (Or.inl rfl) (rcas_any02 w g ((y, true) :: l, none) cell r.1 ((fun m => withT m t) r.1) S.cur) (by kernel_rfl) (by simp) fun aa w S => ?_
            refine sy_run ⟨0, []⟩ 50 S fun bs aa w S => ?_
            exact sy_ret S (by kernel_rfl) (by kernel_rfl) fun hg => by rw [e]; exact ⟨rfl, S.cur, hg⟩
          | false =>
            have e : runP (fun m => isIn m t) (fun m => withT m t) cell (r :: (y, false) :: l) = runP (fun m => isIn m t) (fun m => withT m t) cell l := by rw [runP, if_neg hr']
            rw [e]
            refine sy_run (c := ⟨.rnd (n + 1 + 1) (bodyL (pc_put cell t g)) :: (pc_put cell t g).k.tail, ps_put cell t g⟩) ⟨0, []⟩ 50 S fun bs aa w S => ?_
            refine sy_ldf S (curAt_stop S.cur) (by kernel_rfl) fun aa S => ?_
            refine sy_run ⟨0, []⟩ 50 S fun bs aa w S => ?_
            refine sy_cur (x' := ((y, false) :: l, none)) (v := .int .i64 r.1) S (Or.inl rfl) (rload_any02 w g (r :: (y, false) :: l, none) cell S.cur) (by kernel_rfl) (by simp) fun aa w S => ?_
            refine sy_run ⟨0, []⟩ 50 S fun bs aa w S => ?_
            refine sy_call1 S (toBelow (rin_any r.1 t (hI r (by simp)) w)) (by kernel_rfl) fun aa w hb S => ?_
            refine sy_run ⟨0, [4]⟩ 50 S fun bs aa w S => ?_
            refine sy_reg S fun S => ?_
            refine sy_ops 2 S fun bs aa w S => ?_
            refine sy_cond false S (hr) (by kernel_rfl) fun S => ?_
            refine sy_run ⟨0, []⟩ 50 S fun bs aa w S => ?_
            refine sy_call1 S (toBelow (rwith_any r.1 t (hI r (by simp)) w)) (by kernel_rfl) fun aa w hb S => ?_
            refine sy_cur (x' := (l, none)) (v := .bool false) S (Or.inl rfl) (rcas_any02 w g ((y, false) :: l, none) cell r.1 ((fun m => withT m t) r.1) S.cur) (by kernel_rfl) (by simp) fun aa w S => ?_
            refine sy_run ⟨0, [999]⟩ 50 S fun bs aa w S => ?_
            have S' := S.to [] (ps_put cell t g) (by kernel_rfl) (by kernel_rfl) (by kernel_rfl) (by kernel_rfl) (by kernel_rfl)
            refine sy_at (k := .rnd (n + 1) (bodyL (pc_put cell t g)) :: (pc_put cell t g).k.tail) (by kernel_rfl) ?_
            exact ih l n _ aa w (by simp at hN; omega) (by simp at hn; omega) (fun x hx => hI x (by simp [hx])) S'
set_option maxHeartbeats 4000000 in
theorem pput_any (cell t : Int) (g : Nat) (l : List (Int × Bool)) (hI : ∀ x ∈ l, I64 x.1) (w0 : World) (hR : CurAt w0 g (l, none)) : Calls Try.prog 54 #[.pointer (some ⟨g, 0, none⟩), .int .i64 cell, .int .i64 t] w0 (fun e w' => e = .returned (.bool (runP (fun m => isIn m t) (fun m => withT m t) cell l).1) ∧ CurAt w' g (runP (fun m => isIn m t) (fun m => withT m t) cell l).2 ∧ w0.grownBy w' (some g)) := by
  refine sy_enterF (some g) [rfCur g (l, none)] (by intro f hf; simp at hf; subst hf; exact hR) Try.func54 rfl fun aa S => ?_
  refine sy_run ⟨0, []⟩ 50 S fun bs aa w1 S => ?_
  have S' := S.to [] (ps_put cell t g) (by kernel_rfl) (by kernel_rfl) (by kernel_rfl) (by kernel_rfl) (by kernel_rfl)
  refine sy_loop (l.length + 1 + 1) (by kernel_rfl) ?_
  exact pk_put w0 cell t g (l.length + 1) l (l.length + 1) _ aa w1 (by omega) (by omega) hI S'

noncomputable def pc_out (cell t : Int) (g : Nat) : Cfg := runC Try.prog ⟨0, []⟩ 50 (cfg0 Try.f55 #[.pointer (some ⟨g, 0, none⟩), .int .i64 cell, .int .i64 t])
noncomputable def ps_out (cell t : Int) (g : Nat) : SS := ⟨(pc_out cell t g).s.n, [(0, .v (.pointer (some ⟨g, 0, none⟩))), (1, .v (.int .i64 cell)), (2, .v (.int .i64 t))], []⟩
set_option maxHeartbeats 8000000 in
theorem pk_out (w0 : World) (cell t : Int) (g : Nat) (N : Nat) : ∀ (l : List (Int × Bool)) (n : Nat) (bs : List Nat) (aa : Act) (w : World), l.length < N → l.length < n → (∀ x ∈ l, I64 x.1) → Sy w0 (some g) bs (ps_out cell t g) [rfCur g (l, none)] aa w →
    post Try.prog (.rnd (n + 1) (bodyL (pc_out cell t g)) :: (pc_out cell t g).k.tail) (bodyPost Try.prog Try.f55 (fun e w' => e = .returned (.bool (runP (fun m => !isIn m t) (fun m => sansT m t) cell l).1) ∧ CurAt w' g (runP (fun m => !isIn m t) (fun m => sansT m t) cell l).2 ∧ w0.grownBy w' (some g))) .normal aa w := by
  induction N with
  | zero => intro l n bs a w h; omega
  | succ N ih =>
    intro l n bs aa w hN hn hI S
    obtain ⟨n, rfl⟩ : ∃ m, n = m + 1 := ⟨n - 1, by omega⟩
    rcases l with _ | ⟨r, l⟩
    · have e : runP (fun m => !isIn m t) (fun m => sansT m t) cell [] = (false, ([], some ⟨1, cell, 0, 0⟩)) := rfl
      refine sy_run (c := ⟨.rnd (n + 1 + 1) (bodyL (pc_out cell t g)) :: (pc_out cell t g).k.tail, ps_out cell t g⟩) ⟨0, []⟩ 50 S fun bs aa w S => ?_
      refine sy_ldf S (curAt_stop S.cur) (by kernel_rfl) fun aa S => ?_
      refine sy_run ⟨0, []⟩ 50 S fun bs aa w S => ?_
      refine sy_cur (x' := ([], some ⟨1, cell, 0, 0⟩)) (v := .int .i64 0) S (Or.inl rfl) (rload_any02 w g ([], none) cell S.cur) (by kernel_rfl) (by simp) fun aa w S => ?_
      refine sy_run ⟨0, []⟩ 50 S fun bs aa w S => ?_
      refine sy_call1 S (toBelow (rin_any 0 t ⟨by decide, by decide⟩ w)) (by kernel_rfl) fun aa w hb S => ?_
      refine sy_run ⟨0, [4]⟩ 50 S fun bs aa w S => ?_
      refine sy_reg S fun S => ?_
      refine sy_ops 3 S fun bs aa w S => ?_
      refine sy_cond true S (show (!isIn 0 t) = true by rw [isIn_zero t]; rfl) (by kernel_rfl) fun S => ?_
      refine sy_run ⟨0, []⟩ 50 S fun bs aa w S => ?_
      exact sy_ret S (by kernel_rfl) (by kernel_rfl) fun hg => by rw [e]; exact ⟨rfl, S.cur, hg⟩
    · cases hr : (fun m => !isIn m t) r.1 with
      | true =>
        have e : runP (fun m => !isIn m t) (fun m => sansT m t) cell (r :: l) = (false, (l, none)) := by unfold runP; rw [if_pos hr]
        refine sy_run (c := ⟨.rnd (n + 1 + 1) (bodyL (pc_out cell t g)) :: (pc_out cell t g).k.tail, ps_out cell t g⟩) ⟨0, []⟩ 50 S fun bs aa w S => ?_
        refine sy_ldf S (curAt_stop S.cur) (by kernel_rfl) fun aa S => ?_
        refine sy_run ⟨0, []⟩ 50 S fun bs aa w S => ?_
        refine sy_cur (x' := (l, none)) (v := .int .i64 r.1) S (Or.inl rfl) (rload_any02 w g (r :: l, none) cell S.cur) (by kernel_rfl) (by simp) fun aa w S => ?_
        refine sy_run ⟨0, []⟩ 50 S fun bs aa w S => ?_
        refine sy_call1 S (toBelow (rin_any r.1 t (hI r (by simp)) w)) (by kernel_rfl) fun aa w hb S => ?_
        refine sy_run ⟨0, [4]⟩ 50 S fun bs aa w S => ?_
        refine sy_reg S fun S => ?_
        refine sy_ops 3 S fun bs aa w S => ?_
        refine sy_cond true S (hr) (by kernel_rfl) fun S => ?_
        refine sy_run ⟨0, []⟩ 50 S fun bs aa w S => ?_
        exact sy_ret S (by kernel_rfl) (by kernel_rfl) fun hg => by rw [e]; exact ⟨rfl, S.cur, hg⟩
      | false =>
        have hr' : ¬ (fun m => !isIn m t) r.1 = true := by rw [hr]; decide
        rcases l with _ | ⟨⟨y, b⟩, l⟩
        · have e : runP (fun m => !isIn m t) (fun m => sansT m t) cell [r] = (false, ([], some ⟨3, cell, r.1, (fun m => sansT m t) r.1⟩)) := by unfold runP; rw [if_neg hr']
          refine sy_run (c := ⟨.rnd (n + 1 + 1) (bodyL (pc_out cell t g)) :: (pc_out cell t g).k.tail, ps_out cell t g⟩) ⟨0, []⟩ 50 S fun bs aa w S => ?_
          refine sy_ldf S (curAt_stop S.cur) (by kernel_rfl) fun aa S => ?_
          refine sy_run ⟨0, []⟩ 50 S fun bs aa w S => ?_
          refine sy_cur (x' := ([], none)) (v := .int .i64 r.1) S (Or.inl rfl) (rload_any02 w g ([r], none) cell S.cur) (by kernel_rfl) (by simp) fun aa w S => ?_
          refine sy_run ⟨0, []⟩ 50 S fun bs aa w S => ?_
          refine sy_call1 S (toBelow (rin_any r.1 t (hI r (by simp)) w)) (by kernel_rfl) fun aa w hb S => ?_
          refine sy_run ⟨0, [4]⟩ 50 S fun bs aa w S => ?_
          refine sy_reg S fun S => ?_
          refine sy_ops 3 S fun bs aa w S => ?_
          refine sy_cond false S (hr) (by kernel_rfl) fun S => ?_
          refine sy_run ⟨0, []⟩ 50 S fun bs aa w S => ?_
          refine sy_call1 S (toBelow (rwithout_any r.1 t (hI r (by simp)) w)) (by kernel_rfl) fun aa w hb S => ?_
          refine sy_cur (x' := ([], some ⟨3, cell, r.1, (fun m => sansT m t) r.1⟩)) (v := .bool false) S (Or.inl rfl) (rcas_any02 w g ([], none) cell r.1 ((fun m => sansT m t) r.1) S.cur) (by kernel_rfl) (by simp) fun aa w S => ?_
          refine sy_run ⟨0, []⟩ 50 S fun bs aa w S => ?_
          refine sy_ldf S (curAt_stop S.cur) (by kernel_rfl) fun aa S => ?_
          refine sy_run ⟨0, []⟩ 50 S fun bs aa w S => ?_
          exact sy_ret S (by kernel_rfl) (by kernel_rfl) fun hg => by rw [e]; exact ⟨rfl, S.cur, hg⟩
        · cases b with
          | true =>
            have e : runP (fun m => !isIn m t) (fun m => sansT m t) cell (r :: (y, true) :: l) = (true, (l, none)) := by unfold runP; rw [if_neg hr']
            refine sy_run (c := ⟨.rnd (n + 1 + 1) (bodyL (pc_out cell t g)) :: (pc_out cell t g).k.tail, ps_out cell t g⟩) ⟨0, []⟩ 50 S fun bs aa w S => ?_
            refine sy_ldf S (curAt_stop S.cur) (by kernel_rfl) fun aa S => ?_
            refine sy_run ⟨0, []⟩ 50 S fun bs aa w S => ?_
            refine sy_cur (x' := ((y, true) :: l, none)) (v := .int .i64 r.1) S (Or.inl rfl) (rload_any02 w g (r :: (y, true) :: l, none) cell S.cur) (by kernel_rfl) (by simp) fun aa w S => ?_
            refine sy_run ⟨0, []⟩ 50 S fun bs aa w S => ?_
            refine sy_call1 S (toBelow (rin_any r.1 t (hI r (by simp)) w)) (by kernel_rfl) fun aa w hb S => ?_
            refine sy_run ⟨0, [4]⟩ 50 S fun bs aa w S => ?_
            refine sy_reg S fun S => ?_
            refine sy_ops 3 S fun bs aa w S => ?_
            refine sy_cond false S (hr) (by kernel_rfl) fun S => ?_
            refine sy_run ⟨0, []⟩ 50 S fun bs aa w S => ?_
            refine sy_call1 S (toBelow (rwithout_any r.1 t (hI r (by simp)) w)) (by kernel_rfl) fun aa w hb S => ?_
            refine sy_cur (x' := (l, none)) (v := .bool true) S (Or.inl rfl) (rcas_any02 w g ((y, true) :: l, none) cell r.1 ((fun m => sansT m t) r.1) S.cur) (by kernel_rfl) (by simp) fun aa w S => ?_
            refine sy_run ⟨0, []⟩ 50 S fun bs aa w S => ?_
            exact sy_ret S (by kernel_rfl) (by kernel_rfl) fun hg => by rw [e]; exact ⟨rfl, S.cur, hg⟩
          | false =>
            have e : runP (fun m => !isIn m t) (fun m => sansT m t) cell (r :: (y, false) :: l) = runP (fun m => !isIn m t) (fun m => sansT m t) cell l := by rw [runP, if_neg hr']
            rw [e]
            refine sy_run (c := ⟨.rnd (n + 1 + 1) (bodyL (pc_out cell t g)) :: (pc_out cell t g).k.tail, ps_out cell t g⟩) ⟨0, []⟩ 50 S fun bs aa w S => ?_
            refine sy_ldf S (curAt_stop S.cur) (by kernel_rfl) fun aa S => ?_
            refine sy_run ⟨0, []⟩ 50 S fun bs aa w S => ?_
            refine sy_cur (x' := ((y, false) :: l, none)) (v := .int .i64 r.1) S (Or.inl rfl) (rload_any02 w g (r :: (y, false) :: l, none) cell S.cur) (by kernel_rfl) (by simp) fun aa w S => ?_
            refine sy_run ⟨0, []⟩ 50 S fun bs aa w S => ?_
            refine sy_call1 S (toBelow (rin_any r.1 t (hI r (by simp)) w)) (by kernel_rfl) fun aa w hb S => ?_
            refine sy_run ⟨0, [4]⟩ 50 S fun bs aa w S => ?_
            refine sy_reg S fun S => ?_
            refine sy_ops 3 S fun bs aa w S => ?_
            refine sy_cond false S (hr) (by kernel_rfl) fun S => ?_
            refine sy_run ⟨0, []⟩ 50 S fun bs aa w S => ?_
            refine sy_call1 S (toBelow (rwithout_any r.1 t (hI r (by simp)) w)) (by kernel_rfl) fun aa w hb S => ?_
            refine sy_cur (x' := (l, none)) (v := .bool false) S (Or.inl rfl) (rcas_any02 w g ((y, false) :: l, none) cell r.1 ((fun m => sansT m t) r.1) S.cur) (by kernel_rfl) (by simp) fun aa w S => ?_
            refine sy_run ⟨0, [999]⟩ 50 S fun bs aa w S => ?_
            have S' := S.to [] (ps_out cell t g) (by kernel_rfl) (by kernel_rfl) (by kernel_rfl) (by kernel_rfl) (by kernel_rfl)
            refine sy_at (k := .rnd (n + 1) (bodyL (pc_out cell t g)) :: (pc_out cell t g).k.tail) (by kernel_rfl) ?_
            exact ih l n _ aa w (by simp at hN; omega) (by simp at hn; omega) (fun x hx => hI x (by simp [hx])) S'
set_option maxHeartbeats 4000000 in
theorem pout_any (cell t : Int) (g : Nat) (l : List (Int × Bool)) (hI : ∀ x ∈ l, I64 x.1) (w0 : World) (hR : CurAt w0 g (l, none)) : Calls Try.prog 55 #[.pointer (some ⟨g, 0, none⟩), .int .i64 cell, .int .i64 t] w0 (fun e w' => e = .returned (.bool (runP (fun m => !isIn m t) (fun m => sansT m t) cell l).1) ∧ CurAt w' g (runP (fun m => !isIn m t) (fun m => sansT m t) cell l).2 ∧ w0.grownBy w' (some g)) := by
  refine sy_enterF (some g) [rfCur g (l, none)] (by intro f hf; simp at hf; subst hf; exact hR) Try.func55 rfl fun aa S => ?_
  refine sy_run ⟨0, []⟩ 50 S fun bs aa w1 S => ?_
  have S' := S.to [] (ps_out cell t g) (by kernel_rfl) (by kernel_rfl) (by kernel_rfl) (by kernel_rfl) (by kernel_rfl)
  refine sy_loop (l.length + 1 + 1) (by kernel_rfl) ?_
  exact pk_out w0 cell t g (l.length + 1) l (l.length + 1) _ aa w1 (by omega) (by omega) hI S'
end Go.Proofs.Ytmjfnlangebhlaa
