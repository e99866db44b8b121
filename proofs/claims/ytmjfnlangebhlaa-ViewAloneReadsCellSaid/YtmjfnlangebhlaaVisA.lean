
/-
  Layer 18: the change of a mask over a log.
-/
import Derived.Test.YtmjfnlangebhlaaRows
import Derived.Test.YtmjfnlangebhlaaBase
import Derived.Test.YtmjfnlangebhlaaWord3
import Derived.Test.YtmjfnlangebhlaaSxR
import Derived.WalkKit
namespace Go.Proofs.Ytmjfnlangebhlaa
open Go Go.RowKit SX
set_option linter.unusedVariables false
set_option maxRecDepth 100000
attribute [local irreducible] post

theorem toBelow {P : Program} {f : FuncId} {args : Array Value} {w : World} {v : Value} (h : Calls P f args w fun e w' => e = .returned v ∧ w = w') : Calls P f args w fun e w' => e = .returned v ∧ Below w.heap.size w w' :=
  h.mono fun e w' ⟨h1, h2⟩ => ⟨h1, h2 ▸ Below.refl _ _⟩
theorem join_any (t m : Int) (hm : I64 m) (w : World) : Calls Try.prog 98 #[.agg #[.int .i64 t], .int .i64 m] w fun e w' => e = .returned (.int .i64 (withT m t)) ∧ Below w.heap.size w w' := by
  refine sy_enter Try.func98 rfl fun a S => ?_
  refine sy_run ⟨0, []⟩ 100 S fun bs a w1 S => ?_
  refine sy_call1 S (toBelow (wwith_any m t hm w1)) (by kernel_rfl) fun a w2 hb S => ?_
  refine sy_run ⟨0, []⟩ 100 S fun bs a w3 S => ?_
  exact sy_ret S (by kernel_rfl) (by kernel_rfl) fun g => ⟨rfl, below_of_gr g⟩
theorem quit_any (t m : Int) (hm : I64 m) (w : World) : Calls Try.prog 99 #[.agg #[.int .i64 t], .int .i64 m] w fun e w' => e = .returned (.int .i64 (sansT m t)) ∧ Below w.heap.size w w' := by
  refine sy_enter Try.func99 rfl fun a S => ?_
  refine sy_run ⟨0, []⟩ 100 S fun bs a w1 S => ?_
  refine sy_call1 S (toBelow (wwithout_any m t hm w1)) (by kernel_rfl) fun a w2 hb S => ?_
  refine sy_run ⟨0, []⟩ 100 S fun bs a w3 S => ?_
  exact sy_ret S (by kernel_rfl) (by kernel_rfl) fun g => ⟨rfl, below_of_gr g⟩
/-- A mask's change over a log. -/
def runV (ap : Int → Int) (cell : Int) : List (Int × Bool) → Ask ⊕ OutD
  | [] => .inl ⟨1, cell, 0, 0⟩
  | r :: l => if ap r.1 = r.1 then .inr {} else match l with
    | [] => .inl ⟨3, cell, r.1, ap r.1⟩
    | (_, true) :: _ => .inr { ok := true }
    | (_, false) :: l => runV ap cell l

noncomputable def vc_join (cell t : Int) (g : Nat) : Cfg := runC Try.prog ⟨0, []⟩ 50 (cfg0 Try.f51 #[.agg #[.int .i64 cell, .func (.func 98) #[.agg #[.int .i64 t]] #[]], .pointer (some ⟨g, 0, none⟩)])
noncomputable def vs_join (cell t : Int) (g : Nat) : SS := ⟨26, [(1, .v (.pointer (some ⟨g, 0, none⟩))), (2, .p 0 0), (4, .p 1 0)], [⟨98, [.int .i64 cell, .func (.func 98) #[.agg #[.int .i64 t]] #[]]⟩, ⟨35, [.int .i64 0, .int .i64 0, .int .i64 0, .int .i64 0, .bool false, .bool false, .int .i64 0]⟩]⟩
set_option maxHeartbeats 8000000 in
theorem vk_join (w0 : World) (cell t : Int) (g : Nat) (N : Nat) : ∀ (l : List (Int × Bool)) (n : Nat) (bs : List Nat) (a : Act) (w : World), l.length < N → l.length < n → (∀ x ∈ l, I64 x.1) → Sy w0 (some g) bs (vs_join cell t g) [rfRun g l] a w →
    post Try.prog (.rnd n (bodyL (vc_join cell t g)) :: (vc_join cell t g).k.tail) (bodyPost Try.prog Try.f51 (OpPost (runV (fun m => withT m t) cell l) g w0)) .normal a w := by
  induction N with
  | zero => intro l n bs a w h; omega
  | succ N ih =>
    intro l n bs a w hN hn hI S
    obtain ⟨n, rfl⟩ : ∃ m, n = m + 1 := ⟨n - 1, by omega⟩
    rcases l with _ | ⟨r, l⟩
    · refine sy_run (c := ⟨.rnd (n + 1) (bodyL (vc_join cell t g)) :: (vc_join cell t g).k.tail, vs_join cell t g⟩) ⟨0, []⟩ 50 S fun bs a w S => ?_
      exact sy_panic S ((load_none w g cell S.run).mono fun e w' h => ⟨h.1, gb_of_below _ h.2⟩) (by kernel_rfl) fun w' hg => ⟨rfl, hg⟩
    · rcases Decidable.em ((fun m => withT m t) r.1 = r.1) with hr | hr
      · have e : runV (fun m => withT m t) cell (r :: l) = .inr {} := by unfold runV; rw [if_pos hr]
        refine sy_run (c := ⟨.rnd (n + 1) (bodyL (vc_join cell t g)) :: (vc_join cell t g).k.tail, vs_join cell t g⟩) ⟨0, []⟩ 50 S fun bs a w S => ?_
        refine sy_acc S (Or.inl rfl) (load_some w g r l cell S.run) (by kernel_rfl) (by simp) fun a w S => ?_
        refine sy_run ⟨0, []⟩ 50 S fun bs a w S => ?_
        refine sy_call1 S (join_any t r.1 (hI r (by simp)) w) (by kernel_rfl) fun a w hb S => ?_
        refine sy_run ⟨0, [3]⟩ 50 S fun bs a w S => ?_
        refine sy_reg S fun S => ?_
        refine sy_ops 4 S fun bs a w S => ?_
        refine sy_cond true S (by simpa using hr : decide ((fun m => withT m t) r.1 = r.1) = true) (by kernel_rfl) fun S => ?_
        refine sy_run ⟨0, []⟩ 50 S fun bs a w S => ?_
        exact sy_ret S (by kernel_rfl) (by kernel_rfl) fun hg => by rw [e]; exact ⟨rfl, hg⟩
      · rcases l with _ | ⟨⟨y, b⟩, l⟩
        · have e : runV (fun m => withT m t) cell [r] = .inl ⟨3, cell, r.1, (fun m => withT m t) r.1⟩ := by unfold runV; rw [if_neg hr]
          refine sy_run (c := ⟨.rnd (n + 1) (bodyL (vc_join cell t g)) :: (vc_join cell t g).k.tail, vs_join cell t g⟩) ⟨0, []⟩ 50 S fun bs a w S => ?_
          refine sy_acc S (Or.inl rfl) (load_some w g r [] cell S.run) (by kernel_rfl) (by simp) fun a w S => ?_
          refine sy_run ⟨0, []⟩ 50 S fun bs a w S => ?_
          refine sy_call1 S (join_any t r.1 (hI r (by simp)) w) (by kernel_rfl) fun a w hb S => ?_
          refine sy_run ⟨0, [3]⟩ 50 S fun bs a w S => ?_
          refine sy_reg S fun S => ?_
          refine sy_ops 4 S fun bs a w S => ?_
          refine sy_cond false S (by simpa using hr : decide ((fun m => withT m t) r.1 = r.1) = false) (by kernel_rfl) fun S => ?_
          refine sy_run ⟨0, []⟩ 50 S fun bs a w S => ?_
          exact sy_panic S ((swap_none w g cell r.1 ((fun m => withT m t) r.1) S.run).mono fun e w' h => ⟨h.1, gb_of_below _ h.2⟩) (by kernel_rfl) fun w' hg => by rw [e]; exact ⟨rfl, hg⟩
        · cases b with
          | true =>
            have e : runV (fun m => withT m t) cell (r :: (y, true) :: l) = .inr { ok := true } := by unfold runV; rw [if_neg hr]
            refine sy_run (c := ⟨.rnd (n + 1) (bodyL (vc_join cell t g)) :: (vc_join cell t g).k.tail, vs_join cell t g⟩) ⟨0, []⟩ 50 S fun bs a w S => ?_
            refine sy_acc S (Or.inl rfl) (load_some w g r ((y, true) :: l) cell S.run) (by kernel_rfl) (by simp) fun a w S => ?_
            refine sy_run ⟨0, []⟩ 50 S fun bs a w S => ?_
            refine sy_call1 S (join_any t r.1 (hI r (by simp)) w) (by kernel_rfl) fun a w hb S => ?_
            refine sy_run ⟨0, [3]⟩ 50 S fun bs a w S => ?_
            refine sy_reg S fun S => ?_
            refine sy_ops 4 S fun bs a w S => ?_
            refine sy_cond false S (by simpa using hr : decide ((fun m => withT m t) r.1 = r.1) = false) (by kernel_rfl) fun S => ?_
            refine sy_run ⟨0, []⟩ 50 S fun bs a w S => ?_
            refine sy_acc S (Or.inl rfl) (swap_some w g (y, true) l cell r.1 ((fun m => withT m t) r.1) S.run) (by kernel_rfl) (by simp) fun a w S => ?_
            refine sy_run ⟨0, []⟩ 50 S fun bs a w S => ?_
            exact sy_ret S (by kernel_rfl) (by kernel_rfl) fun hg => by rw [e]; exact ⟨rfl, hg⟩
          | false =>
            have e : runV (fun m => withT m t) cell (r :: (y, false) :: l) = runV (fun m => withT m t) cell l := by rw [runV, if_neg hr]
            rw [e]
            refine sy_run (c := ⟨.rnd (n + 1) (bodyL (vc_join cell t g)) :: (vc_join cell t g).k.tail, vs_join cell t g⟩) ⟨0, []⟩ 50 S fun bs a w S => ?_
            refine sy_acc S (Or.inl rfl) (load_some w g r ((y, false) :: l) cell S.run) (by kernel_rfl) (by simp) fun a w S => ?_
            refine sy_run ⟨0, []⟩ 50 S fun bs a w S => ?_
            refine sy_call1 S (join_any t r.1 (hI r (by simp)) w) (by kernel_rfl) fun a w hb S => ?_
            refine sy_run ⟨0, [3]⟩ 50 S fun bs a w S => ?_
            refine sy_reg S fun S => ?_
            refine sy_ops 4 S fun bs a w S => ?_
            refine sy_cond false S (by simpa using hr : decide ((fun m => withT m t) r.1 = r.1) = false) (by kernel_rfl) fun S => ?_
            refine sy_run ⟨0, []⟩ 50 S fun bs a w S => ?_
            refine sy_acc S (Or.inl rfl) (swap_some w g (y, false) l cell r.1 ((fun m => withT m t) r.1) S.run) (by kernel_rfl) (by simp) fun a w S => ?_
            refine sy_run ⟨0, [999]⟩ 50 S fun bs a w S => ?_
            have S' := S.to [0, 1] (vs_join cell t g) (by kernel_rfl) (by kernel_rfl) (by kernel_rfl) (by kernel_rfl) (by kernel_rfl)
            refine sy_at (k := .rnd n (bodyL (vc_join cell t g)) :: (vc_join cell t g).k.tail) (by kernel_rfl) ?_
            exact ih l n _ a w (by simp at hN; omega) (by simp at hn; omega) (fun x hx => hI x (by simp [hx])) S'
theorem crun_join (cell t : Int) (g : Nat) (l : List (Int × Bool)) (hI : ∀ x ∈ l, I64 x.1) (w : World) (hR : RunAt w g l) : Calls Try.prog 51 #[.agg #[.int .i64 cell, .func (.func 98) #[.agg #[.int .i64 t]] #[]], .pointer (some ⟨g, 0, none⟩)] w (OpPost (runV (fun m => withT m t) cell l) g w) := by
  refine sy_enterF (some g) [rfRun g l] (by intro f hf; simp at hf; subst hf; exact hR) Try.func51 rfl fun a S => ?_
  refine sy_run ⟨0, []⟩ 50 S fun bs a w1 S => ?_
  have S' := S.to [0, 1] (vs_join cell t g) (by kernel_rfl) (by kernel_rfl) (by kernel_rfl) (by kernel_rfl) (by kernel_rfl)
  refine sy_loop (l.length + 1) (by kernel_rfl) ?_
  exact vk_join w cell t g (l.length + 1) l (l.length + 1) _ a w1 (by omega) (by omega) hI S'

noncomputable def vc_quit (cell t : Int) (g : Nat) : Cfg := runC Try.prog ⟨0, []⟩ 50 (cfg0 Try.f51 #[.agg #[.int .i64 cell, .func (.func 99) #[.agg #[.int .i64 t]] #[]], .pointer (some ⟨g, 0, none⟩)])
noncomputable def vs_quit (cell t : Int) (g : Nat) : SS := ⟨26, [(1, .v (.pointer (some ⟨g, 0, none⟩))), (2, .p 0 0), (4, .p 1 0)], [⟨98, [.int .i64 cell, .func (.func 99) #[.agg #[.int .i64 t]] #[]]⟩, ⟨35, [.int .i64 0, .int .i64 0, .int .i64 0, .int .i64 0, .bool false, .bool false, .int .i64 0]⟩]⟩
set_option maxHeartbeats 8000000 in
theorem vk_quit (w0 : World) (cell t : Int) (g : Nat) (N : Nat) : ∀ (l : List (Int × Bool)) (n : Nat) (bs : List Nat) (a : Act) (w : World), l.length < N → l.length < n → (∀ x ∈ l, I64 x.1) → Sy w0 (some g) bs (vs_quit cell t g) [rfRun g l] a w →
    post Try.prog (.rnd n (bodyL (vc_quit cell t g)) :: (vc_quit cell t g).k.tail) (bodyPost Try.prog Try.f51 (OpPost (runV (fun m => sansT m t) cell l) g w0)) .normal a w := by
  induction N with
  | zero => intro l n bs a w h; omega
  | succ N ih =>
    intro l n bs a w hN hn hI S
    obtain ⟨n, rfl⟩ : ∃ m, n = m + 1 := ⟨n - 1, by omega⟩
    rcases l with _ | ⟨r, l⟩
    · refine sy_run (c := ⟨.rnd (n + 1) (bodyL (vc_quit cell t g)) :: (vc_quit cell t g).k.tail, vs_quit cell t g⟩) ⟨0, []⟩ 50 S fun bs a w S => ?_
      exact sy_panic S ((load_none w g cell S.run).mono fun e w' h => ⟨h.1, gb_of_below _ h.2⟩) (by kernel_rfl) fun w' hg => ⟨rfl, hg⟩
    · rcases Decidable.em ((fun m => sansT m t) r.1 = r.1) with hr | hr
      · have e : runV (fun m => sansT m t) cell (r :: l) = .inr {} := by unfold runV; rw [if_pos hr]
        refine sy_run (c := ⟨.rnd (n + 1) (bodyL (vc_quit cell t g)) :: (vc_quit cell t g).k.tail, vs_quit cell t g⟩) ⟨0, []⟩ 50 S fun bs a w S => ?_
        refine sy_acc S (Or.inl rfl) (load_some w g r l cell S.run) (by kernel_rfl) (by simp) fun a w S => ?_
        refine sy_run ⟨0, []⟩ 50 S fun bs a w S => ?_
        refine sy_call1 S (quit_any t r.1 (hI r (by simp)) w) (by kernel_rfl) fun a w hb S => ?_
        refine sy_run ⟨0, [3]⟩ 50 S fun bs a w S => ?_
        refine sy_reg S fun S => ?_
        refine sy_ops 4 S fun bs a w S => ?_
        refine sy_cond true S (by simpa using hr : decide ((fun m => sansT m t) r.1 = r.1) = true) (by kernel_rfl) fun S => ?_
        refine sy_run ⟨0, []⟩ 50 S fun bs a w S => ?_
        exact sy_ret S (by kernel_rfl) (by kernel_rfl) fun hg => by rw [e]; exact ⟨rfl, hg⟩
      · rcases l with _ | ⟨⟨y, b⟩, l⟩
        · have e : runV (fun m => sansT m t) cell [r] = .inl ⟨3, cell, r.1, (fun m => sansT m t) r.1⟩ := by unfold runV; rw [if_neg hr]
          refine sy_run (c := ⟨.rnd (n + 1) (bodyL (vc_quit cell t g)) :: (vc_quit cell t g).k.tail, vs_quit cell t g⟩) ⟨0, []⟩ 50 S fun bs a w S => ?_
          refine sy_acc S (Or.inl rfl) (load_some w g r [] cell S.run) (by kernel_rfl) (by simp) fun a w S => ?_
          refine sy_run ⟨0, []⟩ 50 S fun bs a w S => ?_
          refine sy_call1 S (quit_any t r.1 (hI r (by simp)) w) (by kernel_rfl) fun a w hb S => ?_
          refine sy_run ⟨0, [3]⟩ 50 S fun bs a w S => ?_
          refine sy_reg S fun S => ?_
          refine sy_ops 4 S fun bs a w S => ?_
          refine sy_cond false S (by simpa using hr : decide ((fun m => sansT m t) r.1 = r.1) = false) (by kernel_rfl) fun S => ?_
          refine sy_run ⟨0, []⟩ 50 S fun bs a w S => ?_
          exact sy_panic S ((swap_none w g cell r.1 ((fun m => sansT m t) r.1) S.run).mono fun e w' h => ⟨h.1, gb_of_below _ h.2⟩) (by kernel_rfl) fun w' hg => by rw [e]; exact ⟨rfl, hg⟩
        · cases b with
          | true =>
            have e : runV (fun m => sansT m t) cell (r :: (y, true) :: l) = .inr { ok := true } := by unfold runV; rw [if_neg hr]
            refine sy_run (c := ⟨.rnd (n + 1) (bodyL (vc_quit cell t g)) :: (vc_quit cell t g).k.tail, vs_quit cell t g⟩) ⟨0, []⟩ 50 S fun bs a w S => ?_
            refine sy_acc S (Or.inl rfl) (load_some w g r ((y, true) :: l) cell S.run) (by kernel_rfl) (by simp) fun a w S => ?_
            refine sy_run ⟨0, []⟩ 50 S fun bs a w S => ?_
            refine sy_call1 S (quit_any t r.1 (hI r (by simp)) w) (by kernel_rfl) fun a w hb S => ?_
            refine sy_run ⟨0, [3]⟩ 50 S fun bs a w S => ?_
            refine sy_reg S fun S => ?_
            refine sy_ops 4 S fun bs a w S => ?_
            refine sy_cond false S (by simpa using hr : decide ((fun m => sansT m t) r.1 = r.1) = false) (by kernel_rfl) fun S => ?_
            refine sy_run ⟨0, []⟩ 50 S fun bs a w S => ?_
            refine sy_acc S (Or.inl rfl) (swap_some w g (y, true) l cell r.1 ((fun m => sansT m t) r.1) S.run) (by kernel_rfl) (by simp) fun a w S => ?_
            refine sy_run ⟨0, []⟩ 50 S fun bs a w S => ?_
            exact sy_ret S (by kernel_rfl) (by kernel_rfl) fun hg => by rw [e]; exact ⟨rfl, hg⟩
          | false =>
            have e : runV (fun m => sansT m t) cell (r :: (y, false) :: l) = runV (fun m => sansT m t) cell l := by rw [runV, if_neg hr]
            rw [e]
            refine sy_run (c := ⟨.rnd (n + 1) (bodyL (vc_quit cell t g)) :: (vc_quit cell t g).k.tail, vs_quit cell t g⟩) ⟨0, []⟩ 50 S fun bs a w S => ?_
            refine sy_acc S (Or.inl rfl) (load_some w g r ((y, false) :: l) cell S.run) (by kernel_rfl) (by simp) fun a w S => ?_
            refine sy_run ⟨0, []⟩ 50 S fun bs a w S => ?_
            refine sy_call1 S (quit_any t r.1 (hI r (by simp)) w) (by kernel_rfl) fun a w hb S => ?_
            refine sy_run ⟨0, [3]⟩ 50 S fun bs a w S => ?_
            refine sy_reg S fun S => ?_
            refine sy_ops 4 S fun bs a w S => ?_
            refine sy_cond false S (by simpa using hr : decide ((fun m => sansT m t) r.1 = r.1) = false) (by kernel_rfl) fun S => ?_
            refine sy_run ⟨0, []⟩ 50 S fun bs a w S => ?_
            refine sy_acc S (Or.inl rfl) (swap_some w g (y, false) l cell r.1 ((fun m => sansT m t) r.1) S.run) (by kernel_rfl) (by simp) fun a w S => ?_
            refine sy_run ⟨0, [999]⟩ 50 S fun bs a w S => ?_
            have S' := S.to [0, 1] (vs_quit cell t g) (by kernel_rfl) (by kernel_rfl) (by kernel_rfl) (by kernel_rfl) (by kernel_rfl)
            refine sy_at (k := .rnd n (bodyL (vc_quit cell t g)) :: (vc_quit cell t g).k.tail) (by kernel_rfl) ?_
            exact ih l n _ a w (by simp at hN; omega) (by simp at hn; omega) (fun x hx => hI x (by simp [hx])) S'
theorem crun_quit (cell t : Int) (g : Nat) (l : List (Int × Bool)) (hI : ∀ x ∈ l, I64 x.1) (w : World) (hR : RunAt w g l) : Calls Try.prog 51 #[.agg #[.int .i64 cell, .func (.func 99) #[.agg #[.int .i64 t]] #[]], .pointer (some ⟨g, 0, none⟩)] w (OpPost (runV (fun m => sansT m t) cell l) g w) := by
  refine sy_enterF (some g) [rfRun g l] (by intro f hf; simp at hf; subst hf; exact hR) Try.func51 rfl fun a S => ?_
  refine sy_run ⟨0, []⟩ 50 S fun bs a w1 S => ?_
  have S' := S.to [0, 1] (vs_quit cell t g) (by kernel_rfl) (by kernel_rfl) (by kernel_rfl) (by kernel_rfl) (by kernel_rfl)
  refine sy_loop (l.length + 1) (by kernel_rfl) ?_
  exact vk_quit w cell t g (l.length + 1) l (l.length + 1) _ a w1 (by omega) (by omega) hI S'
end Go.Proofs.Ytmjfnlangebhlaa
