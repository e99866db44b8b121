
/-
  Layer 4: LexOffsets.
-/
import Derived.Test.YthkgmahkmflfkaaDoorRows
import Derived.Test.YthkgmahkmflfkaaDoorBase
import Derived.Test.YthkgmahkmflfkaaDoorLxC
import Derived.WalkKit
namespace Go.Proofs.YthkgmahkmflfkaaDoor
open Go Go.RowKit SZ
set_option linter.unusedVariables false
set_option linter.unusedSimpArgs false
set_option maxRecDepth 100000
attribute [local irreducible] post GD Nxt NxtAll
/-- Where the tokens of a text lie, from an offset on. -/
def offP (l : List Nat) : Nat → List Tk → Prop
  | a, [] => a ≤ l.length ∧ ∀ i, a ≤ i → i < l.length → spcB (l.getD i 0) = true
  | a, t :: r => a ≤ t.2.2.2 ∧ t.2.2.2 + t.2.1.length ≤ l.length ∧ 1 ≤ t.2.1.length ∧ (l.drop t.2.2.2).take t.2.1.length = t.2.1 ∧ (∀ i, a ≤ i → i < t.2.2.2 → spcB (l.getD i 0) = true) ∧ offP l (t.2.2.2 + t.2.1.length) r
theorem off_ext {l : List Nat} {a : Nat} (h : spcB (l.getD a 0) = true) : ∀ {ts : List Tk}, offP l (a + 1) ts → offP l a ts
  | [], q => ⟨by have := q.1; omega, fun i h1 h2 => by
      rcases Nat.lt_or_ge a i with h3 | h3
      · exact q.2 i (by omega) h2
      · rw [show i = a by omega]; exact h⟩
  | t :: r, q => ⟨by have := q.1; omega, q.2.1, q.2.2.1, q.2.2.2.1, fun i h1 h2 => by
      rcases Nat.lt_or_ge a i with h3 | h3
      · exact q.2.2.2.2.1 i (by omega) h2
      · rw [show i = a by omega]; exact h, q.2.2.2.2.2⟩
theorem off_of {l : List Nat} : ∀ (f a : Nat) (ts : List Tk), a ≤ l.length → (l.drop a).length ≤ f → lexF f (l.drop a) a = some ts → offP l a ts
  | 0, a, ts, ha, hf, h => by
    have h : some [] = some ts := h
    cases h
    rw [List.length_drop] at hf
    exact ⟨ha, fun i h1 h2 => by omega⟩
  | f + 1, a, ts, ha, hf, h => by
    by_cases hal : a < l.length
    · have hd : l.drop a = l[a] :: l.drop (a + 1) := List.drop_eq_getElem_cons hal
      have hg : l.getD a 0 = l[a] := by simp [List.getD, List.getElem?_eq_getElem hal]
      rw [hd] at h hf
      rw [List.length_cons] at hf
      unfold lexF at h
      split at h
      · next hs => exact off_ext (by rw [hg]; exact hs) (off_of f (a + 1) ts (by omega) (by omega) h)
      · cases hk : tokL (l[a] :: l.drop (a + 1)) with
        | none => rw [hk] at h; cases h
        | some tk =>
          rw [hk] at h
          simp only at h
          obtain ⟨q, hq, hq2⟩ := Option.map_eq_some_iff.1 h
          subst hq2
          obtain ⟨k1, k2, k3⟩ := tokL_is hk
          have k4 := take_lt k1
          rw [← hd] at hq k1 k4
          rw [List.length_drop] at k4
          rw [List.drop_drop] at hq
          have hfl : (l.drop (a + tk.2.1.length)).length ≤ f := by
            rw [List.length_drop] at hf ⊢
            omega
          exact ⟨Nat.le_refl _, by show a + tk.2.1.length ≤ _; omega, k2, k1, fun i h1 h2 => by have h2 : i < a := h2; omega, off_of f (a + tk.2.1.length) q (by omega) hfl hq⟩
    · have hd : l.drop a = [] := List.drop_eq_nil_of_le (by omega)
      rw [hd] at h
      have h : some [] = some ts := h
      cases h
      exact ⟨ha, fun i h1 h2 => by omega⟩
theorem blank_y (b : Nat) (h : spcB b = true) (w : World) : Calls Tryd.prog 15 #[.int .u8 (b : Int)] w fun e w' => e = .returned (.bool true) ∧ Below w.heap.size w w' := by
  refine sy_enterF [] [] (by intro f hf; cases hf) Tryd.func15 rfl rfl fun aa S => ?_
  refine sy_run ⟨0, [1]⟩ 60 S fun bs aa w S => ?_
  refine sy_reg S fun S => ?_
  refine sy_ops 1 S fun bs aa w S => ?_
  refine sy_call1 S (by have q := cls_t b w; rw [cls_4 h] at q; exact q) (by kernel_rfl) fun aa w hb S => ?_
  refine sy_run ⟨0, []⟩ 60 S fun bs aa w S => ?_
  exact sy_ret S (by kernel_rfl) (by kernel_rfl) fun hg => ⟨rfl, bel_gr hg⟩
noncomputable def ofC : Cfg := ⟨goZ 200 [0, 0] [.code (bodyOf Tryd.f5)], ⟨0, [], []⟩⟩
noncomputable def of2C (m : Nat) : Cfg := ⟨goZ 200 [1, 0] (.code (bodyL ofC) :: .rnd m (bodyL ofC) :: ofC.k.tail), ⟨0, [], []⟩⟩
noncomputable def of22 (m : Nat) : List It := goM 60 0 [] (of2C m).k.tail
noncomputable def ofT (l : List Nat) (q : Option Addr) (n c : Nat) (a i : Nat) : List (Nat × SV) := [(0, .v (.string (strOf l))), (3, .v (.bool true)), (4, .v (.slice q n c)), (6, .v (.int .i64 (a : Int))), (7, .v (.int .i64 (i : Int)))]
noncomputable def of1S (l : List Nat) (q : Option Addr) (n c : Nat) (a i : Nat) : SS := ⟨106, ofT l q n c a i, []⟩
noncomputable def of2S (l : List Nat) (q : Option Addr) (n c : Nat) (a i u k : Nat) : SS := ⟨106, ofT l q n c a i ++ [(8, .v (.int .i64 (u : Int))), (9, .v (.int .i64 (k : Int)))], []⟩
noncomputable def of3S (l : List Nat) (q : Option Addr) (n c : Nat) (a i u : Nat) : SS := ⟨106, ofT l q n c a i ++ [(8, .v (.int .i64 (u : Int)))], []⟩
set_option maxHeartbeats 8000000 in
theorem o2_e (w0 : World) (l : List Nat) (hl : ∀ b ∈ l, b < 256) (hl3 : l.length ≤ 600) (ts : List Tk) (q : Option Addr) (c b : Nat) (hq : ts.length = 0 ∨ q = some ⟨b, 0, none⟩) (htl : ts.length ≤ 600) (m a i u : Nat) (ex : ∀ (aa : Act) (w : World) (S : Sy w0 [] [] (of3S l q ts.length c a i u) [rfTk b 0 ts] aa w), post Tryd.prog (of22 m) (bodyPost Tryd.prog Tryd.f5 (fun e w' => e = .returned (.bool true) ∧ Below w0.heap.size w0 w')) .normal aa w) (n k : Nat) (hk : k = u) (aa : Act) (w : World) (S : Sy w0 [] [] (of2S l q ts.length c a i u (k)) [rfTk b 0 ts] aa w) : post Tryd.prog (.rnd (n + 1) (bodyL (of2C m)) :: (of2C m).k.tail) (bodyPost Tryd.prog Tryd.f5 (fun e w' => e = .returned (.bool true) ∧ Below w0.heap.size w0 w')) .normal aa w := by
  refine sy_run (c := ⟨(.rnd (n + 1) (bodyL (of2C m)) :: (of2C m).k.tail), of2S l q ts.length c a i u k⟩) ⟨0, [17]⟩ 50 S fun bs aa w S => ?_
  refine sy_reg S fun S => ?_
  refine sy_ops 3 S fun bs aa w S => ?_
  refine sy_cast 74 S (congrArg Value.bool (decide_eq_false (by omega) : decide ((k : Int) < (u : Int)) = false)) (by kernel_rfl) fun S => ?_
  refine sy_run ⟨0, [22]⟩ 60 S fun bs aa w S => ?_
  have S2 := S.to [] (of3S l q ts.length c a i u) (by kernel_rfl) (by kernel_rfl) (by kernel_rfl) (by kernel_rfl) (by kernel_rfl)
  refine sy_at2 (k' := of22 m) (by kernel_rfl) ?_
  exact ex aa w S2
set_option maxHeartbeats 8000000 in
theorem o2_s (w0 : World) (l : List Nat) (hl : ∀ b ∈ l, b < 256) (hl3 : l.length ≤ 600) (ts : List Tk) (q : Option Addr) (c b : Nat) (hq : ts.length = 0 ∨ q = some ⟨b, 0, none⟩) (htl : ts.length ≤ 600) (m a i u : Nat) (hu : u ≤ l.length) (n k : Nat) (hk : k < u) (hs : spcB (l.getD k 0) = true) (ih : ∀ (aa : Act) (w : World) (S : Sy w0 [] [] (of2S l q ts.length c a i u (k + 1)) [rfTk b 0 ts] aa w), post Tryd.prog (.rnd (n) (bodyL (of2C m)) :: (of2C m).k.tail) (bodyPost Tryd.prog Tryd.f5 (fun e w' => e = .returned (.bool true) ∧ Below w0.heap.size w0 w')) .normal aa w) (aa : Act) (w : World) (S : Sy w0 [] [] (of2S l q ts.length c a i u (k)) [rfTk b 0 ts] aa w) : post Tryd.prog (.rnd (n + 1) (bodyL (of2C m)) :: (of2C m).k.tail) (bodyPost Tryd.prog Tryd.f5 (fun e w' => e = .returned (.bool true) ∧ Below w0.heap.size w0 w')) .normal aa w := by
  refine sy_run (c := ⟨(.rnd (n + 1) (bodyL (of2C m)) :: (of2C m).k.tail), of2S l q ts.length c a i u k⟩) ⟨0, [17]⟩ 50 S fun bs aa w S => ?_
  refine sy_reg S fun S => ?_
  refine sy_ops 3 S fun bs aa w S => ?_
  refine sy_cast 74 S (congrArg Value.bool (decide_eq_true (by omega) : decide ((k : Int) < (u : Int)) = true)) (by kernel_rfl) fun S => ?_
  refine sy_run ⟨0, [19]⟩ 60 S fun bs aa w S => ?_
  refine sy_reg S fun S => ?_
  refine sy_ops 2 S fun bs aa w S => ?_
  refine sy_ex (op := .index 9 (.tmp 77) (.tmp 78)) (ty := 5) (v := .int .u8 ((l.getD k 0 : Nat) : Int)) S (by kernel_rfl) (ex_ixl (k := k) Tryd.underlying9 (by kernel_rfl) (by kernel_rfl) hl (by omega)) fun aa S => ?_
  refine sy_call1 S (blank_y (l.getD k 0) hs w) (by kernel_rfl) fun aa w hb S => ?_
  refine sy_run ⟨0, [18]⟩ 60 S fun bs aa w S => ?_
  refine sy_reg S fun S => ?_
  refine sy_ops 2 S fun bs aa w S => ?_
  refine sy_cast 76 S (congrArg (Value.int .i64) (by rw [IntKind.wrap_i64]; omega : IntKind.i64.wrap ((k : Int) + 1) = ((k + 1 : Nat) : Int))) (by kernel_rfl) fun S => ?_
  refine sy_run ⟨0, [999]⟩ 50 S fun bs aa w S => ?_
  have S2 := S.to [] (of2S l q ts.length c a i u (k + 1)) (by kernel_rfl) (by kernel_rfl) (by kernel_rfl) (by kernel_rfl) (by kernel_rfl)
  refine sy_at2 (k' := (.rnd (n) (bodyL (of2C m)) :: (of2C m).k.tail)) (by kernel_rfl) ?_
  exact ih aa w S2
theorem o2_a (w0 : World) (l : List Nat) (hl : ∀ b ∈ l, b < 256) (hl3 : l.length ≤ 600) (ts : List Tk) (q : Option Addr) (c b : Nat) (hq : ts.length = 0 ∨ q = some ⟨b, 0, none⟩) (htl : ts.length ≤ 600) (m a i u : Nat) (hu : u ≤ l.length) (ex : ∀ (aa : Act) (w : World) (S : Sy w0 [] [] (of3S l q ts.length c a i u) [rfTk b 0 ts] aa w), post Tryd.prog (of22 m) (bodyPost Tryd.prog Tryd.f5 (fun e w' => e = .returned (.bool true) ∧ Below w0.heap.size w0 w')) .normal aa w) : ∀ (n k : Nat), k + n = u → (∀ j, k ≤ j → j < u → spcB (l.getD j 0) = true) → ∀ (aa : Act) (w : World) (S : Sy w0 [] [] (of2S l q ts.length c a i u (k)) [rfTk b 0 ts] aa w), post Tryd.prog (.rnd (n + 1) (bodyL (of2C m)) :: (of2C m).k.tail) (bodyPost Tryd.prog Tryd.f5 (fun e w' => e = .returned (.bool true) ∧ Below w0.heap.size w0 w')) .normal aa w := by
  intro n
  induction n with
  | zero => intro k hk hs aa w S; exact o2_e w0 l hl hl3 ts q c b hq htl m a i u ex 0 k (by omega) aa w S
  | succ n ih => intro k hk hs aa w S; exact o2_s w0 l hl hl3 ts q c b hq htl m a i u hu (n + 1) k (by omega) (hs k (Nat.le_refl _) (by omega)) (fun aa w S => ih (k + 1) (by omega) (fun j h1 h2 => hs j (by omega) h2) aa w S) aa w S
set_option maxHeartbeats 8000000 in
theorem o3_y (w0 : World) (l : List Nat) (hl : ∀ b ∈ l, b < 256) (hl3 : l.length ≤ 600) (ts : List Tk) (q : Option Addr) (c b : Nat) (hq : ts.length = 0 ∨ q = some ⟨b, 0, none⟩) (htl : ts.length ≤ 600) (m a i : Nat) (hi : i < ts.length) (hx1 : (ts.getD i tk0).2.2.2 + (ts.getD i tk0).2.1.length ≤ l.length) (hx2 : (l.drop (ts.getD i tk0).2.2.2).take (ts.getD i tk0).2.1.length = (ts.getD i tk0).2.1) (ih : ∀ (aa : Act) (w : World) (S : Sy w0 [] [] (of1S l q ts.length c ((ts.getD i tk0).2.2.2 + (ts.getD i tk0).2.1.length) (i + 1)) [rfTk b 0 ts] aa w), post Tryd.prog (.rnd (m) (bodyL ofC) :: ofC.k.tail) (bodyPost Tryd.prog Tryd.f5 (fun e w' => e = .returned (.bool true) ∧ Below w0.heap.size w0 w')) .normal aa w) (u : Nat) (hu : u = (ts.getD i tk0).2.2.2) (aa : Act) (w : World) (S : Sy w0 [] [] (of3S l q ts.length c a i u) [rfTk b 0 ts] aa w) : post Tryd.prog (of22 m) (bodyPost Tryd.prog Tryd.f5 (fun e w' => e = .returned (.bool true) ∧ Below w0.heap.size w0 w')) .normal aa w := by
  subst hu
  have hs256 : ∀ x ∈ (ts.getD i tk0).2.1, x < 256 := fun x hx => hl x (List.mem_of_mem_drop (List.mem_of_mem_take (hx2 ▸ hx)))
  refine sy_run (c := ⟨of22 m, of3S l q ts.length c a i (ts.getD i tk0).2.2.2⟩) ⟨0, [22]⟩ 60 S fun bs aa w S => ?_
  refine sy_reg S fun S => ?_
  refine sy_ops 4 S fun bs aa w S => ?_
  refine sy_cast 86 S (congrArg Value.bool (decide_eq_true (by omega) : decide ((i : Int) < (ts.length : Int)) = true)) (by kernel_rfl) fun S => ?_
  refine sy_run ⟨0, [23]⟩ 60 S fun bs aa w S => ?_
  refine sy_reg S fun S => ?_
  refine sy_ops 3 S fun bs aa w S => ?_
  refine sy_ix (b := b) (off := 0) (len := ts.length) (n := i) (size := 4) (i := (i : Int)) S (by rw [← hq.resolve_left (by omega)]; kernel_rfl) rfl (by omega) fun aa S => ?_
  refine sy_ops 1 S fun bs aa w S => ?_
  refine sy_ldo S (ld_at (ty := 9) (b := b) (off := 0 + i * 4 + 1) (by kernel_rfl) (((S.fact (f := rfTk b 0 ts) (by simp)) i (by omega)).2.1)) (by kernel_rfl) fun aa S => ?_
  refine sy_ops 1 S fun bs aa w S => ?_
  refine sy_cast 93 S (congrArg (Value.int .i64) (by rw [strOf_size] : ((strOf (ts.getD i tk0).2.1).size : Int) = ((ts.getD i tk0).2.1.length : Int))) (by kernel_rfl) fun S => ?_
  refine sy_ops 1 S fun bs aa w S => ?_
  refine sy_cast 94 S (congrArg (Value.int .i64) (by rw [IntKind.wrap_i64]; omega : IntKind.i64.wrap (((ts.getD i tk0).2.2.2 : Int) + ((ts.getD i tk0).2.1.length : Int)) = (((ts.getD i tk0).2.2.2 + (ts.getD i tk0).2.1.length : Nat) : Int))) (by kernel_rfl) fun S => ?_
  refine sy_run ⟨0, []⟩ 60 S fun bs aa w S => ?_
  letI : KP := ⟨[98, 104]⟩
  letI : HF := ⟨[rfTk b 0 ts]⟩
  refine dr_enter [] (by kernel_rfl) (by kernel_rfl) S (by kernel_rfl) (fun aa w D => ?_) (fun f hf => by have e1 : f = rfTk b 0 ts := List.mem_singleton.1 hf; subst e1; simp)
  refine dr_ex2 (fun d v c a w h => by cases d <;> exact h) 3 (op := .slice 9 (.tmp 95) (some (.tmp 96)) (some (.tmp 97)) none) (ty := 9) (v := .string (strOf (ts.getD i tk0).2.1)) D (by kernel_rfl) (by kernel_rfl) (by kernel_rfl) (by kernel_rfl) (ex_slS (l2 := some (.v (.int .i64 ((ts.getD i tk0).2.2.2 : Int)))) (h2 := some (.v (.int .i64 (((ts.getD i tk0).2.2.2 + (ts.getD i tk0).2.1.length : Nat) : Int)))) Tryd.underlying9 (by kernel_rfl) (by kernel_rfl) (by kernel_rfl) (fun W9 => by have q9 := slS_b (strOf l) (ts.getD i tk0).2.2.2 ((ts.getD i tk0).2.2.2 + (ts.getD i tk0).2.1.length) (by omega) (by rw [strOf_size]; omega) W9; rw [ext_tk hx2] at q9; exact q9)) fun aa D => ?_
  refine dr_tix 6 D (by kernel_rfl) (by kernel_rfl) (by kernel_rfl) (b := b) (off := 0) (len := ts.length) (n := i) (size := 4) (ix := (i : Int)) (by rw [← hq.resolve_left (by omega)]; kernel_rfl) rfl (by omega) fun aa D => ?_
  refine dr_tld 8 D (by kernel_rfl) (by kernel_rfl) (by kernel_rfl) (ty := 9) (ad := ⟨b, 0 + i * 4 + 1, none⟩) (v := .string (strOf (ts.getD i tk0).2.1)) (fun W hW => ld_at (by kernel_rfl) ((show TkAt W b 0 ts from hW (rfTk b 0 ts) (by show _ ∈ [rfTk b 0 ts]; simp)) i (by omega)).2.1) (by kernel_rfl) fun aa D => ?_
  refine dr_ex2 (fun d v c a w h => by cases d <;> exact h) 9 (op := .binOp .neq 9 (.tmp 98) (.tmp 103) 9) (ty := 4) (v := .bool false) D (by kernel_rfl) (by kernel_rfl) (by kernel_rfl) (by kernel_rfl) (ex_neL (l := (ts.getD i tk0).2.1) (m := (ts.getD i tk0).2.1) (by kernel_rfl) (by kernel_rfl) hs256 hs256 (by rw [decide_eq_true rfl]; rfl)) fun aa D => ?_
  refine dr_end D (by kernel_rfl) fun S => ?_
  refine sy_run ⟨0, [10]⟩ 60 S fun bs aa w S => ?_
  refine sy_reg S fun S => ?_
  refine sy_ops 2 S fun bs aa w S => ?_
  refine sy_cast 34 S (congrArg (Value.int .i64) (by rw [IntKind.wrap_i64]; omega : IntKind.i64.wrap ((i : Int) + 1) = ((i + 1 : Nat) : Int))) (by kernel_rfl) fun S => ?_
  refine sy_run ⟨0, [999]⟩ 50 S fun bs aa w S => ?_
  have S2 := S.to [] (of1S l q ts.length c ((ts.getD i tk0).2.2.2 + (ts.getD i tk0).2.1.length) (i + 1)) (by kernel_rfl) (by kernel_rfl) (by kernel_rfl) (by kernel_rfl) (by kernel_rfl)
  refine sy_at2 (k' := (.rnd (m) (bodyL ofC) :: ofC.k.tail)) (by kernel_rfl) ?_
  exact ih aa w S2
set_option maxHeartbeats 8000000 in
theorem o3_n (w0 : World) (l : List Nat) (hl : ∀ b ∈ l, b < 256) (hl3 : l.length ≤ 600) (ts : List Tk) (q : Option Addr) (c b : Nat) (hq : ts.length = 0 ∨ q = some ⟨b, 0, none⟩) (htl : ts.length ≤ 600) (m a i : Nat) (hi : ¬i < ts.length) (hi2 : i ≤ 600) (ih : ∀ (aa : Act) (w : World) (S : Sy w0 [] [] (of1S l q ts.length c (a) (i + 1)) [rfTk b 0 ts] aa w), post Tryd.prog (.rnd (m) (bodyL ofC) :: ofC.k.tail) (bodyPost Tryd.prog Tryd.f5 (fun e w' => e = .returned (.bool true) ∧ Below w0.heap.size w0 w')) .normal aa w) (u : Nat) (aa : Act) (w : World) (S : Sy w0 [] [] (of3S l q ts.length c a i u) [rfTk b 0 ts] aa w) : post Tryd.prog (of22 m) (bodyPost Tryd.prog Tryd.f5 (fun e w' => e = .returned (.bool true) ∧ Below w0.heap.size w0 w')) .normal aa w := by
  refine sy_run (c := ⟨of22 m, of3S l q ts.length c a i u⟩) ⟨0, [22]⟩ 60 S fun bs aa w S => ?_
  refine sy_reg S fun S => ?_
  refine sy_ops 4 S fun bs aa w S => ?_
  refine sy_cast 86 S (congrArg Value.bool (decide_eq_false (by omega) : decide ((i : Int) < (ts.length : Int)) = false)) (by kernel_rfl) fun S => ?_
  refine sy_run ⟨0, [10]⟩ 60 S fun bs aa w S => ?_
  refine sy_reg S fun S => ?_
  refine sy_ops 2 S fun bs aa w S => ?_
  refine sy_cast 34 S (congrArg (Value.int .i64) (by rw [IntKind.wrap_i64]; omega : IntKind.i64.wrap ((i : Int) + 1) = ((i + 1 : Nat) : Int))) (by kernel_rfl) fun S => ?_
  refine sy_run ⟨0, [999]⟩ 50 S fun bs aa w S => ?_
  have S2 := S.to [] (of1S l q ts.length c a (i + 1)) (by kernel_rfl) (by kernel_rfl) (by kernel_rfl) (by kernel_rfl) (by kernel_rfl)
  refine sy_at2 (k' := (.rnd (m) (bodyL ofC) :: ofC.k.tail)) (by kernel_rfl) ?_
  exact ih aa w S2
set_option maxHeartbeats 8000000 in
theorem o1_s (w0 : World) (l : List Nat) (hl : ∀ b ∈ l, b < 256) (hl3 : l.length ≤ 600) (ts : List Tk) (q : Option Addr) (c b : Nat) (hq : ts.length = 0 ∨ q = some ⟨b, 0, none⟩) (htl : ts.length ≤ 600) (m a i : Nat) (hi : i < ts.length) (hal : a ≤ l.length) (h1 : a ≤ (ts.getD i tk0).2.2.2) (h2 : (ts.getD i tk0).2.2.2 + (ts.getD i tk0).2.1.length ≤ l.length) (h3 : 1 ≤ (ts.getD i tk0).2.1.length) (h4 : (l.drop (ts.getD i tk0).2.2.2).take (ts.getD i tk0).2.1.length = (ts.getD i tk0).2.1) (h5 : ∀ j, a ≤ j → j < (ts.getD i tk0).2.2.2 → spcB (l.getD j 0) = true) (ih : ∀ (aa : Act) (w : World) (S : Sy w0 [] [] (of1S l q ts.length c ((ts.getD i tk0).2.2.2 + (ts.getD i tk0).2.1.length) (i + 1)) [rfTk b 0 ts] aa w), post Tryd.prog (.rnd (m) (bodyL ofC) :: ofC.k.tail) (bodyPost Tryd.prog Tryd.f5 (fun e w' => e = .returned (.bool true) ∧ Below w0.heap.size w0 w')) .normal aa w) (aa : Act) (w : World) (S : Sy w0 [] [] (of1S l q ts.length c (a) (i)) [rfTk b 0 ts] aa w) : post Tryd.prog (.rnd (m + 1) (bodyL ofC) :: ofC.k.tail) (bodyPost Tryd.prog Tryd.f5 (fun e w' => e = .returned (.bool true) ∧ Below w0.heap.size w0 w')) .normal aa w := by
  refine sy_run (c := ⟨(.rnd (m + 1) (bodyL ofC) :: ofC.k.tail), of1S l q ts.length c a i⟩) ⟨0, [9]⟩ 50 S fun bs aa w S => ?_
  refine sy_reg S fun S => ?_
  refine sy_ops 4 S fun bs aa w S => ?_
  refine sy_cast 32 S (congrArg Value.bool (decide_eq_true (by omega) : decide ((i : Int) ≤ (ts.length : Int)) = true)) (by kernel_rfl) fun S => ?_
  refine sy_run ⟨0, [11]⟩ 60 S fun bs aa w S => ?_
  refine sy_reg S fun S => ?_
  refine sy_ops 2 S fun bs aa w S => ?_
  refine sy_cast 36 S (congrArg (Value.int .i64) (by rw [strOf_size] : ((strOf l).size : Int) = (l.length : Int))) (by kernel_rfl) fun S => ?_
  refine sy_run ⟨0, [12]⟩ 60 S fun bs aa w S => ?_
  refine sy_reg S fun S => ?_
  refine sy_ops 4 S fun bs aa w S => ?_
  refine sy_cast 40 S (congrArg Value.bool (decide_eq_true (by omega) : decide ((i : Int) < (ts.length : Int)) = true)) (by kernel_rfl) fun S => ?_
  refine sy_run ⟨0, [13]⟩ 60 S fun bs aa w S => ?_
  refine sy_reg S fun S => ?_
  refine sy_ops 2 S fun bs aa w S => ?_
  refine sy_ix (b := b) (off := 0) (len := ts.length) (n := i) (size := 4) (i := (i : Int)) S (by rw [← hq.resolve_left (by omega)]; kernel_rfl) rfl (by omega) fun aa S => ?_
  refine sy_ops 1 S fun bs aa w S => ?_
  refine sy_ldo S (ld_at (ty := 3) (b := b) (off := 0 + i * 4 + 3) (by kernel_rfl) (((S.fact (f := rfTk b 0 ts) (by simp)) i (by omega)).2.2.2)) (by kernel_rfl) fun aa S => ?_
  refine sy_run ⟨0, [14]⟩ 60 S fun bs aa w S => ?_
  refine sy_reg S fun S => ?_
  refine sy_ops 3 S fun bs aa w S => ?_
  refine sy_cast 48 S (congrArg Value.bool (decide_eq_false (by omega) : decide (((ts.getD i tk0).2.2.2 : Int) < (a : Int)) = false)) (by kernel_rfl) fun S => ?_
  refine sy_ops 4 S fun bs aa w S => ?_
  refine sy_ix (b := b) (off := 0) (len := ts.length) (n := i) (size := 4) (i := (i : Int)) S (by rw [← hq.resolve_left (by omega)]; kernel_rfl) rfl (by omega) fun aa S => ?_
  refine sy_ops 1 S fun bs aa w S => ?_
  refine sy_ldo S (ld_at (ty := 9) (b := b) (off := 0 + i * 4 + 1) (by kernel_rfl) (((S.fact (f := rfTk b 0 ts) (by simp)) i (by omega)).2.1)) (by kernel_rfl) fun aa S => ?_
  refine sy_ops 1 S fun bs aa w S => ?_
  refine sy_cast 56 S (congrArg (Value.int .i64) (by rw [strOf_size] : ((strOf (ts.getD i tk0).2.1).size : Int) = ((ts.getD i tk0).2.1.length : Int))) (by kernel_rfl) fun S => ?_
  refine sy_ops 1 S fun bs aa w S => ?_
  refine sy_cast 57 S (congrArg (Value.int .i64) (by rw [IntKind.wrap_i64]; omega : IntKind.i64.wrap (((ts.getD i tk0).2.2.2 : Int) + ((ts.getD i tk0).2.1.length : Int)) = (((ts.getD i tk0).2.2.2 + (ts.getD i tk0).2.1.length : Nat) : Int))) (by kernel_rfl) fun S => ?_
  refine sy_ops 2 S fun bs aa w S => ?_
  refine sy_cast 59 S (congrArg (Value.int .i64) (by rw [strOf_size] : ((strOf l).size : Int) = (l.length : Int))) (by kernel_rfl) fun S => ?_
  refine sy_ops 1 S fun bs aa w S => ?_
  refine sy_cast 60 S (congrArg Value.bool (decide_eq_false (by omega) : decide ((((ts.getD i tk0).2.2.2 + (ts.getD i tk0).2.1.length : Nat) : Int) > (l.length : Int)) = false)) (by kernel_rfl) fun S => ?_
  refine sy_ops 4 S fun bs aa w S => ?_
  refine sy_ix (b := b) (off := 0) (len := ts.length) (n := i) (size := 4) (i := (i : Int)) S (by rw [← hq.resolve_left (by omega)]; kernel_rfl) rfl (by omega) fun aa S => ?_
  refine sy_ops 1 S fun bs aa w S => ?_
  refine sy_ldo S (ld_at (ty := 9) (b := b) (off := 0 + i * 4 + 1) (by kernel_rfl) (((S.fact (f := rfTk b 0 ts) (by simp)) i (by omega)).2.1)) (by kernel_rfl) fun aa S => ?_
  refine sy_ops 1 S fun bs aa w S => ?_
  refine sy_cast 68 S (congrArg (Value.int .i64) (by rw [strOf_size] : ((strOf (ts.getD i tk0).2.1).size : Int) = ((ts.getD i tk0).2.1.length : Int))) (by kernel_rfl) fun S => ?_
  refine sy_ops 1 S fun bs aa w S => ?_
  refine sy_cast 69 S (congrArg Value.bool (decide_eq_false (by omega) : decide (((ts.getD i tk0).2.1.length : Int) = 0) = false)) (by kernel_rfl) fun S => ?_
  refine sy_run ⟨0, []⟩ 60 S fun bs aa w S => ?_
  have S2 := S.to [] (of2S l q ts.length c a i (ts.getD i tk0).2.2.2 a) (by kernel_rfl) (by kernel_rfl) (by kernel_rfl) (by kernel_rfl) (by kernel_rfl)
  refine sy_loop ((ts.getD i tk0).2.2.2 - a + 1) (by kernel_rfl) ?_
  refine sy_at2 (k' := (.rnd ((ts.getD i tk0).2.2.2 - a + 1) (bodyL (of2C m)) :: (of2C m).k.tail)) (by kernel_rfl) ?_
  exact o2_a w0 l hl hl3 ts q c b hq htl m a i (ts.getD i tk0).2.2.2 (by omega) (fun aa w S => o3_y w0 l hl hl3 ts q c b hq htl m a i hi h2 h4 ih _ rfl aa w S) ((ts.getD i tk0).2.2.2 - a) a (by omega) (h5) aa w S2
set_option maxHeartbeats 8000000 in
theorem o1_n (w0 : World) (l : List Nat) (hl : ∀ b ∈ l, b < 256) (hl3 : l.length ≤ 600) (ts : List Tk) (q : Option Addr) (c b : Nat) (hq : ts.length = 0 ∨ q = some ⟨b, 0, none⟩) (htl : ts.length ≤ 600) (m a i : Nat) (hi : i = ts.length) (hal : a ≤ l.length) (h5 : ∀ j, a ≤ j → j < l.length → spcB (l.getD j 0) = true) (ih : ∀ (aa : Act) (w : World) (S : Sy w0 [] [] (of1S l q ts.length c (a) (i + 1)) [rfTk b 0 ts] aa w), post Tryd.prog (.rnd (m) (bodyL ofC) :: ofC.k.tail) (bodyPost Tryd.prog Tryd.f5 (fun e w' => e = .returned (.bool true) ∧ Below w0.heap.size w0 w')) .normal aa w) (aa : Act) (w : World) (S : Sy w0 [] [] (of1S l q ts.length c (a) (i)) [rfTk b 0 ts] aa w) : post Tryd.prog (.rnd (m + 1) (bodyL ofC) :: ofC.k.tail) (bodyPost Tryd.prog Tryd.f5 (fun e w' => e = .returned (.bool true) ∧ Below w0.heap.size w0 w')) .normal aa w := by
  refine sy_run (c := ⟨(.rnd (m + 1) (bodyL ofC) :: ofC.k.tail), of1S l q ts.length c a i⟩) ⟨0, [9]⟩ 50 S fun bs aa w S => ?_
  refine sy_reg S fun S => ?_
  refine sy_ops 4 S fun bs aa w S => ?_
  refine sy_cast 32 S (congrArg Value.bool (decide_eq_true (by omega) : decide ((i : Int) ≤ (ts.length : Int)) = true)) (by kernel_rfl) fun S => ?_
  refine sy_run ⟨0, [11]⟩ 60 S fun bs aa w S => ?_
  refine sy_reg S fun S => ?_
  refine sy_ops 2 S fun bs aa w S => ?_
  refine sy_cast 36 S (congrArg (Value.int .i64) (by rw [strOf_size] : ((strOf l).size : Int) = (l.length : Int))) (by kernel_rfl) fun S => ?_
  refine sy_run ⟨0, [12]⟩ 60 S fun bs aa w S => ?_
  refine sy_reg S fun S => ?_
  refine sy_ops 4 S fun bs aa w S => ?_
  refine sy_cast 40 S (congrArg Value.bool (decide_eq_false (by omega) : decide ((i : Int) < (ts.length : Int)) = false)) (by kernel_rfl) fun S => ?_
  refine sy_run ⟨0, []⟩ 60 S fun bs aa w S => ?_
  have S2 := S.to [] (of2S l q ts.length c a i l.length a) (by kernel_rfl) (by kernel_rfl) (by kernel_rfl) (by kernel_rfl) (by kernel_rfl)
  refine sy_loop (l.length - a + 1) (by kernel_rfl) ?_
  refine sy_at2 (k' := (.rnd (l.length - a + 1) (bodyL (of2C m)) :: (of2C m).k.tail)) (by kernel_rfl) ?_
  exact o2_a w0 l hl hl3 ts q c b hq htl m a i l.length (by omega) (fun aa w S => o3_n w0 l hl hl3 ts q c b hq htl m a i (by omega) (by omega) ih l.length aa w S) (l.length - a) a (by omega) (h5) aa w S2
set_option maxHeartbeats 8000000 in
theorem o1_e (w0 : World) (l : List Nat) (hl : ∀ b ∈ l, b < 256) (hl3 : l.length ≤ 600) (ts : List Tk) (q : Option Addr) (c b : Nat) (hq : ts.length = 0 ∨ q = some ⟨b, 0, none⟩) (htl : ts.length ≤ 600) (m a i : Nat) (hi : i = ts.length + 1) (aa : Act) (w : World) (S : Sy w0 [] [] (of1S l q ts.length c (a) (i)) [rfTk b 0 ts] aa w) : post Tryd.prog (.rnd (m + 1) (bodyL ofC) :: ofC.k.tail) (bodyPost Tryd.prog Tryd.f5 (fun e w' => e = .returned (.bool true) ∧ Below w0.heap.size w0 w')) .normal aa w := by
  refine sy_run (c := ⟨(.rnd (m + 1) (bodyL ofC) :: ofC.k.tail), of1S l q ts.length c a i⟩) ⟨0, [9]⟩ 50 S fun bs aa w S => ?_
  refine sy_reg S fun S => ?_
  refine sy_ops 4 S fun bs aa w S => ?_
  refine sy_cast 32 S (congrArg Value.bool (decide_eq_false (by omega) : decide ((i : Int) ≤ (ts.length : Int)) = false)) (by kernel_rfl) fun S => ?_
  refine sy_run ⟨0, []⟩ 60 S fun bs aa w S => ?_
  exact sy_ret S (by kernel_rfl) (by kernel_rfl) fun hg => ⟨rfl, bel_gr hg⟩
theorem o1_a (w0 : World) (l : List Nat) (hl : ∀ b ∈ l, b < 256) (hl3 : l.length ≤ 600) (ts : List Tk) (q : Option Addr) (c b : Nat) (hq : ts.length = 0 ∨ q = some ⟨b, 0, none⟩) (htl : ts.length ≤ 600) : ∀ (m a i : Nat), i + m = ts.length → a ≤ l.length → offP l a (ts.drop i) → ∀ (aa : Act) (w : World) (S : Sy w0 [] [] (of1S l q ts.length c (a) (i)) [rfTk b 0 ts] aa w), post Tryd.prog (.rnd (m + 1 + 1) (bodyL ofC) :: ofC.k.tail) (bodyPost Tryd.prog Tryd.f5 (fun e w' => e = .returned (.bool true) ∧ Below w0.heap.size w0 w')) .normal aa w := by
  intro m
  induction m with
  | zero =>
    intro a i hi hal ho aa w S
    rw [List.drop_eq_nil_of_le (by omega)] at ho
    exact o1_n w0 l hl hl3 ts q c b hq htl 1 a i (by omega) hal ho.2 (fun aa w S => o1_e w0 l hl hl3 ts q c b hq htl 0 a (i + 1) (by omega) aa w S) aa w S
  | succ m ih =>
    intro a i hi hal ho aa w S
    have hil : i < ts.length := by omega
    rw [List.drop_eq_getElem_cons hil] at ho
    have hg : ts[i] = (ts.getD i tk0) := by simp [List.getD, List.getElem?_eq_getElem hil]
    rw [hg] at ho
    obtain ⟨g1, g2, g3, g4, g5, g6⟩ := ho
    exact o1_s w0 l hl hl3 ts q c b hq htl (m + 1 + 1) a i hil hal g1 g2 g3 g4 g5 (fun aa w S => ih _ (i + 1) (by omega) g2 g6 aa w S) aa w S
set_option maxHeartbeats 8000000 in
theorem of_all (w0 : World) (hG : rfSg.P w0) (l : List Nat) (hl : ∀ b ∈ l, b < 256) : Calls Tryd.prog 5 #[.string (strOf l)] w0 (fun e w' => e = .returned (.bool true) ∧ Below w0.heap.size w0 w') := by
  refine sy_enterF [] [rfSg] (by intro f hf; simp only [List.mem_singleton] at hf; subst hf; exact hG) Tryd.func5 rfl rfl fun aa S => ?_
  refine sy_run ⟨0, [1]⟩ 60 S fun bs aa w S => ?_
  refine sy_reg S fun S => ?_
  refine sy_call1 S (sane4 w (S.fact (f := rfSg) (by simp))) (by kernel_rfl) fun aa w hb S => ?_
  refine sy_run ⟨0, [2]⟩ 60 S fun bs aa w S => ?_
  refine sy_reg S fun S => ?_
  refine sy_ops 2 S fun bs aa w S => ?_
  refine sy_cast 13 S (congrArg (Value.int .i64) (by rw [strOf_size] : ((strOf l).size : Int) = (l.length : Int))) (by kernel_rfl) fun S => ?_
  refine sy_ops 1 S fun bs aa w S => ?_
  by_cases h6 : l.length ≤ 600
  case neg =>
    refine sy_cast 14 S (congrArg Value.bool (decide_eq_true (by omega) : decide ((l.length : Int) > 600) = true)) (by kernel_rfl) fun S => ?_
    refine sy_run ⟨0, []⟩ 60 S fun bs aa w S => ?_
    exact sy_ret S (by kernel_rfl) (by kernel_rfl) fun hg => ⟨rfl, bel_gr hg⟩
  refine sy_cast 14 S (congrArg Value.bool (decide_eq_false (by omega) : decide ((l.length : Int) > 600) = false)) (by kernel_rfl) fun S => ?_
  have hrl := lex_len (l := l)
  cases hR : lexW l 0 with
  | none =>
    refine sy_run ⟨0, [4]⟩ 60 S fun bs aa w S => ?_
    refine sy_reg S fun S => ?_
    refine sy_ops 1 S fun bs aa w S => ?_
    refine sy_nm S fun bs S => ?_
    have hlt := fun i hi => S.lt (i := i) hi
    refine sy_call S (X := Option Addr × Nat × Nat × Nat) (val := fun q => wdV q (none)) (C := fun q w' => wdC2 w (none) q w') (by have q := words_t w (S.fact (f := rfSg) (by simp)) l (hl) (by omega); rw [hR] at q; exact q.mono fun _ _ h => wd_row h) (by kernel_rfl) fun x aa w hx hb S => ?_
    have S := S.add (rfTk x.2.2.1 0 ((none).getD [])) hx.2.1 (fun i hi hbl => by have h1 := hlt i hi; have h2 := hbl.1; have h3 := hx.2.2.1.resolve_left hbl.2; omega)
    refine sy_run ⟨0, []⟩ 60 S fun bs aa w S => ?_
    exact sy_ret S (by kernel_rfl) (by kernel_rfl) fun hg => ⟨rfl, bel_gr hg⟩
  | some ts =>
    rw [hR] at hrl
    have hrl : ts.length ≤ l.length := hrl
    have ho : offP l 0 ts := off_of l.length 0 ts (Nat.zero_le _) (by rw [List.drop_zero]; exact Nat.le_refl _) (by rw [List.drop_zero]; exact hR)
    refine sy_run ⟨0, [4]⟩ 60 S fun bs aa w S => ?_
    refine sy_reg S fun S => ?_
    refine sy_ops 1 S fun bs aa w S => ?_
    refine sy_nm S fun bs S => ?_
    have hlt := fun i hi => S.lt (i := i) hi
    refine sy_call S (X := Option Addr × Nat × Nat × Nat) (val := fun q => wdV q (some ts)) (C := fun q w' => wdC2 w (some ts) q w') (by have q := words_t w (S.fact (f := rfSg) (by simp)) l (hl) (by omega); rw [hR] at q; exact q.mono fun _ _ h => wd_row h) (by kernel_rfl) fun x aa w hx hb S => ?_
    have S := S.add (rfTk x.2.2.1 0 ((some ts).getD [])) hx.2.1 (fun i hi hbl => by have h1 := hlt i hi; have h2 := hbl.1; have h3 := hx.2.2.1.resolve_left hbl.2; omega)
    refine sy_run ⟨0, []⟩ 60 S fun bs aa w S => ?_
    have S := S.sub (F' := [rfTk x.2.2.1 0 ts]) (by intro f hf; simp only [List.mem_singleton] at hf; subst hf; exact List.mem_cons_self)
    have S2 := S.to [] (of1S l x.1 ts.length x.2.1 0 0) (by kernel_rfl) (by kernel_rfl) (by kernel_rfl) (by kernel_rfl) (by kernel_rfl)
    refine sy_loop (ts.length + 1 + 1) (by kernel_rfl) ?_
    refine sy_at2 (k' := (.rnd (ts.length + 1 + 1) (bodyL ofC) :: ofC.k.tail)) (by kernel_rfl) ?_
    exact o1_a w0 l hl h6 ts x.1 x.2.1 x.2.2.1 hx.1 (by omega) ts.length 0 0 (by omega) (Nat.zero_le _) (by rw [List.drop_zero]; exact ho) aa w S2
end Go.Proofs.YthkgmahkmflfkaaDoor
