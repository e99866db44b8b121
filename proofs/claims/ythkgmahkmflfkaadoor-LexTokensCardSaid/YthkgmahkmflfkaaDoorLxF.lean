
/-
  Layer 4: LexRoundTrip.
-/
import Derived.Test.YthkgmahkmflfkaaDoorRows
import Derived.Test.YthkgmahkmflfkaaDoorBase
import Derived.Test.YthkgmahkmflfkaaDoorLxC
import Derived.WalkKit
namespace Go.Proofs.YthkgmahkmflfkaaDoor
open Go Go.RowKit SZ
set_option linter.unusedVariables false
set_option linter.unusedSimpArgs false
set_option maxRecDepth 100000
attribute [local irreducible] post GD Nxt NxtAll
theorem fst_sp (r : List Nat) : ∀ s ∈ sgL, fstP (s ++ 32 :: r) sgL = s := by
  intro s hs
  simp only [sgL, List.mem_cons, List.not_mem_nil, or_false] at hs
  rcases hs with rfl | rfl | rfl | rfl | rfl | rfl | rfl | rfl | rfl | rfl | rfl | rfl | rfl | rfl | rfl | rfl | rfl | rfl | rfl <;> rfl
theorem fst_nl : ∀ s ∈ sgL, fstP (s ++ []) sgL = s := by decide
theorem sgL_hd : ∀ s ∈ sgL, lettB (s.getD 0 0) = false ∧ digB (s.getD 0 0) = false ∧ spcB (s.getD 0 0) = false ∧ s ≠ [] := by decide
/-- What may stand behind a token. -/
def endP (rest : List Nat) : Prop := rest = [] ∨ ∃ r, rest = 32 :: r
theorem tw_end {K : Nat → Bool} (h32 : K 32 = false) {s rest : List Nat} (hs : ∀ b ∈ s, K b = true) (he : endP rest) : (s ++ rest).takeWhile K = s := by
  induction s with
  | nil =>
    rcases he with rfl | ⟨r, rfl⟩
    · rfl
    · simp [h32]
  | cons x s ih =>
    rw [List.cons_append, List.takeWhile_cons, hs x (by simp)]
    simp only [if_true]
    rw [ih fun b hb => hs b (by simp [hb])]
theorem tokL_cc (c : Nat) (r : List Nat) : tokL (c :: r) = if lettB c = true then (if ((c :: r).takeWhile wordB).length ≤ 12 then some (1, (c :: r).takeWhile wordB, 0) else none)
    else if digB c = true then (if nOk ((c :: r).takeWhile digB) = true ∧ ((c :: r).drop ((c :: r).takeWhile digB).length).takeWhile wordB = [] then some (2, (c :: r).takeWhile digB, numV ((c :: r).takeWhile digB)) else none)
    else (if fstP (c :: r) sgL = [] then none else some (3, fstP (c :: r) sgL, 0)) := rfl
/-- A token is read again as it is, and no token begins with white space. -/
theorem tok_re {l : List Nat} {t : Nat × List Nat × Nat} (h : tokL l = some t) : (∃ c s, t.2.1 = c :: s ∧ spcB c = false) ∧ ∀ rest, endP rest → tokL (t.2.1 ++ rest) = some t := by
  match l, h with
  | c :: r, h =>
    rw [tokL_cc] at h
    by_cases h1 : lettB c = true
    · rw [if_pos h1] at h
      have hw : wordB c = true := let_word h1
      have hsp : spcB c = false := by
        cases q : spcB c with
        | true => have := (spc_w q).1; rw [this] at h1; cases h1
        | false => rfl
      split at h
      · next h12 =>
        simp only [Option.some.injEq] at h
        subst h
        have hc : (c :: r).takeWhile wordB = c :: r.takeWhile wordB := by rw [List.takeWhile_cons, hw]; rfl
        refine ⟨⟨c, _, hc, hsp⟩, fun rest he => ?_⟩
        have ht := tw_end (K := wordB) rfl (s := (c :: r).takeWhile wordB) (fun b hb => (mem_tw hb).2) he
        simp only
        rw [hc] at ht h12 ⊢
        rw [List.cons_append] at ht ⊢
        rw [tokL_cc, if_pos h1, ht, if_pos h12]
      · cases h
    · rw [if_neg h1] at h
      by_cases h2 : digB c = true
      · rw [if_pos h2] at h
        have hsp : spcB c = false := by
          cases q : spcB c with
          | true => have := (spc_w q).2; rw [this] at h2; cases h2
          | false => rfl
        split at h
        · next hn =>
          simp only [Option.some.injEq] at h
          subst h
          have hc : (c :: r).takeWhile digB = c :: r.takeWhile digB := by rw [List.takeWhile_cons, h2]; rfl
          refine ⟨⟨c, _, hc, hsp⟩, fun rest he => ?_⟩
          have ht := tw_end (K := digB) rfl (s := (c :: r).takeWhile digB) (fun b hb => (mem_tw hb).2) he
          have hd : ((c :: r).takeWhile digB ++ rest).drop ((c :: r).takeWhile digB).length = rest := by simp
          have hr : rest.takeWhile wordB = [] := by
            rcases he with rfl | ⟨q, rfl⟩
            · rfl
            · rfl
          simp only
          rw [hc] at ht hn hd ⊢
          rw [List.cons_append] at ht hd ⊢
          rw [tokL_cc, if_neg h1, if_pos h2, ht, hd, hr, if_pos ⟨hn.1, rfl⟩]
        · cases h
      · rw [if_neg h2] at h
        split at h
        · cases h
        · next hn =>
          simp only [Option.some.injEq] at h
          subst h
          have hm := (fstP_mem (c :: r) sgL).resolve_left hn
          obtain ⟨g1, g2, g3, g4⟩ := sgL_hd _ hm
          obtain ⟨s, hs⟩ : ∃ s, fstP (c :: r) sgL = s := ⟨_, rfl⟩
          rw [hs] at hm g1 g2 g3 g4
          simp only
          rw [hs]
          match s, g4 with
          | x :: q, _ =>
            have g1 : lettB x = false := g1
            have g2 : digB x = false := g2
            refine ⟨⟨x, q, rfl, g3⟩, fun rest he => ?_⟩
            have hf : fstP ((x :: q) ++ rest) sgL = x :: q := by
              rcases he with rfl | ⟨r2, rfl⟩
              · exact fst_nl _ hm
              · exact fst_sp r2 _ hm
            rw [List.cons_append] at hf ⊢
            rw [tokL_cc, if_neg (by rw [g1]; decide), if_neg (by rw [g2]; decide), hf, if_neg (by simp)]
/-- A token that comes from some text. -/
def good (t : Tk) : Prop := ∃ l, tokL l = some (t.1, t.2.1, t.2.2.1)
theorem lexF_good : ∀ (f : Nat) (l : List Nat) (a : Nat) (ts : List Tk), lexF f l a = some ts → (∀ t ∈ ts, good t) ∧ (ts.map fun t => t.2.1.length).sum ≤ l.length
  | 0, l, a, ts, h => by
    have h : some [] = some ts := h
    cases h
    exact ⟨(fun t ht => by cases ht), Nat.zero_le _⟩
  | f + 1, [], a, ts, h => by
    have h : some [] = some ts := h
    cases h
    exact ⟨(fun t ht => by cases ht), Nat.zero_le _⟩
  | f + 1, c :: r, a, ts, h => by
    unfold lexF at h
    split at h
    · obtain ⟨h1, h2⟩ := lexF_good f r (a + 1) ts h
      exact ⟨h1, by rw [List.length_cons]; omega⟩
    · cases hk : tokL (c :: r) with
      | none => rw [hk] at h; cases h
      | some tk =>
        rw [hk] at h
        simp only at h
        obtain ⟨q, hq, hq2⟩ := Option.map_eq_some_iff.1 h
        subst hq2
        obtain ⟨h1, h2⟩ := lexF_good f _ _ q hq
        have h3 := tokL_len hk
        rw [List.length_drop] at h2
        refine ⟨fun t ht => ?_, ?_⟩
        · rcases List.mem_cons.1 ht with rfl | ht
          · exact ⟨_, hk⟩
          · exact h1 t ht
        · rw [List.map_cons, List.sum_cons]
          simp only
          omega
def reT : Nat → List Tk → List Tk
  | _, [] => []
  | a, t :: r => (t.1, t.2.1, t.2.2.1, a) :: reT (a + t.2.1.length + 1) r
theorem shL_one (t : Tk) : shL [t] = t.2.1 := by simp [shL, List.intercalate]
theorem shL_cons (t u : Tk) (r : List Tk) : shL (t :: u :: r) = t.2.1 ++ 32 :: shL (u :: r) := by
  simp [shL, List.intercalate]
theorem relex : ∀ (ts : List Tk), (∀ t ∈ ts, good t) → ∀ a, lexW (shL ts) a = some (reT a ts)
  | [], _, a => rfl
  | [t], h, a => by
    obtain ⟨l, hl⟩ := h t (by simp)
    obtain ⟨⟨c, s, h1, h2⟩, h3⟩ := tok_re hl
    have h1 : t.2.1 = c :: s := h1
    have h4 := h3 [] (Or.inl rfl)
    simp only [List.append_nil] at h4
    rw [shL_one]
    rw [h1] at h4 ⊢
    rw [lexW_tok h2, h4]
    simp only [List.drop_length]
    show (some []).map _ = _
    simp [reT, h1]
  | t :: u :: r, h, a => by
    obtain ⟨l, hl⟩ := h t (by simp)
    obtain ⟨⟨c, s, h1, h2⟩, h3⟩ := tok_re hl
    have h1 : t.2.1 = c :: s := h1
    have h4 := h3 (32 :: shL (u :: r)) (Or.inr ⟨_, rfl⟩)
    have ih := relex (u :: r) (fun x hx => h x (by simp [hx])) (a + t.2.1.length + 1)
    have hd : (t.2.1 ++ 32 :: shL (u :: r)).drop t.2.1.length = 32 :: shL (u :: r) := by simp
    rw [shL_cons]
    simp only at h4
    rw [h1] at h4 hd ih ⊢
    rw [List.cons_append] at h4 hd ⊢
    rw [lexW_tok h2, h4]
    simp only
    rw [hd, lexW_spc rfl, ih]
    simp [reT, h1]
theorem reT_len : ∀ (ts : List Tk) (a : Nat), (reT a ts).length = ts.length
  | [], _ => rfl
  | t :: r, a => by simp [reT, reT_len r]
theorem reT_at : ∀ (ts : List Tk) (a i : Nat), i < ts.length → ((reT a ts).getD i tk0).1 = (ts.getD i tk0).1 ∧ ((reT a ts).getD i tk0).2.1 = (ts.getD i tk0).2.1 ∧ ((reT a ts).getD i tk0).2.2.1 = (ts.getD i tk0).2.2.1
  | t :: r, a, 0, _ => ⟨rfl, rfl, rfl⟩
  | t :: r, a, i + 1, h => reT_at r _ i (by simpa using h)
theorem reT_sh : ∀ (ts : List Tk) (a : Nat), (reT a ts).map (fun t => t.2.1) = ts.map fun t => t.2.1
  | [], _ => rfl
  | t :: r, a => by simp [reT, reT_sh r]
theorem shL_re (ts : List Tk) (a : Nat) : shL (reT a ts) = shL ts := by unfold shL; rw [reT_sh]
theorem shL_len : ∀ ts : List Tk, (shL ts).length ≤ (ts.map fun t => t.2.1.length).sum + ts.length
  | [] => Nat.zero_le _
  | [t] => by rw [shL_one]; simp
  | t :: u :: r => by
    have ih := shL_len (u :: r)
    rw [shL_cons, List.length_append, List.length_cons, List.map_cons, List.sum_cons, List.length_cons]
    omega
theorem shL_mem {x : Nat} : ∀ {ts : List Tk}, x ∈ shL ts → x = 32 ∨ ∃ t ∈ ts, x ∈ t.2.1
  | [], h => by cases h
  | [t], h => by rw [shL_one] at h; exact Or.inr ⟨t, by simp, h⟩
  | t :: u :: r, h => by
    rw [shL_cons] at h
    rcases List.mem_append.1 h with h | h
    · exact Or.inr ⟨t, by simp, h⟩
    · rcases List.mem_cons.1 h with h | h
      · exact Or.inl h
      · rcases shL_mem h with h | ⟨y, hy, h⟩
        · exact Or.inl h
        · exact Or.inr ⟨y, by simp [hy], h⟩
noncomputable def alC : Cfg := ⟨goZ 60 [0] [.code (bodyOf Tryd.f16)], ⟨0, [], []⟩⟩
noncomputable def alS (a1 a2 : Option Addr) (n1 n2 c1 c2 j : Nat) : SS := ⟨54, [(0, .v (.slice a1 n1 c1)), (1, .v (.slice a2 n2 c2)), (5, .v (.int .i64 (j : Int)))], []⟩
set_option maxHeartbeats 8000000 in
theorem al_e (w0 : World) (xs ys : List Tk) (a1 a2 : Option Addr) (c1 c2 b1 o1 b2 o2 : Nat) (h1 : xs.length = 0 ∨ a1 = some ⟨b1, o1, none⟩) (h2 : ys.length = 0 ∨ a2 = some ⟨b2, o2, none⟩) (hl : xs.length ≤ 100000) (hn : xs.length = ys.length) (hx : ∀ t ∈ xs, ∀ b ∈ t.2.1, b < 256) (hq : ∀ i, i < xs.length → (ys.getD i tk0).1 = (xs.getD i tk0).1 ∧ (ys.getD i tk0).2.1 = (xs.getD i tk0).2.1 ∧ (ys.getD i tk0).2.2.1 = (xs.getD i tk0).2.2.1) (m : Nat) (aa : Act) (w : World) (S : Sy w0 [] [] (alS a1 a2 xs.length ys.length c1 c2 (xs.length)) [rfTk b1 o1 xs, rfTk b2 o2 ys] aa w) : post Tryd.prog (.rnd (m + 1) (bodyL alC) :: alC.k.tail) (bodyPost Tryd.prog Tryd.f16 (fun e w' => e = .returned (.bool true) ∧ Below w0.heap.size w0 w')) .normal aa w := by
  refine sy_run (c := ⟨(.rnd (m + 1) (bodyL alC) :: alC.k.tail), alS a1 a2 xs.length ys.length c1 c2 xs.length⟩) ⟨0, [4]⟩ 50 S fun bs aa w S => ?_
  refine sy_reg S fun S => ?_
  refine sy_ops 4 S fun bs aa w S => ?_
  refine sy_cast 14 S (congrArg Value.bool (decide_eq_false (by omega) : decide ((xs.length : Int) < (xs.length : Int)) = false)) (by kernel_rfl) fun S => ?_
  refine sy_run ⟨0, []⟩ 60 S fun bs aa w S => ?_
  exact sy_ret S (by kernel_rfl) (by kernel_rfl) fun hg => ⟨rfl, bel_gr hg⟩
set_option maxHeartbeats 8000000 in
theorem al_s (w0 : World) (xs ys : List Tk) (a1 a2 : Option Addr) (c1 c2 b1 o1 b2 o2 : Nat) (h1 : xs.length = 0 ∨ a1 = some ⟨b1, o1, none⟩) (h2 : ys.length = 0 ∨ a2 = some ⟨b2, o2, none⟩) (hl : xs.length ≤ 100000) (hn : xs.length = ys.length) (hx : ∀ t ∈ xs, ∀ b ∈ t.2.1, b < 256) (hq : ∀ i, i < xs.length → (ys.getD i tk0).1 = (xs.getD i tk0).1 ∧ (ys.getD i tk0).2.1 = (xs.getD i tk0).2.1 ∧ (ys.getD i tk0).2.2.1 = (xs.getD i tk0).2.2.1) (m j : Nat) (hj : j < xs.length) (ih : ∀ (aa : Act) (w : World) (S : Sy w0 [] [] (alS a1 a2 xs.length ys.length c1 c2 (j + 1)) [rfTk b1 o1 xs, rfTk b2 o2 ys] aa w), post Tryd.prog (.rnd (m) (bodyL alC) :: alC.k.tail) (bodyPost Tryd.prog Tryd.f16 (fun e w' => e = .returned (.bool true) ∧ Below w0.heap.size w0 w')) .normal aa w) (aa : Act) (w : World) (S : Sy w0 [] [] (alS a1 a2 xs.length ys.length c1 c2 (j)) [rfTk b1 o1 xs, rfTk b2 o2 ys] aa w) : post Tryd.prog (.rnd (m + 1) (bodyL alC) :: alC.k.tail) (bodyPost Tryd.prog Tryd.f16 (fun e w' => e = .returned (.bool true) ∧ Below w0.heap.size w0 w')) .normal aa w := by
  obtain ⟨e1, e2, e3⟩ := hq j hj
  have hs := hx _ (getD_mem xs j tk0 hj)
  refine sy_run (c := ⟨(.rnd (m + 1) (bodyL alC) :: alC.k.tail), alS a1 a2 xs.length ys.length c1 c2 j⟩) ⟨0, [4]⟩ 50 S fun bs aa w S => ?_
  refine sy_reg S fun S => ?_
  refine sy_ops 4 S fun bs aa w S => ?_
  refine sy_cast 14 S (congrArg Value.bool (decide_eq_true (by omega) : decide ((j : Int) < (xs.length : Int)) = true)) (by kernel_rfl) fun S => ?_
  refine sy_run ⟨0, []⟩ 60 S fun bs aa w S => ?_
  letI : KP := ⟨[27, 39, 52]⟩
  letI : HF := ⟨[rfTk b1 o1 xs, rfTk b2 o2 ys]⟩
  refine dr_enter [] (by kernel_rfl) (by kernel_rfl) S (by kernel_rfl) (fun aa w D => ?_) (fun f hf => by have hf2 : f ∈ [rfTk b1 o1 xs, rfTk b2 o2 ys] := hf; simp only [List.mem_cons, List.not_mem_nil, or_false] at hf2; rcases hf2 with rfl | rfl <;> simp)
  refine dr_tix 2 D (by kernel_rfl) (by kernel_rfl) (by kernel_rfl) (b := b1) (off := o1) (len := xs.length) (n := j) (size := 4) (ix := (j : Int)) (by rw [← h1.resolve_left (by omega)]; kernel_rfl) rfl (by omega) fun aa D => ?_
  refine dr_tld 4 D (by kernel_rfl) (by kernel_rfl) (by kernel_rfl) (ty := 3) (ad := ⟨b1, o1 + j * 4 + 0, none⟩) (v := .int .i64 ((xs.getD j tk0).1 : Int)) (fun W hW => ld_at (by kernel_rfl) (by have q := ((show TkAt W b1 o1 xs from hW (rfTk b1 o1 xs) (by show _ ∈ [rfTk b1 o1 xs, rfTk b2 o2 ys]; simp)) j (by omega)).1; exact q)) (by kernel_rfl) fun aa D => ?_
  refine dr_tix 7 D (by kernel_rfl) (by kernel_rfl) (by kernel_rfl) (b := b2) (off := o2) (len := ys.length) (n := j) (size := 4) (ix := (j : Int)) (by rw [← h2.resolve_left (by omega)]; kernel_rfl) rfl (by omega) fun aa D => ?_
  refine dr_tld 9 D (by kernel_rfl) (by kernel_rfl) (by kernel_rfl) (ty := 3) (ad := ⟨b2, o2 + j * 4 + 0, none⟩) (v := .int .i64 ((xs.getD j tk0).1 : Int)) (fun W hW => ld_at (by kernel_rfl) (by have q := ((show TkAt W b2 o2 ys from hW (rfTk b2 o2 ys) (by show _ ∈ [rfTk b1 o1 xs, rfTk b2 o2 ys]; simp)) j (by omega)).1; rw [e1] at q; exact q)) (by kernel_rfl) fun aa D => ?_
  refine dr_ex2 (fun d v c a w h => by cases d <;> exact h) 10 (op := .binOp .neq 3 (.tmp 21) (.tmp 26) 3) (ty := 4) (v := .bool false) D (by kernel_rfl) (by kernel_rfl) (by kernel_rfl) (by kernel_rfl) (ex_neI (ki := .i64) (p := ((xs.getD j tk0).1 : Int)) (q := ((xs.getD j tk0).1 : Int)) (by kernel_rfl) (by kernel_rfl) (by rw [decide_eq_true rfl]; rfl)) fun aa D => ?_
  refine dr_tix 14 D (by kernel_rfl) (by kernel_rfl) (by kernel_rfl) (b := b1) (off := o1) (len := xs.length) (n := j) (size := 4) (ix := (j : Int)) (by rw [← h1.resolve_left (by omega)]; kernel_rfl) rfl (by omega) fun aa D => ?_
  refine dr_tld 16 D (by kernel_rfl) (by kernel_rfl) (by kernel_rfl) (ty := 9) (ad := ⟨b1, o1 + j * 4 + 1, none⟩) (v := .string (strOf (xs.getD j tk0).2.1)) (fun W hW => ld_at (by kernel_rfl) (by have q := ((show TkAt W b1 o1 xs from hW (rfTk b1 o1 xs) (by show _ ∈ [rfTk b1 o1 xs, rfTk b2 o2 ys]; simp)) j (by omega)).2.1; exact q)) (by kernel_rfl) fun aa D => ?_
  refine dr_tix 19 D (by kernel_rfl) (by kernel_rfl) (by kernel_rfl) (b := b2) (off := o2) (len := ys.length) (n := j) (size := 4) (ix := (j : Int)) (by rw [← h2.resolve_left (by omega)]; kernel_rfl) rfl (by omega) fun aa D => ?_
  refine dr_tld 21 D (by kernel_rfl) (by kernel_rfl) (by kernel_rfl) (ty := 9) (ad := ⟨b2, o2 + j * 4 + 1, none⟩) (v := .string (strOf (xs.getD j tk0).2.1)) (fun W hW => ld_at (by kernel_rfl) (by have q := ((show TkAt W b2 o2 ys from hW (rfTk b2 o2 ys) (by show _ ∈ [rfTk b1 o1 xs, rfTk b2 o2 ys]; simp)) j (by omega)).2.1; rw [e2] at q; exact q)) (by kernel_rfl) fun aa D => ?_
  refine dr_ex2 (fun d v c a w h => by cases d <;> exact h) 22 (op := .binOp .neq 9 (.tmp 33) (.tmp 38) 9) (ty := 4) (v := .bool false) D (by kernel_rfl) (by kernel_rfl) (by kernel_rfl) (by kernel_rfl) (ex_neL (l := (xs.getD j tk0).2.1) (m := (xs.getD j tk0).2.1) (by kernel_rfl) (by kernel_rfl) hs hs (by rw [decide_eq_true rfl]; rfl)) fun aa D => ?_
  refine dr_tix 27 D (by kernel_rfl) (by kernel_rfl) (by kernel_rfl) (b := b1) (off := o1) (len := xs.length) (n := j) (size := 4) (ix := (j : Int)) (by rw [← h1.resolve_left (by omega)]; kernel_rfl) rfl (by omega) fun aa D => ?_
  refine dr_tld 29 D (by kernel_rfl) (by kernel_rfl) (by kernel_rfl) (ty := 3) (ad := ⟨b1, o1 + j * 4 + 2, none⟩) (v := .int .i64 ((xs.getD j tk0).2.2.1 : Int)) (fun W hW => ld_at (by kernel_rfl) (by have q := ((show TkAt W b1 o1 xs from hW (rfTk b1 o1 xs) (by show _ ∈ [rfTk b1 o1 xs, rfTk b2 o2 ys]; simp)) j (by omega)).2.2.1; exact q)) (by kernel_rfl) fun aa D => ?_
  refine dr_tix 32 D (by kernel_rfl) (by kernel_rfl) (by kernel_rfl) (b := b2) (off := o2) (len := ys.length) (n := j) (size := 4) (ix := (j : Int)) (by rw [← h2.resolve_left (by omega)]; kernel_rfl) rfl (by omega) fun aa D => ?_
  refine dr_tld 34 D (by kernel_rfl) (by kernel_rfl) (by kernel_rfl) (ty := 3) (ad := ⟨b2, o2 + j * 4 + 2, none⟩) (v := .int .i64 ((xs.getD j tk0).2.2.1 : Int)) (fun W hW => ld_at (by kernel_rfl) (by have q := ((show TkAt W b2 o2 ys from hW (rfTk b2 o2 ys) (by show _ ∈ [rfTk b1 o1 xs, rfTk b2 o2 ys]; simp)) j (by omega)).2.2.1; rw [e3] at q; exact q)) (by kernel_rfl) fun aa D => ?_
  refine dr_ex2 (fun d v c a w h => by cases d <;> exact h) 35 (op := .binOp .neq 3 (.tmp 46) (.tmp 51) 3) (ty := 4) (v := .bool false) D (by kernel_rfl) (by kernel_rfl) (by kernel_rfl) (by kernel_rfl) (ex_neI (ki := .i64) (p := ((xs.getD j tk0).2.2.1 : Int)) (q := ((xs.getD j tk0).2.2.1 : Int)) (by kernel_rfl) (by kernel_rfl) (by rw [decide_eq_true rfl]; rfl)) fun aa D => ?_
  refine dr_end D (by kernel_rfl) fun S => ?_
  refine sy_run ⟨0, [5]⟩ 60 S fun bs aa w S => ?_
  refine sy_reg S fun S => ?_
  refine sy_ops 2 S fun bs aa w S => ?_
  refine sy_cast 16 S (congrArg (Value.int .i64) (by rw [IntKind.wrap_i64]; omega : IntKind.i64.wrap ((j : Int) + 1) = ((j + 1 : Nat) : Int))) (by kernel_rfl) fun S => ?_
  refine sy_run ⟨0, [999]⟩ 50 S fun bs aa w S => ?_
  have S2 := S.to [] (alS a1 a2 xs.length ys.length c1 c2 (j + 1)) (by kernel_rfl) (by kernel_rfl) (by kernel_rfl) (by kernel_rfl) (by kernel_rfl)
  refine sy_at2 (k' := (.rnd (m) (bodyL alC) :: alC.k.tail)) (by kernel_rfl) ?_
  exact ih aa w S2
theorem al_a (w0 : World) (xs ys : List Tk) (a1 a2 : Option Addr) (c1 c2 b1 o1 b2 o2 : Nat) (h1 : xs.length = 0 ∨ a1 = some ⟨b1, o1, none⟩) (h2 : ys.length = 0 ∨ a2 = some ⟨b2, o2, none⟩) (hl : xs.length ≤ 100000) (hn : xs.length = ys.length) (hx : ∀ t ∈ xs, ∀ b ∈ t.2.1, b < 256) (hq : ∀ i, i < xs.length → (ys.getD i tk0).1 = (xs.getD i tk0).1 ∧ (ys.getD i tk0).2.1 = (xs.getD i tk0).2.1 ∧ (ys.getD i tk0).2.2.1 = (xs.getD i tk0).2.2.1) : ∀ (m j : Nat), j + m = xs.length → ∀ (aa : Act) (w : World) (S : Sy w0 [] [] (alS a1 a2 xs.length ys.length c1 c2 (j)) [rfTk b1 o1 xs, rfTk b2 o2 ys] aa w), post Tryd.prog (.rnd (m + 1) (bodyL alC) :: alC.k.tail) (bodyPost Tryd.prog Tryd.f16 (fun e w' => e = .returned (.bool true) ∧ Below w0.heap.size w0 w')) .normal aa w := by
  intro m
  induction m with
  | zero => intro j hj aa w S; obtain rfl : j = xs.length := by omega
            exact al_e w0 xs ys a1 a2 c1 c2 b1 o1 b2 o2 h1 h2 hl hn hx hq 0 aa w S
  | succ m ih => intro j hj aa w S; exact al_s w0 xs ys a1 a2 c1 c2 b1 o1 b2 o2 h1 h2 hl hn hx hq (m + 1) j (by omega) (fun aa w S => ih (j + 1) (by omega) aa w S) aa w S
set_option maxHeartbeats 8000000 in
theorem alike_t (w0 : World) (xs ys : List Tk) (a1 a2 : Option Addr) (c1 c2 b1 o1 b2 o2 : Nat) (h1 : xs.length = 0 ∨ a1 = some ⟨b1, o1, none⟩) (h2 : ys.length = 0 ∨ a2 = some ⟨b2, o2, none⟩) (hl : xs.length ≤ 100000) (hn : xs.length = ys.length) (hx : ∀ t ∈ xs, ∀ b ∈ t.2.1, b < 256) (hq : ∀ i, i < xs.length → (ys.getD i tk0).1 = (xs.getD i tk0).1 ∧ (ys.getD i tk0).2.1 = (xs.getD i tk0).2.1 ∧ (ys.getD i tk0).2.2.1 = (xs.getD i tk0).2.2.1) (hA : TkAt w0 b1 o1 xs) (hB : TkAt w0 b2 o2 ys) : Calls Tryd.prog 16 #[.slice a1 xs.length c1, .slice a2 ys.length c2] w0 (fun e w' => e = .returned (.bool true) ∧ Below w0.heap.size w0 w') := by
  refine sy_enterF [] [rfTk b1 o1 xs, rfTk b2 o2 ys] (by intro f hf; simp only [List.mem_cons, List.not_mem_nil, or_false] at hf; rcases hf with rfl | rfl; exact hA; exact hB) Tryd.func16 rfl rfl fun aa S => ?_
  refine sy_run ⟨0, [1]⟩ 60 S fun bs aa w S => ?_
  refine sy_reg S fun S => ?_
  refine sy_ops 5 S fun bs aa w S => ?_
  refine sy_cast 10 S (congrArg Value.bool (by rw [decide_eq_true (by omega)]; rfl : (!decide ((xs.length : Int) = (ys.length : Int))) = false)) (by kernel_rfl) fun S => ?_
  refine sy_run ⟨0, []⟩ 60 S fun bs aa w S => ?_
  have S2 := S.to [] (alS a1 a2 xs.length ys.length c1 c2 0) (by kernel_rfl) (by kernel_rfl) (by kernel_rfl) (by kernel_rfl) (by kernel_rfl)
  refine sy_loop (xs.length + 1) (by kernel_rfl) ?_
  refine sy_at2 (k' := (.rnd (xs.length + 1) (bodyL alC) :: alC.k.tail)) (by kernel_rfl) ?_
  exact al_a w0 xs ys a1 a2 c1 c2 b1 o1 b2 o2 h1 h2 hl hn hx hq xs.length 0 (by omega) aa w S2
set_option maxHeartbeats 8000000 in
theorem rt_all (w0 : World) (hG : rfSg.P w0) (l : List Nat) (hl : ∀ b ∈ l, b < 256) : Calls Tryd.prog 6 #[.string (strOf l)] w0 (fun e w' => e = .returned (.bool true) ∧ Below w0.heap.size w0 w') := by
  refine sy_enterF [] [rfSg] (by intro f hf; simp only [List.mem_singleton] at hf; subst hf; exact hG) Tryd.func6 rfl rfl fun aa S => ?_
  refine sy_run ⟨0, [1]⟩ 60 S fun bs aa w S => ?_
  refine sy_reg S fun S => ?_
  refine sy_call1 S (sane4 w (S.fact (f := rfSg) (by simp))) (by kernel_rfl) fun aa w hb S => ?_
  refine sy_run ⟨0, [2]⟩ 60 S fun bs aa w S => ?_
  refine sy_reg S fun S => ?_
  refine sy_ops 2 S fun bs aa w S => ?_
  refine sy_cast 11 S (congrArg (Value.int .i64) (by rw [strOf_size] : ((strOf l).size : Int) = (l.length : Int))) (by kernel_rfl) fun S => ?_
  refine sy_ops 1 S fun bs aa w S => ?_
  by_cases h6 : l.length ≤ 600
  case neg =>
    refine sy_cast 12 S (congrArg Value.bool (decide_eq_true (by omega) : decide ((l.length : Int) > 600) = true)) (by kernel_rfl) fun S => ?_
    refine sy_run ⟨0, []⟩ 60 S fun bs aa w S => ?_
    exact sy_ret S (by kernel_rfl) (by kernel_rfl) fun hg => ⟨rfl, bel_gr hg⟩
  refine sy_cast 12 S (congrArg Value.bool (decide_eq_false (by omega) : decide ((l.length : Int) > 600) = false)) (by kernel_rfl) fun S => ?_
  have hrl := lex_len (l := l)
  have hr256 := lex_256 (l := l)
  cases hR : lexW l 0 with
  | none =>
    refine sy_run ⟨0, [4]⟩ 60 S fun bs aa w S => ?_
    refine sy_reg S fun S => ?_
    refine sy_ops 1 S fun bs aa w S => ?_
    refine sy_nm S fun bs S => ?_
    have hlt := fun i hi => S.lt (i := i) hi
    refine sy_call S (X := Option Addr × Nat × Nat × Nat) (val := fun q => wdV q (none)) (C := fun q w' => wdC2 w (none) q w') (by have q := words_t w (S.fact (f := rfSg) (by simp)) l (hl) (by omega); rw [hR] at q; exact q.mono fun _ _ h => wd_row h) (by kernel_rfl) fun x aa w hx hb S => ?_
    have S := S.add (rfTk x.2.2.1 0 ((none).getD [])) hx.2.1 (fun i hi hbl => by have h1 := hlt i hi; have h2 := hbl.1; have h3 := hx.2.2.1.resolve_left hbl.2; omega)
    refine sy_run ⟨0, []⟩ 60 S fun bs aa w S => ?_
    exact sy_ret S (by kernel_rfl) (by kernel_rfl) fun hg => ⟨rfl, bel_gr hg⟩
  | some ts =>
    rw [hR] at hrl hr256
    have hrl : ts.length ≤ l.length := hrl
    have hr256 : ∀ t ∈ ts, ∀ b ∈ t.2.1, b < 256 := hr256
    obtain ⟨hgd, hsum⟩ := lexF_good l.length l 0 ts hR
    have hsl := shL_len ts
    have hs256 : ∀ b ∈ shL ts, b < 256 := fun b hb => by
      rcases shL_mem hb with rfl | ⟨t, ht, hb⟩
      · decide
      · exact hr256 t ht b hb
    have hre := relex ts hgd 0
    have hrn := reT_len ts 0
    refine sy_run ⟨0, [4]⟩ 60 S fun bs aa w S => ?_
    refine sy_reg S fun S => ?_
    refine sy_ops 1 S fun bs aa w S => ?_
    refine sy_nm S fun bs S => ?_
    have hlt := fun i hi => S.lt (i := i) hi
    refine sy_call S (X := Option Addr × Nat × Nat × Nat) (val := fun q => wdV q (some ts)) (C := fun q w' => wdC2 w (some ts) q w') (by have q := words_t w (S.fact (f := rfSg) (by simp)) l (hl) (by omega); rw [hR] at q; exact q.mono fun _ _ h => wd_row h) (by kernel_rfl) fun x aa w hx hb S => ?_
    have S := S.add (rfTk x.2.2.1 0 ((some ts).getD [])) hx.2.1 (fun i hi hbl => by have h1 := hlt i hi; have h2 := hbl.1; have h3 := hx.2.2.1.resolve_left hbl.2; omega)
    refine sy_run ⟨0, [7]⟩ 60 S fun bs aa w S => ?_
    refine sy_reg S fun S => ?_
    refine sy_ops 1 S fun bs aa w S => ?_
    have hX : TkAt w x.2.2.1 0 ts := S.fact (f := rfTk x.2.2.1 0 ((some ts).getD [])) (by simp)
    have hXl : ts.length = 0 ∨ x.2.2.1 < w.heap.size := by
      by_cases h : ts.length = 0
      · exact Or.inl h
      · exact Or.inr ((rfTk x.2.2.1 0 ts).lt w hX x.2.2.1 ⟨rfl, h⟩)
    refine sy_call1 S (show_t w ts x.1 x.2.1 x.2.2.1 0 hx.1 (by omega) (by omega) hXl hX) (by kernel_rfl) fun aa w hb S => ?_
    refine sy_run ⟨0, [8]⟩ 60 S fun bs aa w S => ?_
    refine sy_reg S fun S => ?_
    refine sy_ops 1 S fun bs aa w S => ?_
    refine sy_nm S fun bs S => ?_
    have hlt := fun i hi => S.lt (i := i) hi
    refine sy_call S (X := Option Addr × Nat × Nat × Nat) (val := fun q => wdV q (some (reT 0 ts))) (C := fun q w' => wdC2 w (some (reT 0 ts)) q w') (by have q := words_t w (S.fact (f := rfSg) (by simp)) (shL ts) hs256 (by omega); rw [hre] at q; exact q.mono fun _ _ h => wd_row h) (by kernel_rfl) fun y aa w hy hb S => ?_
    have S := S.add (rfTk y.2.2.1 0 ((some (reT 0 ts)).getD [])) hy.2.1 (fun i hi hbl => by have h1 := hlt i hi; have h2 := hbl.1; have h3 := hy.2.2.1.resolve_left hbl.2; omega)
    refine sy_run ⟨0, [9]⟩ 60 S fun bs aa w S => ?_
    refine sy_reg S fun S => ?_
    refine sy_ops 8 S fun bs aa w S => ?_
    have hX : TkAt w x.2.2.1 0 ts := S.fact (f := rfTk x.2.2.1 0 ((some ts).getD [])) (by simp)
    have hY : TkAt w y.2.2.1 0 (reT 0 ts) := S.fact (f := rfTk y.2.2.1 0 ((some (reT 0 ts)).getD [])) (by simp)
    have hy1 : (reT 0 ts).length = 0 ∨ y.1 = some ⟨y.2.2.1, 0, none⟩ := hy.1
    refine sy_call1 S (alike_t w ts (reT 0 ts) x.1 y.1 x.2.1 y.2.1 x.2.2.1 0 y.2.2.1 0 hx.1 hy1 (by omega) hrn.symm hr256 (fun i hi => reT_at ts 0 i hi) hX hY) (by kernel_rfl) fun aa w hb S => ?_
    refine sy_ops 3 S fun bs aa w S => ?_
    have hY : TkAt w y.2.2.1 0 (reT 0 ts) := S.fact (f := rfTk y.2.2.1 0 ((some (reT 0 ts)).getD [])) (by simp)
    have hYl : (reT 0 ts).length = 0 ∨ y.2.2.1 < w.heap.size := by
      by_cases h : (reT 0 ts).length = 0
      · exact Or.inl h
      · exact Or.inr ((rfTk y.2.2.1 0 (reT 0 ts)).lt w hY y.2.2.1 ⟨rfl, h⟩)
    refine sy_call1 S (by have q := show_t w (reT 0 ts) y.1 y.2.1 y.2.2.1 0 hy1 (by omega) (by rw [shL_re]; omega) hYl hY; rw [shL_re] at q; exact q) (by kernel_rfl) fun aa w hb S => ?_
    refine sy_ops 1 S fun bs aa w S => ?_
    refine sy_ex (op := .binOp .eql 9 (.tmp 41) (.tmp 42) 9) (ty := 4) (v := .bool true) S (by kernel_rfl) (ex_eqL (l := shL ts) (m := shL ts) (by kernel_rfl) (by kernel_rfl) hs256 hs256 (decide_eq_true rfl)) fun aa S => ?_
    refine sy_run ⟨0, []⟩ 60 S fun bs aa w S => ?_
    exact sy_ret S (by kernel_rfl) (by kernel_rfl) fun hg => ⟨rfl, bel_gr hg⟩
end Go.Proofs.YthkgmahkmflfkaaDoor
