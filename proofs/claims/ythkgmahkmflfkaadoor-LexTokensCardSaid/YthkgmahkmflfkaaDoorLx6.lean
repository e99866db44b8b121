
/-
  Layer 4: the tokens of a text.
-/
import Derived.Test.YthkgmahkmflfkaaDoorRows
import Derived.Test.YthkgmahkmflfkaaDoorBase
import Derived.Test.YthkgmahkmflfkaaDoorLx5
import Derived.WalkKit
namespace Go.Proofs.YthkgmahkmflfkaaDoor
open Go Go.RowKit SZ
set_option linter.unusedVariables false
set_option linter.unusedSimpArgs false
set_option maxRecDepth 100000
attribute [local irreducible] post GD Nxt NxtAll
abbrev Tk := Nat × List Nat × Nat × Nat
def lexF : Nat → List Nat → Nat → Option (List Tk)
  | 0, _, _ => some []
  | _ + 1, [], _ => some []
  | f + 1, c :: r, a => if spcB c then lexF f r (a + 1) else match tokL (c :: r) with
    | none => none
    | some t => (lexF f ((c :: r).drop t.2.1.length) (a + t.2.1.length)).map fun q => (t.1, t.2.1, t.2.2, a) :: q
theorem take_lt {l m : List Nat} (h : l.take m.length = m) : m.length ≤ l.length := by
  have := congrArg List.length h
  rw [List.length_take] at this
  omega
theorem fstP_pre (l : List Nat) : ∀ r : List (List Nat), l.take (fstP l r).length = fstP l r
  | [] => by simp [fstP]
  | m :: r => by
    unfold fstP
    split
    · next h => exact h
    · exact fstP_pre l r
theorem fstP_mem (l : List Nat) : ∀ r : List (List Nat), fstP l r = [] ∨ fstP l r ∈ r
  | [] => Or.inl rfl
  | m :: r => by
    unfold fstP
    split
    · exact Or.inr (by simp)
    · rcases fstP_mem l r with h | h
      · exact Or.inl h
      · exact Or.inr (by simp [h])
theorem sgL_128 : ∀ m ∈ sgL, ∀ b ∈ m, b < 128 := by decide
theorem sgL_cls : ∀ m ∈ sgL, ∀ b ∈ m, spcB b = false ∧ wordB b = false := by decide
theorem tw_pre (K : Nat → Bool) : ∀ l : List Nat, l.take (l.takeWhile K).length = l.takeWhile K
  | [] => rfl
  | x :: l => by
    rw [List.takeWhile_cons]
    split
    · simp [tw_pre K l]
    · rfl
theorem word_lo {c : Nat} (h : wordB c = true) : c < 128 := by
  rcases Nat.lt_or_ge c 128 with q | q
  · exact q
  · rw [word_hi q] at h; cases h
theorem dig_lo {c : Nat} (h : digB c = true) : c < 128 := by
  rcases Nat.lt_or_ge c 128 with q | q
  · exact q
  · rw [dig_hi q] at h; cases h
theorem spc_lo {c : Nat} (h : spcB c = true) : c < 128 := by
  simp only [spcB, Bool.or_eq_true, decide_eq_true_eq] at h
  omega
/-- What a token is: a prefix of one byte at least, of bytes below 128. -/
theorem tokL_is {l : List Nat} {t : Nat × List Nat × Nat} (h : tokL l = some t) : l.take t.2.1.length = t.2.1 ∧ 1 ≤ t.2.1.length ∧ ∀ b ∈ t.2.1, b < 128 := by
  match l, h with
  | c :: r, h =>
    unfold tokL at h
    cases h1 : lettB c with
    | true =>
      simp only [h1, if_true] at h
      split at h
      · simp only [Option.some.injEq] at h
        subst h
        refine ⟨tw_pre _ _, ?_, fun b hb => word_lo (mem_tw hb).2⟩
        have hw : wordB c = true := by unfold wordB; rw [h1]; rfl
        simp [List.takeWhile_cons, hw]
      · cases h
    | false =>
      simp only [h1, Bool.false_eq_true, if_false] at h
      cases h2 : digB c with
      | true =>
        simp only [h2, if_true] at h
        split at h
        · simp only [Option.some.injEq] at h
          subst h
          refine ⟨tw_pre _ _, ?_, fun b hb => dig_lo (mem_tw hb).2⟩
          simp [List.takeWhile_cons, h2]
        · cases h
      | false =>
        simp only [h2, Bool.false_eq_true, if_false] at h
        split at h
        · cases h
        · next hn =>
          simp only [Option.some.injEq] at h
          subst h
          refine ⟨fstP_pre _ _, ?_, fun b hb => ?_⟩
          · simp only
            rcases Nat.eq_zero_or_pos (fstP (c :: r) sgL).length with q | q
            · exact absurd (List.eq_nil_of_length_eq_zero q) hn
            · exact q
          · exact sgL_128 _ ((fstP_mem _ _).resolve_left hn) b hb
theorem tokL_len {l : List Nat} {t : Nat × List Nat × Nat} (h : tokL l = some t) : t.2.1.length ≤ l.length := take_lt (tokL_is h).1
theorem lexF_eq : ∀ (f g : Nat) (l : List Nat) (a : Nat), l.length ≤ f → l.length ≤ g → lexF f l a = lexF g l a
  | 0, g, l, a, hf, hg => by
    obtain rfl := List.eq_nil_of_length_eq_zero (Nat.le_zero.1 hf)
    cases g <;> rfl
  | f + 1, 0, l, a, hf, hg => by
    obtain rfl := List.eq_nil_of_length_eq_zero (Nat.le_zero.1 hg)
    rfl
  | f + 1, g + 1, [], a, _, _ => rfl
  | f + 1, g + 1, c :: r, a, hf, hg => by
    simp only [List.length_cons] at hf hg
    unfold lexF
    split
    · exact lexF_eq f g r (a + 1) (by omega) (by omega)
    · cases h : tokL (c :: r) with
      | none => rfl
      | some t =>
        have h1 := (tokL_is h).2.1
        simp only
        rw [lexF_eq f g _ _ (by rw [List.length_drop, List.length_cons]; omega) (by rw [List.length_drop, List.length_cons]; omega)]
def lexW (l : List Nat) (a : Nat) : Option (List Tk) := lexF l.length l a
theorem lexW_spc {c : Nat} {r : List Nat} {a : Nat} (h : spcB c = true) : lexW (c :: r) a = lexW r (a + 1) := by
  show lexF (r.length + 1) (c :: r) a = _
  unfold lexF
  rw [if_pos h]
  rfl
theorem lexW_tok {c : Nat} {r : List Nat} {a : Nat} (h : spcB c = false) : lexW (c :: r) a = match tokL (c :: r) with
    | none => none
    | some t => (lexW ((c :: r).drop t.2.1.length) (a + t.2.1.length)).map fun q => (t.1, t.2.1, t.2.2, a) :: q := by
  show lexF (r.length + 1) (c :: r) a = _
  unfold lexF
  rw [if_neg (by rw [h]; decide)]
  cases hk : tokL (c :: r) with
  | none => rfl
  | some t =>
    have h1 := (tokL_is hk).2.1
    simp only
    unfold lexW
    rw [lexF_eq r.length _ _ _ (by rw [List.length_drop, List.length_cons]; omega) (Nat.le_refl _)]
def tkC (ts : List Tk) : List Value := ts.flatMap fun t => [.int .i64 (t.1 : Int), .string (strOf t.2.1), .int .i64 (t.2.2.1 : Int), .int .i64 (t.2.2.2 : Int)]
theorem tkC_snoc (ts : List Tk) (t : Tk) : tkC (ts ++ [t]) = tkC ts ++ [.int .i64 (t.1 : Int), .string (strOf t.2.1), .int .i64 (t.2.2.1 : Int), .int .i64 (t.2.2.2 : Int)] := by simp [tkC]
def erO : Option (List Tk) → Int
  | none => 3
  | some _ => 0
theorem infTok : (Tryd.prog.info? 30).map (fun i => (i.zero, i.size, i.bytes)) = some (some (.agg #[.int .i64 0, .string ByteArray.empty, .int .i64 0, .int .i64 0]), 4, 40) := by kernel_rfl
/-- What Words answers. -/
def wdP (w0 : World) (R : Option (List Tk)) (e : Ending) (w' : World) : Prop := (∃ v, e = .returned (.tuple #[v, .int .i64 (erO R)]) ∧ w'.ownsRow w0.heap.size 30 4 v (R.getD []).length (tkC (R.getD []))) ∧ Below w0.heap.size w0 w'
theorem own_nil (w : World) (B : Nat) : w.ownsRow B 30 4 (.slice none 0 0) 0 [] := ⟨rfl, Or.inl ⟨rfl, rfl⟩⟩
noncomputable def wdC : Cfg := ⟨goZ 60 [0] [.code (bodyOf Tryd.f10)], ⟨0, [], []⟩⟩
noncomputable def wdS (l : List Nat) (v : Value) (e g : Nat) : SS := ⟨45, [(0, .v (.string (strOf l))), (4, .v v), (5, .v (.int .i64 (e : Int))), (14, .v (.pointer (some ⟨g, 0, none⟩)))], []⟩
set_option maxHeartbeats 8000000 in
theorem wd_e (w0 : World) (h00 : 0 < w0.heap.size) (l : List Nat) (hl : ∀ b ∈ l, b < 256) (hl3 : l.length ≤ 3000) (g : Nat) (hg : w0.heap.size ≤ g) (m : Nat) (v : Value) (e : Nat) (acc : List Tk) (hv : ∀ b, Value.ownBlock v = some b → b ≠ g) (he : e ≤ l.length) (hA : ∀ i, l.length ≤ i → i < e → l.getD i 0 < 128) (hn : (acc).length ≤ max (l.length) (e)) (hR : lexW l 0 = (lexW (l.drop (max (l.length) (e))) (max (l.length) (e))).map fun q => (acc) ++ q) (aa : Act) (w : World) (S : Sy w0 [] [] (wdS l v (e) g) [rfIt g (strOf l) (l.length), rfOwn w0.heap.size 30 4 v (acc).length (tkC (acc)), rfSg] aa w) : post Tryd.prog (.rnd (m + 1) (bodyL wdC) :: wdC.k.tail) (bodyPost Tryd.prog Tryd.f10 (wdP w0 (lexW l 0))) .normal aa w := by
  have hRs : lexW l 0 = some acc := by
    rw [hR, Nat.max_eq_left he, List.drop_length]
    show (some []).map _ = _
    simp
  refine sy_run (c := ⟨(.rnd (m + 1) (bodyL wdC) :: wdC.k.tail), wdS l v e g⟩) ⟨0, [6]⟩ 50 S fun bs aa w S => ?_
  refine sy_reg S fun S => ?_
  refine sy_nxe (ty := 0) (x := .tmp 14) S (by kernel_rfl) (by kernel_rfl) (by rw [strOf_size]; omega) fun aa S => ?_
  refine sy_run ⟨0, []⟩ 60 S fun bs aa w S => ?_
  have how : w.ownsRow w0.heap.size 30 4 v acc.length (tkC acc) := S.fact (f := rfOwn w0.heap.size 30 4 v (acc).length (tkC (acc))) (by simp)
  rw [hRs]
  exact sy_ret S (by kernel_rfl) (by kernel_rfl) fun hg => ⟨⟨v, rfl, how⟩, bel_gr hg⟩
set_option maxHeartbeats 8000000 in
theorem wd_i (w0 : World) (h00 : 0 < w0.heap.size) (l : List Nat) (hl : ∀ b ∈ l, b < 256) (hl3 : l.length ≤ 3000) (g : Nat) (hg : w0.heap.size ≤ g) (m p : Nat) (hp : p < l.length) (v : Value) (e : Nat) (hpe : p < e) (acc : List Tk) (hv : ∀ b, Value.ownBlock v = some b → b ≠ g) (he : e ≤ l.length) (hA : ∀ i, p ≤ i → i < e → l.getD i 0 < 128) (hn : (acc).length ≤ max (p) (e)) (hR : lexW l 0 = (lexW (l.drop (max (p) (e))) (max (p) (e))).map fun q => (acc) ++ q) (ih : ∀ (v2 : Value) (e2 : Nat) (acc2 : List Tk) (hv : ∀ b, Value.ownBlock v2 = some b → b ≠ g) (he : e2 ≤ l.length) (hA : ∀ i, p + 1 ≤ i → i < e2 → l.getD i 0 < 128) (hn : (acc2).length ≤ max (p + 1) (e2)) (hR : lexW l 0 = (lexW (l.drop (max (p + 1) (e2))) (max (p + 1) (e2))).map fun q => (acc2) ++ q) (aa : Act) (w : World) (S : Sy w0 [] [] (wdS l v2 (e2) g) [rfIt g (strOf l) (p + 1), rfOwn w0.heap.size 30 4 v2 (acc2).length (tkC (acc2)), rfSg] aa w), post Tryd.prog (.rnd (m) (bodyL wdC) :: wdC.k.tail) (bodyPost Tryd.prog Tryd.f10 (wdP w0 (lexW l 0))) .normal aa w) (aa : Act) (w : World) (S : Sy w0 [] [] (wdS l v (e) g) [rfIt g (strOf l) (p), rfOwn w0.heap.size 30 4 v (acc).length (tkC (acc)), rfSg] aa w) : post Tryd.prog (.rnd (m + 1) (bodyL wdC) :: wdC.k.tail) (bodyPost Tryd.prog Tryd.f10 (wdP w0 (lexW l 0))) .normal aa w := by
  refine sy_run (c := ⟨(.rnd (m + 1) (bodyL wdC) :: wdC.k.tail), wdS l v e g⟩) ⟨0, [6]⟩ 50 S fun bs aa w S => ?_
  refine sy_reg S fun S => ?_
  refine sy_nxt (ty := 0) (x := .tmp 14) S hg (fun f hf => by simp only [List.mem_cons, List.not_mem_nil, or_false] at hf; rcases hf with rfl | rfl; exact fun hb => hv _ hb rfl; exact fun hb => by have h : g = 0 := hb; omega) (by kernel_rfl) (by kernel_rfl) (by rw [strOf_size]; omega) (l.getD p 0) (1) (dec_lo hl hp (hA p (Nat.le_refl _) hpe)) fun aa w S => ?_
  refine sy_run ⟨0, [8]⟩ 60 S fun bs aa w S => ?_
  refine sy_reg S fun S => ?_
  refine sy_ops 3 S fun bs aa w S => ?_
  refine sy_cast 21 S (congrArg Value.bool (decide_eq_true (by omega) : decide ((p : Int) < (e : Int)) = true)) (by kernel_rfl) fun S => ?_
  refine sy_run ⟨0, [999]⟩ 50 S fun bs aa w S => ?_
  have S2 := S.to [] (wdS l v e g) (by kernel_rfl) (by kernel_rfl) (by kernel_rfl) (by kernel_rfl) (by kernel_rfl)
  refine sy_at2 (k' := (.rnd (m) (bodyL wdC) :: wdC.k.tail)) (by kernel_rfl) ?_
  exact ih v e acc hv he (fun i h1 h2 => hA i (by omega) h2) (by omega) (by rw [show max (p + 1) e = max p e by omega]; exact hR) aa w S2
theorem cls_of {l : List Nat} (hl : ∀ b ∈ l, b < 256) {p : Nat} (hp : p < l.length) : ∃ c wd, Utf8.decode (strOf l) p = (c, wd) ∧ spcB c = spcB (l.getD p 0) ∧ lettB c = lettB (l.getD p 0) ∧ digB c = digB (l.getD p 0) ∧ (l.getD p 0 < 128 → wd = 1) := by
  by_cases h : l.getD p 0 < 128
  · exact ⟨_, _, dec_lo hl hp h, rfl, rfl, rfl, fun _ => rfl⟩
  · obtain ⟨c, wd, h1, h2⟩ := dec_hi hl hp h
    have hs : ∀ c, 128 ≤ c → spcB c = false ∧ lettB c = false ∧ digB c = false := fun c hc => ⟨by unfold spcB; simp; omega, by unfold lettB; simp; omega, dig_hi hc⟩
    obtain ⟨a1, a2, a3⟩ := hs c h2
    obtain ⟨b1, b2, b3⟩ := hs (l.getD p 0) (by omega)
    exact ⟨c, wd, h1, by rw [a1, b1], by rw [a2, b2], by rw [a3, b3], fun q => absurd q h⟩
theorem map_snoc (x : Option (List Tk)) (t : Tk) (acc : List Tk) : ((x.map fun q => t :: q).map fun q => acc ++ q) = x.map fun q => (acc ++ [t]) ++ q := by
  cases x <;> simp
set_option maxHeartbeats 8000000 in
theorem wd_s (w0 : World) (h00 : 0 < w0.heap.size) (l : List Nat) (hl : ∀ b ∈ l, b < 256) (hl3 : l.length ≤ 3000) (g : Nat) (hg : w0.heap.size ≤ g) (m p : Nat) (hp : p < l.length) (v : Value) (e : Nat) (hpe : e ≤ p) (acc : List Tk) (hv : ∀ b, Value.ownBlock v = some b → b ≠ g) (he : e ≤ l.length) (hA : ∀ i, p ≤ i → i < e → l.getD i 0 < 128) (hn : (acc).length ≤ max (p) (e)) (hR : lexW l 0 = (lexW (l.drop (max (p) (e))) (max (p) (e))).map fun q => (acc) ++ q) (ih : ∀ (v2 : Value) (e2 : Nat) (acc2 : List Tk) (hv : ∀ b, Value.ownBlock v2 = some b → b ≠ g) (he : e2 ≤ l.length) (hA : ∀ i, p + 1 ≤ i → i < e2 → l.getD i 0 < 128) (hn : (acc2).length ≤ max (p + 1) (e2)) (hR : lexW l 0 = (lexW (l.drop (max (p + 1) (e2))) (max (p + 1) (e2))).map fun q => (acc2) ++ q) (aa : Act) (w : World) (S : Sy w0 [] [] (wdS l v2 (e2) g) [rfIt g (strOf l) (p + 1), rfOwn w0.heap.size 30 4 v2 (acc2).length (tkC (acc2)), rfSg] aa w), post Tryd.prog (.rnd (m) (bodyL wdC) :: wdC.k.tail) (bodyPost Tryd.prog Tryd.f10 (wdP w0 (lexW l 0))) .normal aa w) (aa : Act) (w : World) (S : Sy w0 [] [] (wdS l v (e) g) [rfIt g (strOf l) (p), rfOwn w0.heap.size 30 4 v (acc).length (tkC (acc)), rfSg] aa w) : post Tryd.prog (.rnd (m + 1) (bodyL wdC) :: wdC.k.tail) (bodyPost Tryd.prog Tryd.f10 (wdP w0 (lexW l 0))) .normal aa w := by
  obtain ⟨c, wd, hd, c1, c2, c3, c4⟩ := cls_of hl hp
  obtain ⟨c0, r, hdr⟩ : ∃ c0 r, l.drop p = c0 :: r := ⟨l[p], l.drop (p + 1), List.drop_eq_getElem_cons hp⟩
  have hnx : l.drop (p + 1) = r := by
    have h := List.drop_eq_getElem_cons hp
    rw [hdr] at h
    injection h with h1 h2
    exact h2.symm
  have hc0 : l.getD p 0 = c0 := by
    have h := List.drop_eq_getElem_cons hp
    rw [hdr] at h
    injection h with h1 h2
    rw [h1]
    simp [List.getD, List.getElem?_eq_getElem hp]
  rw [Nat.max_eq_left hpe] at hR hn
  have hR2 := hR
  rw [hdr] at hR2
  refine sy_run (c := ⟨(.rnd (m + 1) (bodyL wdC) :: wdC.k.tail), wdS l v e g⟩) ⟨0, [6]⟩ 50 S fun bs aa w S => ?_
  refine sy_reg S fun S => ?_
  refine sy_nxt (ty := 0) (x := .tmp 14) S hg (fun f hf => by simp only [List.mem_cons, List.not_mem_nil, or_false] at hf; rcases hf with rfl | rfl; exact fun hb => hv _ hb rfl; exact fun hb => by have h : g = 0 := hb; omega) (by kernel_rfl) (by kernel_rfl) (by rw [strOf_size]; omega) (c) (wd) (hd) fun aa w S => ?_
  refine sy_run ⟨0, [8]⟩ 60 S fun bs aa w S => ?_
  refine sy_reg S fun S => ?_
  refine sy_ops 3 S fun bs aa w S => ?_
  refine sy_cast 21 S (congrArg Value.bool (decide_eq_false (by omega) : decide ((p : Int) < (e : Int)) = false)) (by kernel_rfl) fun S => ?_
  refine sy_ops 2 S fun bs aa w S => ?_
  by_cases hs : spcB c0 = true
  · refine sy_call1 S (by have q := spc_t c w; rw [c1, hc0, hs] at q; exact q) (by kernel_rfl) fun aa w hb S => ?_
    refine sy_run ⟨0, [999]⟩ 50 S fun bs aa w S => ?_
    rw [c4 (by rw [hc0]; exact spc_lo hs)] at S
    have S2 := S.to [] (wdS l v e g) (by kernel_rfl) (by kernel_rfl) (by kernel_rfl) (by kernel_rfl) (by kernel_rfl)
    refine sy_at2 (k' := (.rnd (m) (bodyL wdC) :: wdC.k.tail)) (by kernel_rfl) ?_
    exact ih v e acc hv he (fun i h1 h2 => by omega) (by omega) (by rw [Nat.max_eq_left (by omega), hnx, hR2, lexW_spc hs]) aa w S2
  · have hs : spcB c0 = false := by simpa using hs
    refine sy_call1 S (by have q := spc_t c w; rw [c1, hc0, hs] at q; exact q) (by kernel_rfl) fun aa w hb S => ?_
    rw [lexW_tok hs] at hR2
    refine sy_run ⟨0, [9]⟩ 60 S fun bs aa w S => ?_
    refine sy_reg S fun S => ?_
    refine sy_ops 3 S fun bs aa w S => ?_
    refine sy_call S (X := Int × List Nat × Int × Bool) (val := fun q => .tuple #[tkV q.1 q.2.1 q.2.2.1 p, .bool q.2.2.2]) (C := fun q _ => tkR (l.drop p) p q.1 q.2.1 q.2.2.1 q.2.2.2) ((tok_t w (S.fact (f := rfSg) (by simp)) l hl hl3 p c hp c2 c3).mono fun e w' ⟨⟨k, p', n, ok, q1, q2, q3⟩, q4⟩ => ⟨(k, p', n, ok), q1, q2, q4⟩) (by kernel_rfl) fun q aa w hC hb S => ?_
    obtain ⟨k, p', n, ok⟩ := q
    have hC : tkR (l.drop p) p k p' n ok := hC
    rw [hdr] at hC
    unfold tkR at hC
    cases hk : tokL (c0 :: r) with
    | none =>
      rw [hk] at hC hR2
      subst hC
      have hRn : lexW l 0 = none := hR2
      refine sy_run ⟨0, []⟩ 60 S fun bs aa w S => ?_
      rw [hRn]
      exact sy_ret S (by kernel_rfl) (by kernel_rfl) fun hg => ⟨⟨_, rfl, own_nil _ _⟩, bel_gr hg⟩
    | some tk =>
      obtain ⟨kn, ps, nn⟩ := tk
      rw [hk] at hC hR2
      obtain ⟨e1, e2, e3, e4⟩ := hC
      have e2 : (kn : Int) = k := e2.symm
      have e3 : ps = p' := e3.symm
      have e4 : (nn : Int) = n := e4.symm
      subst e1 e2 e3 e4
      obtain ⟨k1, k2, k3⟩ := tokL_is hk
      have k1 : (c0 :: r).take ps.length = ps := k1
      have k2 : 1 ≤ ps.length := k2
      have k3 : ∀ b ∈ ps, b < 128 := k3
      have k4 := take_lt k1
      rw [← hdr, List.length_drop] at k4
      have k5 : ∀ i, p ≤ i → i < p + ps.length → l.getD i 0 < 128 := fun i h1 h2 => by
        have h3 : l.getD i 0 = ps.getD (i - p) 0 := by
          rw [← k1, ← hdr]
          simp [List.getD, List.getElem?_take, show i - p < ps.length by omega, show p + (i - p) = i by omega]
        rw [h3]
        exact k3 _ (getD_mem ps _ 0 (by omega))
      have kw : wd = 1 := c4 (k5 p (Nat.le_refl _) (by omega))
      subst kw
      refine sy_run ⟨0, [12]⟩ 60 S fun bs aa w S => ?_
      refine sy_reg S fun S => ?_
      refine sy_ops 4 S fun bs aa w S => ?_
      refine sy_cast 38 S (congrArg (Value.int .i64) (by rw [strOf_size] : ((strOf ps).size : Int) = (ps.length : Int))) (by kernel_rfl) fun S => ?_
      refine sy_ops 1 S fun bs aa w S => ?_
      refine sy_cast 39 S (congrArg (Value.int .i64) (by rw [IntKind.wrap_i64]; omega : IntKind.i64.wrap ((p : Int) + (ps.length : Int)) = ((p + ps.length : Nat) : Int))) (by kernel_rfl) fun S => ?_
      refine sy_run ⟨0, [13]⟩ 60 S fun bs aa w S => ?_
      refine sy_reg S fun S => ?_
      refine sy_ops 3 S fun bs aa w S => ?_
      refine sy_nm S fun bs S => ?_
      obtain ⟨ii, hi1, hi2, hi3, hi4⟩ := parts3 infTok
      have hit : (rfIt g (strOf l) (p + 1)).P w := S.fact (f := rfIt g (strOf l) (p + 1)) (by simp)
      have hglt : g < w.heap.size := (rfIt g (strOf l) (p + 1)).lt w hit g rfl
      have how : w.ownsRow w0.heap.size 30 4 v acc.length (tkC acc) := S.fact (f := rfOwn w0.heap.size 30 4 v (acc).length (tkC (acc))) (by simp)
      have hapb := (S.fs (rfOwn w0.heap.size 30 4 v (acc).length (tkC (acc))) (by simp)).2
      have hblk : ∀ j, j < bs.length → bs.getD j 0 < w.heap.size := fun j hj => S.lt hj
      refine sy_appO w0.heap.size (u := .v v) (y := .s 1 0 1 1) (v := v) (ad := adr bs 1 0) (m := 1) (cp := 1) (n := acc.length) (size := 4) (bytes := 40) (e := 30) (t := 23) (xs := tkC acc) (news := [.int .i64 (kn : Int), .string (strOf ps), .int .i64 (nn : Int), .int .i64 (p : Int)]) [rfIt g (strOf l) (p + 1), rfSg] S (by kernel_rfl) Tryd.underlying23 hi1 hi2 hi3 hi4 rfl (by omega) rfl rfl how S.gr.size (own3 (P := Tryd.prog) (ty := 30) (cs := [.int .i64 (kn : Int), .string (strOf ps), .int .i64 (nn : Int), .int .i64 (p : Int)]) S 1 (by kernel_rfl)) rfl (by intro u hu; simp only [List.mem_cons, List.not_mem_nil, or_false] at hu; rcases hu with rfl | rfl | rfl | rfl <;> rfl) (by simp only [maxLen]; omega) (by omega)
        (fun g hg => Or.inr (how.lt g hg).1) (fun f hf => ⟨by simp only [List.mem_cons, List.not_mem_nil, or_false] at hf ⊢; rcases hf with rfl | rfl <;> simp, fun b hb => by
          simp only [List.mem_cons, List.not_mem_nil, or_false] at hf
          rcases hf with rfl | rfl
          · exact hv b hb
          · intro h0
            have h1 : b = 0 := h0
            have h2 := (how.lt b hb).1
            omega⟩) (fun j hj hb => hapb j hj hb)
        fun v' aa w2 hO hg' hnn S => ?_
      have S := S.add (rfOwn w0.heap.size 30 4 v' (acc ++ [(kn, ps, nn, p)]).length (tkC (acc ++ [(kn, ps, nn, p)]))) (by rw [tkC_snoc, List.length_append]; exact hO) (fun j hj hb => (hnn _ hb).elim (fun q => hapb j hj q) (fun q => by have := hblk j hj; omega))
      refine sy_run ⟨0, [999]⟩ 50 S fun bs aa w S => ?_
      have S := S.sub (F' := [rfIt g (strOf l) (p + 1), rfOwn w0.heap.size 30 4 v' (acc ++ [(kn, ps, nn, p)]).length (tkC (acc ++ [(kn, ps, nn, p)])), rfSg]) (by intro f hf; simp only [List.mem_cons, List.not_mem_nil, or_false] at hf; rcases hf with rfl | rfl | rfl <;> simp)
      have S2 := S.to [] (wdS l v' (p + ps.length) g) (by kernel_rfl) (by kernel_rfl) (by kernel_rfl) (by kernel_rfl) (by kernel_rfl)
      refine sy_at2 (k' := (.rnd (m) (bodyL wdC) :: wdC.k.tail)) (by kernel_rfl) ?_
      refine ih v' (p + ps.length) (acc ++ [(kn, ps, nn, p)]) (fun b hb => ?_) (by omega) (fun i h1 h2 => k5 i (by omega) h2) (by rw [List.length_append, List.length_singleton]; omega) ?_ aa w S2
      · rcases hnn b hb with h | h
        · exact hv b h
        · omega
      · rw [Nat.max_eq_right (by omega), hR2, map_snoc, ← hdr, List.drop_drop]
theorem wd_a (w0 : World) (h00 : 0 < w0.heap.size) (l : List Nat) (hl : ∀ b ∈ l, b < 256) (hl3 : l.length ≤ 3000) (g : Nat) (hg : w0.heap.size ≤ g) : ∀ (m p : Nat), p + m = l.length → ∀ (v : Value) (e : Nat) (acc : List Tk) (hv : ∀ b, Value.ownBlock v = some b → b ≠ g) (he : e ≤ l.length) (hA : ∀ i, p ≤ i → i < e → l.getD i 0 < 128) (hn : (acc).length ≤ max (p) (e)) (hR : lexW l 0 = (lexW (l.drop (max (p) (e))) (max (p) (e))).map fun q => (acc) ++ q) (aa : Act) (w : World) (S : Sy w0 [] [] (wdS l v (e) g) [rfIt g (strOf l) (p), rfOwn w0.heap.size 30 4 v (acc).length (tkC (acc)), rfSg] aa w), post Tryd.prog (.rnd (m + 1) (bodyL wdC) :: wdC.k.tail) (bodyPost Tryd.prog Tryd.f10 (wdP w0 (lexW l 0))) .normal aa w := by
  intro m
  induction m with
  | zero =>
    intro p hp v e acc hv he hA hn hR aa w S
    obtain rfl : p = l.length := by omega
    exact wd_e w0 h00 l hl hl3 g hg 0 v e acc hv he hA hn hR aa w S
  | succ m ih =>
    intro p hp v e acc hv he hA hn hR aa w S
    rcases Nat.lt_or_ge p e with h | h
    · exact wd_i w0 h00 l hl hl3 g hg (m + 1) p (by omega) v e h acc hv he hA hn hR (fun v2 e2 acc2 hv he hA hn hR aa w S => ih (p + 1) (by omega) v2 e2 acc2 hv he hA hn hR aa w S) aa w S
    · exact wd_s w0 h00 l hl hl3 g hg (m + 1) p (by omega) v e h acc hv he hA hn hR (fun v2 e2 acc2 hv he hA hn hR aa w S => ih (p + 1) (by omega) v2 e2 acc2 hv he hA hn hR aa w S) aa w S
set_option maxHeartbeats 8000000 in
theorem words_t (w0 : World) (hG : rfSg.P w0) (l : List Nat) (hl : ∀ b ∈ l, b < 256) (hl3 : l.length ≤ 3000) : Calls Tryd.prog 10 #[.string (strOf l)] w0 (wdP w0 (lexW l 0)) := by
  have h00 : 0 < w0.heap.size := rfSg.lt w0 hG 0 rfl
  refine sy_enterF [] [rfSg] (by intro f hf; simp only [List.mem_singleton] at hf; subst hf; exact hG) Tryd.func10 rfl rfl fun aa S => ?_
  refine sy_run ⟨0, [1]⟩ 60 S fun bs aa w S => ?_
  refine sy_reg S fun S => ?_
  refine sy_ops 2 S fun bs aa w S => ?_
  refine sy_cast 11 S (congrArg (Value.int .i64) (by rw [strOf_size] : ((strOf l).size : Int) = (l.length : Int))) (by kernel_rfl) fun S => ?_
  refine sy_ops 1 S fun bs aa w S => ?_
  refine sy_cast 12 S (congrArg Value.bool (decide_eq_false (by omega) : decide ((l.length : Int) > 3000) = false)) (by kernel_rfl) fun S => ?_
  refine sy_run ⟨0, [5]⟩ 60 S fun bs aa w S => ?_
  refine sy_reg S fun S => ?_
  refine sy_ops 1 S fun bs aa w S => ?_
  refine sy_rng (ty := 0) (t := 9) (x := .tmp 13) (p := strOf l) S Tryd.underlying9 (by kernel_rfl) (by kernel_rfl) fun g aa w hg hf S => ?_
  refine sy_run ⟨0, []⟩ 60 S fun bs aa w S => ?_
  have S := S.add (rfOwn w0.heap.size 30 4 (.slice none 0 0) (([] : List Tk)).length (tkC (([] : List Tk)))) (own_nil _ _) (fun i hi hb => by cases hb)
  have S := S.sub (F' := [rfIt g (strOf l) (0), rfOwn w0.heap.size 30 4 (.slice none 0 0) (([] : List Tk)).length (tkC (([] : List Tk))), rfSg]) (by intro f hf; simp only [List.mem_cons, List.not_mem_nil, or_false] at hf; rcases hf with rfl | rfl | rfl <;> simp)
  have S2 := S.to [] (wdS l (.slice none 0 0) 0 g) (by kernel_rfl) (by kernel_rfl) (by kernel_rfl) (by kernel_rfl) (by kernel_rfl)
  refine sy_loop (l.length + 1) (by kernel_rfl) ?_
  refine sy_at2 (k' := (.rnd (l.length + 1) (bodyL wdC) :: wdC.k.tail)) (by kernel_rfl) ?_
  exact wd_a w0 h00 l hl hl3 g hg l.length 0 (by omega) (.slice none 0 0) 0 [] (fun b hb => by cases hb) (Nat.zero_le _) (fun i h1 h2 => by omega) (Nat.zero_le _) (by simp) aa w S2
end Go.Proofs.YthkgmahkmflfkaaDoor
