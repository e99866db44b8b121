
/-
  Layer 4: two texts joined by white space.
-/
import Derived.Test.YthkgmahkmflfkaaDoorRows
import Derived.Test.YthkgmahkmflfkaaDoorBase
import Derived.Test.YthkgmahkmflfkaaDoorLxC
import Derived.WalkKit
namespace Go.Proofs.YthkgmahkmflfkaaDoor
open Go Go.RowKit SZ
set_option linter.unusedVariables false
set_option linter.unusedSimpArgs false
set_option maxRecDepth 100000
attribute [local irreducible] post GD Nxt NxtAll
theorem tw_sp {K : Nat → Bool} {sp : Nat} (h : K sp = false) (b : List Nat) : ∀ x : List Nat, (x ++ sp :: b).takeWhile K = x.takeWhile K
  | [] => by simp [h]
  | c :: r => by
    rw [List.cons_append, List.takeWhile_cons, List.takeWhile_cons, tw_sp h b r]
theorem take_sp {sp : Nat} {m : List Nat} (hm : ∀ y ∈ m, y ≠ sp) (x b : List Nat) : ((x ++ sp :: b).take m.length = m) ↔ (x.take m.length = m) := by
  rcases Nat.lt_or_ge x.length m.length with h | h
  · constructor
    · intro q
      exfalso
      have h2 : m.getD x.length 0 = sp := by
        rw [← q]
        simp [List.getD, List.getElem?_take, h]
      exact hm _ (getD_mem m x.length 0 h) h2
    · intro q
      have := take_lt q
      omega
  · rw [List.take_append_of_le_length h]
theorem fst_join {sp : Nat} (x b : List Nat) : ∀ r : List (List Nat), (∀ m ∈ r, ∀ y ∈ m, y ≠ sp) → fstP (x ++ sp :: b) r = fstP x r
  | [], _ => rfl
  | m :: r, h => by
    have h1 := take_sp (h m (by simp)) x b
    have ih := fst_join x b r fun q hq => h q (by simp [hq])
    unfold fstP
    by_cases q : x.take m.length = m
    · rw [if_pos q, if_pos (h1.2 q)]
    · rw [if_neg q, if_neg (fun z => q (h1.1 z)), ih]
theorem sg_nsp {sp : Nat} (h : spcB sp = true) : ∀ m ∈ sgL, ∀ y ∈ m, y ≠ sp := fun m hm y hy e => by
  have := (sgL_cls m hm y hy).1
  rw [e, h] at this
  cases this
theorem spc_word {sp : Nat} (h : spcB sp = true) : wordB sp = false ∧ digB sp = false := by
  simp only [spcB, Bool.or_eq_true, decide_eq_true_eq] at h
  rcases h with (rfl | rfl) | rfl <;> exact ⟨rfl, rfl⟩
theorem tokL_c2 (c : Nat) (r : List Nat) : tokL (c :: r) = if lettB c = true then (if ((c :: r).takeWhile wordB).length ≤ 12 then some (1, (c :: r).takeWhile wordB, 0) else none)
    else if digB c = true then (if nOk ((c :: r).takeWhile digB) = true ∧ ((c :: r).drop ((c :: r).takeWhile digB).length).takeWhile wordB = [] then some (2, (c :: r).takeWhile digB, numV ((c :: r).takeWhile digB)) else none)
    else (if fstP (c :: r) sgL = [] then none else some (3, fstP (c :: r) sgL, 0)) := rfl
theorem tok_join {sp : Nat} (h : spcB sp = true) (c : Nat) (r b : List Nat) : tokL ((c :: r) ++ sp :: b) = tokL (c :: r) := by
  obtain ⟨g1, g2⟩ := spc_word h
  have e1 := tw_sp g1 b (c :: r)
  have e2 := tw_sp g2 b (c :: r)
  have e3 := fst_join (sp := sp) (c :: r) b sgL (sg_nsp h)
  have hl := tw_len digB (c :: r)
  have e4 : (((c :: r) ++ sp :: b).drop ((c :: r).takeWhile digB).length).takeWhile wordB = ((c :: r).drop ((c :: r).takeWhile digB).length).takeWhile wordB := by
    rw [List.drop_append_of_le_length hl]
    exact tw_sp g1 b _
  rw [List.cons_append] at e1 e2 e3 e4 ⊢
  rw [tokL_c2, tokL_c2, e1, e2, e3, e4]
/-- The tokens of two texts with white space between. -/
def joinO (R1 R2 : Option (List Tk)) : Option (List Tk) := match R1 with
  | none => none
  | some ts => R2.map fun us => ts ++ us
theorem lex_join {sp : Nat} (h : spcB sp = true) (b : List Nat) : ∀ (f : Nat) (x : List Nat) (a : Nat), x.length ≤ f → lexW (x ++ sp :: b) a = joinO (lexW x a) (lexW b (a + x.length + 1))
  | f, [], a, _ => by
    rw [List.nil_append, lexW_spc h]
    show _ = (lexW b (a + 0 + 1)).map fun us => [] ++ us
    simp
  | f + 1, c :: r, a, hf => by
    rw [List.length_cons] at hf
    by_cases hs : spcB c = true
    · have ih := lex_join h b f r (a + 1) (by omega)
      rw [List.cons_append, lexW_spc hs, lexW_spc hs, ih, List.length_cons, show a + 1 + r.length + 1 = a + (r.length + 1) + 1 by omega]
    · have hs : spcB c = false := by simpa using hs
      have hj := tok_join h c r b
      rw [List.cons_append] at hj ⊢
      rw [lexW_tok hs, lexW_tok hs, hj]
      cases hk : tokL (c :: r) with
      | none => rfl
      | some t =>
        have h1 := (tokL_is hk).2.1
        have h2 := tokL_len hk
        have hd : (c :: (r ++ sp :: b)).drop t.2.1.length = (c :: r).drop t.2.1.length ++ sp :: b := by
          rw [← List.cons_append, List.drop_append_of_le_length h2]
        have ih := lex_join h b f ((c :: r).drop t.2.1.length) (a + t.2.1.length) (by rw [List.length_drop, List.length_cons]; omega)
        simp only
        rw [hd, ih, List.length_drop, show a + t.2.1.length + ((c :: r).length - t.2.1.length) + 1 = a + (c :: r).length + 1 by omega]
        cases lexW ((c :: r).drop t.2.1.length) (a + t.2.1.length) with
        | none => rfl
        | some ts =>
          show (Option.map _ (Option.map _ _)) = Option.map _ _
          cases lexW b (a + (c :: r).length + 1) <;> rfl
def shT (k : Nat) (t : Tk) : Tk := (t.1, t.2.1, t.2.2.1, t.2.2.2 + k)
theorem lexF_shift (k : Nat) : ∀ (f : Nat) (l : List Nat) (a : Nat), lexF f l (a + k) = (lexF f l a).map fun ts => ts.map (shT k)
  | 0, l, a => rfl
  | f + 1, [], a => rfl
  | f + 1, c :: r, a => by
    unfold lexF
    split
    · rw [show a + k + 1 = a + 1 + k by omega]
      exact lexF_shift k f r (a + 1)
    · cases hk : tokL (c :: r) with
      | none => rfl
      | some t =>
        simp only
        rw [show a + k + t.2.1.length = a + t.2.1.length + k by omega, lexF_shift k f _ (a + t.2.1.length), Option.map_map, Option.map_map]
        rfl
theorem lexW_shift (l : List Nat) (k : Nat) : lexW l k = (lexW l 0).map fun ts => ts.map (shT k) := by
  have h := lexF_shift k l.length l 0
  rw [Nat.zero_add] at h
  exact h
theorem lex_cat {sp : Nat} (h : spcB sp = true) (a b : List Nat) : lexW (a ++ sp :: b) 0 = joinO (lexW a 0) ((lexW b 0).map fun ts => ts.map (shT (a.length + 1))) := by
  rw [lex_join h b a.length a 0 (Nat.le_refl _), Nat.zero_add, lexW_shift b (a.length + 1)]
end Go.Proofs.YthkgmahkmflfkaaDoor
