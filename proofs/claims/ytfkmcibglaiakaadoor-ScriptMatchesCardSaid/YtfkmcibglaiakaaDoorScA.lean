
/-
  Layer 27: the mathematics of scripts: fields, cuts, numbers, words.
-/
import Derived.Test.YtfkmcibglaiakaaDoorRows
import Derived.Test.YtfkmcibglaiakaaDoorBase
import Derived.Test.YtfkmcibglaiakaaDoorLx3
import Derived.Lib.SpaceUEq
import Derived.Lib.FieldsP
import Derived.Lib.Split
import Derived.Lib.DecodeN
import Derived.Lib.RuneCount
import Derived.WalkKit
namespace Go.Proofs.YtfkmcibglaiakaaDoor
open Go Go.RowKit SZ
set_option linter.unusedVariables false
set_option linter.unusedSimpArgs false
set_option maxRecDepth 100000
/-- The words of a text: cut at white space. -/
def fieldG : List Nat → List Nat → List (List Nat)
  | cur, [] => if cur = [] then [] else [cur]
  | cur, c :: l => if spcB c then (if cur = [] then fieldG [] l else cur :: fieldG [] l) else fieldG (cur ++ [c]) l
theorem fieldG_run : ∀ (bs cur l : List Nat), (∀ b ∈ bs, spcB b = false) → fieldG cur (bs ++ l) = fieldG (cur ++ bs) l
  | [], cur, l, _ => by simp
  | b :: bs, cur, l, h => by
    have hb := h b (by simp)
    rw [List.cons_append, fieldG, hb, if_neg (by simp), fieldG_run bs (cur ++ [b]) l (fun x hx => h x (by simp [hx])), List.append_assoc]
    rfl
theorem spc_hi {c : Nat} (h : 128 ≤ c) : spcB c = false := by unfold spcB; simp; omega
theorem get_ge {l : List Nat} (hl : ∀ b ∈ l, b < 256) {k : Nat} (h : k < l.length) : ((strOf l).get! k).toNat = l.getD k 0 := get_strOf hl h
/-- What stands at a place, and how far it reaches: bytes beyond the first are no white space. -/
theorem dec_at {l : List Nat} (hl : ∀ b ∈ l, b < 256) {k : Nat} (h : k < l.length) : ∃ c wd, Utf8.decode (strOf l) k = (c, wd) ∧ spcB c = spcB (l.getD k 0) ∧ 1 ≤ wd ∧ k + wd ≤ l.length ∧ (∀ j, 1 ≤ j → j < wd → 128 ≤ l.getD (k + j) 0) ∧ (spcB c = true → wd = 1) := by
  by_cases h2 : l.getD k 0 < 128
  · exact ⟨_, _, dec_lo hl h h2, rfl, Nat.le_refl _, by omega, fun j h1 h3 => by omega, fun _ => rfl⟩
  · obtain ⟨c, wd, hd, hc⟩ := dec_hi hl h h2
    have hs : (strOf l).size = l.length := strOf_size l
    have h4 := Lib.decodeN_conts ((strOf l).size - k) ((strOf l).get! k).toNat ((strOf l).get! (k + 1)).toNat ((strOf l).get! (k + 2)).toNat ((strOf l).get! (k + 3)).toNat
    rw [← Lib.decode_at, hd] at h4
    simp only at h4
    have h1 := Lib.decode_width_pos (strOf l) k (by omega)
    rw [hd] at h1
    simp only at h1
    refine ⟨c, wd, hd, by rw [spc_hi hc, spc_hi (by omega)], h1, by omega, fun j hj1 hj2 => ?_, fun q => by rw [spc_hi hc] at q; cases q⟩
    have hj : k + j < l.length := by omega
    rw [← get_ge hl hj]
    have h5 : wd ≤ 4 := h4.2.2.2
    match j, hj1, hj2 with
    | 1, _, hj2 => have := (h4.1 (by omega)).1; omega
    | 2, _, hj2 => have := (h4.2.1 (by omega)).1; omega
    | 3, _, hj2 => have := (h4.2.2.1 (by omega)).1; omega
    | j + 4, _, hj2 => omega
def curOf (l : List Nat) (pos : Nat) : Option Nat → List Nat
  | none => []
  | some a => (l.take pos).drop a
theorem drop_cut (l : List Nat) (pos wd : Nat) (h : pos + wd ≤ l.length) : l.drop pos = (l.drop pos).take wd ++ l.drop (pos + wd) := by
  rw [← List.drop_drop, List.take_append_drop]
theorem cur_grow (l : List Nat) (a pos wd : Nat) (h : a ≤ pos) (h2 : pos + wd ≤ l.length) : (l.take pos).drop a ++ (l.drop pos).take wd = (l.take (pos + wd)).drop a := by
  rw [List.take_add, List.drop_append_of_le_length (by rw [List.length_take]; omega)]
theorem run_spc {l : List Nat} {k wd : Nat} (h0 : spcB (l.getD k 0) = false) (h : ∀ j, 1 ≤ j → j < wd → 128 ≤ l.getD (k + j) 0) (hw : k + wd ≤ l.length) : ∀ b ∈ (l.drop k).take wd, spcB b = false := by
  intro b hb
  obtain ⟨i, hi, e⟩ := List.getElem_of_mem hb
  have hi2 : i < wd := by rw [List.length_take] at hi; omega
  have e2 : b = l.getD (k + i) 0 := by
    rw [← e]
    simp [List.getD, List.getElem_take, List.getElem_drop, List.getElem?_eq_getElem (show k + i < l.length by omega)]
  rw [e2]
  by_cases h1 : i = 0
  · subst h1; exact h0
  · exact spc_hi (h i (by omega) hi2)
theorem spans_eq {l : List Nat} (hl : ∀ b ∈ l, b < 256) : ∀ (f pos : Nat) (st : Option Nat) (acc : List (Nat × Nat)), l.length ≤ pos + f → pos ≤ l.length → (∀ a, st = some a → a < pos) →
    (Lib.closeSpans (strOf l) (Lib.spansFromP spcB (strOf l) f pos st acc)).map (fun x => (strOf l).extract x.1 x.2) = acc.map (fun x => (strOf l).extract x.1 x.2) ++ (fieldG (curOf l pos st) (l.drop pos)).map strOf := by
  have hsz := strOf_size l
  have hend : ∀ (pos : Nat) (st : Option Nat) (acc : List (Nat × Nat)), pos = l.length → (∀ a, st = some a → a < pos) → (Lib.closeSpans (strOf l) (acc, st)).map (fun x => (strOf l).extract x.1 x.2) = acc.map (fun x => (strOf l).extract x.1 x.2) ++ (fieldG (curOf l pos st) (l.drop pos)).map strOf := by
    intro pos st acc hp ha
    subst hp
    rw [List.drop_length]
    cases st with
    | none => simp [Lib.closeSpans, curOf, fieldG]
    | some a =>
      have hne : (l.take l.length).drop a ≠ [] := by
        intro h
        have := congrArg List.length h
        have h5 := ha a rfl
        rw [List.length_drop, List.length_take] at this
        simp at this
        omega
      have e : (strOf l).extract a (strOf l).size = strOf ((l.take l.length).drop a) := by rw [strOf_ext, hsz]
      have e2 : fieldG (curOf l l.length (some a)) [] = [(l.take l.length).drop a] := if_neg hne
      rw [e2]
      simp only [Lib.closeSpans, List.map_append, List.map_cons, List.map_nil, e]
  intro f
  induction f with
  | zero =>
    intro pos st acc h1 h2 ha
    exact hend pos st acc (by omega) ha
  | succ f ih =>
    intro pos st acc h1 h2 ha
    by_cases hp : pos < l.length
    · obtain ⟨c, wd, hd, hc, hw1, hw2, hcont, hone⟩ := dec_at hl hp
      unfold Lib.spansFromP
      rw [if_pos (by omega), hd]
      simp only
      have hdr := drop_cut l pos wd hw2
      cases hs : spcB c with
      | true =>
        obtain rfl := hone hs
        have hdr1 : l.drop pos = l.getD pos 0 :: l.drop (pos + 1) := by
          rw [List.drop_eq_getElem_cons hp]
          simp [List.getD, List.getElem?_eq_getElem hp]
        rw [hs] at hc
        cases st with
        | none =>
          simp only [if_true]
          rw [ih (pos + 1) none acc (by omega) (by omega) (fun a h => by cases h)]
          simp only [curOf, hdr1, fieldG, ← hc, if_true]
        | some a =>
          have h5 := ha a rfl
          have hne : (l.take pos).drop a ≠ [] := by
            intro h
            have := congrArg List.length h
            rw [List.length_drop, List.length_take] at this
            simp at this
            omega
          simp only [if_true]
          rw [ih (pos + 1) none (acc ++ [(a, pos)]) (by omega) (by omega) (fun a h => by cases h)]
          have e : (strOf l).extract a pos = strOf ((l.take pos).drop a) := strOf_ext _ _ _
          simp only [curOf, hdr1, fieldG, ← hc, if_true, if_neg hne, List.map_append, List.map_cons, List.map_nil, e, List.append_assoc]
          rfl
      | false =>
        rw [hs] at hc
        have hrun := run_spc hc.symm hcont hw2
        simp only [Bool.false_eq_true, if_false]
        cases st with
        | none =>
          simp only
          rw [ih (pos + wd) (some pos) acc (by omega) hw2 (fun a h => by cases h; omega)]
          congr 2
          simp only [curOf]
          rw [hdr, fieldG_run _ _ _ hrun, List.nil_append, ← cur_grow l pos pos wd (Nat.le_refl _) hw2, show (l.take pos).drop pos = [] from List.drop_eq_nil_of_le (by rw [List.length_take]; omega), List.nil_append]
        | some a =>
          have h5 := ha a rfl
          simp only
          rw [ih (pos + wd) (some a) acc (by omega) hw2 (fun b h => by cases h; omega)]
          congr 2
          simp only [curOf]
          conv => rhs; rw [hdr, fieldG_run _ _ _ hrun, cur_grow l a pos wd (by omega) hw2]
    · rw [Lib.spansFromP_end _ _ _ _ _ _ (by omega)]
      exact hend pos st acc (by omega) ha
theorem fields_eq {l : List Nat} (hl : ∀ b ∈ l, b < 256) : Lib.goFieldsP spcB (strOf l) = (fieldG [] l).map strOf := by
  unfold Lib.goFieldsP Lib.spansOfP
  have h := spans_eq hl (strOf l).size 0 none [] (by rw [strOf_size]; omega) (Nat.zero_le _) (fun a h => by cases h)
  rw [h]
  simp [curOf]
/-- Cut at the first c. -/
def cutL (c : Nat) : List Nat → Option (List Nat × List Nat)
  | [] => none
  | x :: l => if x = c then some ([], l) else (cutL c l).map fun p => (x :: p.1, p.2)
theorem cutL_some {c : Nat} : ∀ {l : List Nat} {a b : List Nat}, cutL c l = some (a, b) → l = a ++ c :: b ∧ c ∉ a
  | [], a, b, h => by simp [cutL] at h
  | x :: l, a, b, h => by
    unfold cutL at h
    by_cases hx : x = c
    · rw [if_pos hx] at h
      cases h
      exact ⟨by simp [hx], by simp⟩
    · rw [if_neg hx] at h
      cases hq : cutL c l with
      | none => rw [hq] at h; cases h
      | some p =>
        rw [hq] at h
        cases h
        obtain ⟨h1, h2⟩ := cutL_some (a := p.1) (b := p.2) hq
        exact ⟨by rw [List.cons_append, ← h1], by simp only [List.mem_cons, not_or]; exact ⟨fun e => hx e.symm, h2⟩⟩
theorem cutL_none {c : Nat} : ∀ {l : List Nat}, cutL c l = none → c ∉ l
  | [], _ => by simp
  | x :: l, h => by
    unfold cutL at h
    by_cases hx : x = c
    · rw [if_pos hx] at h; cases h
    · rw [if_neg hx] at h
      cases hq : cutL c l with
      | some p => rw [hq] at h; cases h
      | none => simp only [List.mem_cons, not_or]; exact ⟨fun e => hx e.symm, cutL_none hq⟩
theorem cutL_app {c : Nat} {a b : List Nat} (h : c ∉ a) : cutL c (a ++ c :: b) = some (a, b) := by
  induction a with
  | nil => simp [cutL]
  | cons x a ih =>
    simp only [List.mem_cons, not_or] at h
    rw [List.cons_append, cutL, if_neg (fun e => h.1 e.symm), ih h.2]
    rfl
theorem cutL_not {c : Nat} {l : List Nat} (h : c ∉ l) : cutL c l = none := by
  cases hq : cutL c l with
  | none => rfl
  | some p =>
    obtain ⟨h1, h2⟩ := cutL_some (a := p.1) (b := p.2) hq
    exact absurd (by rw [h1]; simp) h
/-- A list cut at every c. -/
def splL (c : Nat) : List Nat → List (List Nat)
  | [] => [[]]
  | x :: l => if x = c then [] :: splL c l else match splL c l with | [] => [[x]] | p :: r => (x :: p) :: r
theorem splL_none {c : Nat} : ∀ {l : List Nat}, c ∉ l → splL c l = [l]
  | [], _ => rfl
  | x :: l, h => by
    simp only [List.mem_cons, not_or] at h
    rw [splL, if_neg (fun e => h.1 e.symm), splL_none h.2]
theorem splL_app {c : Nat} : ∀ {a : List Nat} (b : List Nat), c ∉ a → splL c (a ++ c :: b) = a :: splL c b
  | [], b, _ => by simp [splL]
  | x :: a, b, h => by
    simp only [List.mem_cons, not_or] at h
    rw [List.cons_append, splL, if_neg (fun e => h.1 e.symm), splL_app b h.2]
theorem idx_eq {c : Nat} (hc : c < 256) : ∀ (l : List Nat), (∀ b ∈ l, b < 256) → Lib.index (l.map UInt8.ofNat) [UInt8.ofNat c] = match cutL c l with | some p => (p.1.length : Int) | none => -1
  | [], _ => by simp [Lib.index, cutL]
  | x :: l, h => by
    have hx := h x (by simp)
    have ih := idx_eq hc l (fun b hb => h b (by simp [hb]))
    rw [List.map_cons]
    unfold Lib.index cutL
    by_cases e : x = c
    · subst e
      simp [List.isPrefixOf]
    · have e2 : (UInt8.ofNat c == UInt8.ofNat x) = false := by
        rw [beq_eq_false_iff_ne]
        intro h2
        have := congrArg UInt8.toNat h2
        rw [UInt8.toNat_ofNat_of_lt' hc, UInt8.toNat_ofNat_of_lt' hx] at this
        exact e this.symm
      have e3 : List.isPrefixOf [UInt8.ofNat c] (UInt8.ofNat x :: l.map UInt8.ofNat) = false := by simp [List.isPrefixOf, e2]
      rw [e3, ih, if_neg e]
      cases cutL c l with
      | none => simp
      | some p =>
        have : ((p.1.length : Int) == -1) = false := by rw [beq_eq_false_iff_ne]; omega
        simp [this]
theorem lib_cut {c : Nat} (hc : c < 256) (l : List Nat) (hl : ∀ b ∈ l, b < 256) : Lib.cut (l.map UInt8.ofNat) [UInt8.ofNat c] = match cutL c l with | some p => (p.1.map UInt8.ofNat, p.2.map UInt8.ofNat, true) | none => (l.map UInt8.ofNat, [], false) := by
  unfold Lib.cut
  rw [idx_eq hc l hl]
  cases hq : cutL c l with
  | none => simp
  | some p =>
    obtain ⟨h1, h2⟩ := cutL_some (a := p.1) (b := p.2) hq
    simp only
    rw [if_pos (by omega)]
    conv => lhs; rw [h1]
    have e : (p.1.map UInt8.ofNat ++ UInt8.ofNat c :: p.2.map UInt8.ofNat).drop (p.1.length + 1) = p.2.map UInt8.ofNat := by
      have h := List.drop_append (l₁ := p.1.map UInt8.ofNat) (l₂ := UInt8.ofNat c :: p.2.map UInt8.ofNat) (i := p.1.length + 1)
      rw [h, List.drop_eq_nil_of_le (by simp)]
      simp
    simp [e]
theorem strOf_data (l : List Nat) : (strOf l).data.toList = l.map UInt8.ofNat := rfl
theorem lib_split {c : Nat} (hc : c < 256) : ∀ (n : Nat) (l : List Nat), l.length ≤ n → (∀ b ∈ l, b < 256) → Lib.splitB (strOf [c]) 0 (Lib.countB (strOf l) (strOf [c])) (strOf l) = (splL c l).map strOf := by
  intro n
  induction n with
  | zero =>
    intro l hn hl
    obtain rfl : l = [] := List.eq_nil_of_length_eq_zero (by omega)
    have h : Lib.indexB (strOf []) (strOf [c]) = -1 := rfl
    rw [Lib.countB_miss _ _ h, Lib.splitB_miss _ _ _ _ h]
    rfl
  | succ n ih =>
    intro l hn hl
    have hi : Lib.indexB (strOf l) (strOf [c]) = match cutL c l with | some p => (p.1.length : Int) | none => -1 := idx_eq hc l hl
    cases hq : cutL c l with
    | none =>
      rw [hq] at hi
      rw [Lib.countB_miss _ _ hi, Lib.splitB_miss _ _ _ _ hi, splL_none (cutL_none hq)]
      rfl
    | some p =>
      obtain ⟨h1, h2⟩ := cutL_some (a := p.1) (b := p.2) hq
      rw [hq] at hi
      have hi2 : Lib.indexB (strOf l) (strOf [c]) = (p.1.length : Int) := hi
      have hlen : l.length = p.1.length + 1 + p.2.length := by rw [h1]; simp; omega
      have hb : (strOf l).extract (p.1.length + (strOf [c]).size) (strOf l).size = strOf p.2 := by
        rw [strOf_ext, strOf_size, strOf_size, List.take_length]
        congr 1
        conv => lhs; rw [h1]
        simp
      have ha : (strOf l).extract 0 (p.1.length + 0) = strOf p.1 := by
        rw [strOf_ext, List.drop_zero]
        congr 1
        conv => lhs; rw [h1]
        simp
      rw [Lib.countB_hit _ _ _ (by rw [strOf_size]; exact Nat.le_refl _) hi2, hb, show 1 + Lib.countB (strOf p.2) (strOf [c]) = Lib.countB (strOf p.2) (strOf [c]) + 1 by omega, Lib.splitB_hit _ _ _ _ _ hi2, hb, ha, ih p.2 (by omega) (fun b hb => hl b (by rw [h1]; simp [hb]))]
      conv => rhs; rw [h1, splL_app _ h2]
      rfl
end Go.Proofs.YtfkmcibglaiakaaDoor
