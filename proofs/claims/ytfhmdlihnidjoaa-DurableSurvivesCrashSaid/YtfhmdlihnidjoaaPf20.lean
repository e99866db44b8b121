/-
  Merged: Bo0
-/
import Derived.Test.YtfhmdlihnidjoaaRows
import Derived.Test.YtfhmdlihnidjoaaPf1
import Derived.Test.YtfhmdlihnidjoaaPf17
import Derived.Test.YtfhmdlihnidjoaaPf19
import Derived.WalkKit
namespace Go.Proofs.Ytfhmdlihnidjoaa
set_option linter.unusedVariables false
set_option linter.unusedSectionVars false
set_option linter.unusedSimpArgs false
set_option maxRecDepth 100000
open Go Go.RowKit SZ
attribute [local irreducible] post GD Nxt Qai
def Qc6 : List (Int × Ws) → Int → Option (Int × Int × Int)
  | [], _ => none
  | p :: r, loc => match Qc6 r loc with
    | some t => some t
    | none => (Qc2 loc p.2).map fun x => (x.1, x.2, p.1)
theorem Qek (p : Int × Ws) (loc : Int) : ∀ P : List (Int × Ws), Qc6 (P ++ [p]) loc = match Qc2 loc p.2 with
    | some x => some (x.1, x.2, p.1)
    | none => Qc6 P loc
  | [] => by
    have e : Qc6 ([] ++ [p]) loc = (Qc2 loc p.2).map fun x => (x.1, x.2, p.1) := by simp [Qc6]
    rw [e]
    cases Qc2 loc p.2 <;> simp [Qc6]
  | q :: r => by
    show (match Qc6 (r ++ [p]) loc with | some t => some t | none => _) = _
    rw [Qek p loc r]
    cases h : Qc2 loc p.2 with
    | some x => rfl
    | none => rfl
def Qjm (e : Et) : En := ⟨e.ver, e.a, e.c, e.ws⟩
theorem Ql2 (l : List Et) (j : Nat) (hj : j < l.length) : ((l.map Qjm)[j]?.getD default) = Qjm (l.getD j e00) := by
  simp [List.getD, List.getElem?_eq_getElem hj]
theorem Qfg (es es' : List En) (loc : Int) : ∀ l : List Nat, (∀ j ∈ l, es[j]?.getD default = es'[j]?.getD default) → Qcx es loc l = Qcx es' loc l
  | [], _ => rfl
  | j :: l, h => by
    simp only [Qcx, h j (by simp)]
    cases Qc2 loc (es'[j]?.getD default).ws with
    | some x => rfl
    | none => exact Qfg es es' loc l fun i hi => h i (by simp [hi])
theorem bkL_top (n : Nat) : bkL (n + 1) 0 = n :: bkL n 0 := by
  unfold bkL
  rw [Nat.sub_zero, Nat.sub_zero, List.range_succ_eq_map, List.map_cons, List.map_map]
  congr 1
  apply List.map_congr_left
  intro k _
  simp
  omega
theorem bkL_lt (n : Nat) : ∀ j ∈ bkL n 0, j < n := by
  intro j hj
  simp only [bkL, List.mem_map, List.mem_range] at hj
  obtain ⟨k, hk, rfl⟩ := hj
  omega
theorem Qha (loc : Int) : ∀ (n : Nat) (l : List Et), l.length = n → Qcx (l.map Qjm) loc (bkL n 0) = Qc6 (l.map prE) loc
  | 0, l, h => by rw [List.length_eq_zero_iff.1 h]; rfl
  | n + 1, l, h => by
    have hne : l ≠ [] := fun q => by rw [q] at h; cases h
    have e : l = l.dropLast ++ [l.getLast hne] := (List.dropLast_concat_getLast hne).symm
    have hl : l.dropLast.length = n := by rw [List.length_dropLast]; omega
    have ih := Qha loc n l.dropLast hl
    have e1 : ((l.map Qjm)[n]?.getD default) = Qjm (l.getLast hne) := by
      have hd : (l.dropLast.map Qjm).length = n := by rw [List.length_map, hl]
      conv => lhs; rw [e]
      rw [List.map_append, List.getElem?_append_right (by rw [hd]; exact Nat.le_refl _), hd, Nat.sub_self]
      rfl
    rw [bkL_top]
    show (match Qc2 loc (((l.map Qjm)[n]?.getD default)).ws with | some x => some (x.1, x.2, ((l.map Qjm)[n]?.getD default).ver) | none => Qcx (l.map Qjm) loc (bkL n 0)) = _
    rw [e1]
    have e2 : Qcx (l.map Qjm) loc (bkL n 0) = Qcx (l.dropLast.map Qjm) loc (bkL n 0) := Qfg _ _ _ _ fun j hj => by
      have hj2 := bkL_lt n j hj
      conv => lhs; rw [e]
      rw [List.map_append, List.getElem?_append_left (by simpa using (by omega : j < l.dropLast.length))]
    rw [e2, ih]
    conv => rhs; rw [e, List.map_append, List.map_singleton, Qek]
    rfl
def bC (k0 : Nat) (clk fin : Int) (V W : Nat → Int) (i : Nat) : Int :=
  if i = 0 then clk else if i = 1 then 1 else if i = 3 then fin else if i < k0 then 0 else if (i - k0) % 4 = 1 then V ((i - k0) / 4) else if (i - k0) % 4 = 0 then W ((i - k0) / 4) else 0
def bL (k0 n : Nat) (clk fin : Int) (V W : Nat → Int) : List Int := (List.range n).map (bC k0 clk fin V W)
def upV (V : Nat → Int) (q : Nat) (x : Int) : Nat → Int := fun j => if j = q then x else V j
theorem QbV (k0 n : Nat) (clk fin : Int) (V W : Nat → Int) : (bL k0 n clk fin V W).length = n := by simp [bL]
theorem Qit {k0 n : Nat} {clk fin : Int} {V W : Nat → Int} {i : Nat} (h : i < n) : (bL k0 n clk fin V W).getD i 0 = bC k0 clk fin V W i := by simp [bL, List.getD, h]
theorem zset {l : List Int} {k i : Nat} {x : Int} (hk : k < l.length) : (l.set k x).getD i 0 = if i = k then x else l.getD i 0 := by
  by_cases h : i = k
  · subst h; simp [List.getD, List.getElem?_set, hk]
  · rw [if_neg h]; simp [List.getD, List.getElem?_set, Ne.symm h]
section
variable {k0 n : Nat} {clk fin : Int} {V W : Nat → Int}
include k0 n clk fin V W
theorem Qf2 {l : List Int} (hl : l.length = n) (h : ∀ i, i < n → l.getD i 0 = bC k0 clk fin V W i) : l = bL k0 n clk fin V W := QgA 0 _ _ (by rw [QbV, hl]) fun i hi => by rw [h i (by omega), Qit (by omega)]
theorem bL_val (hk : 4 ≤ k0) (q : Nat) (hq : k0 + 4 * q + 1 < n) (x : Int) : (bL k0 n clk fin V W).set (k0 + 4 * q + 1) x = bL k0 n clk fin (upV V q x) W := Qf2 (by rw [List.length_set, QbV]) fun i hi => by
  rw [zset (by rw [QbV]; exact hq), Qit hi]
  unfold bC upV
  by_cases h : i = k0 + 4 * q + 1
  · have h1 : (i - k0) % 4 = 1 := by omega
    have h2 : (i - k0) / 4 = q := by omega
    rw [if_pos h, if_neg (by omega), if_neg (by omega), if_neg (by omega), if_neg (by omega), if_pos h1, if_pos h2]
  · rw [if_neg h]
    by_cases h1 : (i - k0) % 4 = 1
    · by_cases h2 : (i - k0) / 4 = q
      · by_cases h3 : i < k0
        · simp only [if_pos h3]
        · exfalso; omega
      · simp only [if_neg h2]
    · simp only [if_neg h1]
theorem bL_word (hk : 4 ≤ k0) (q : Nat) (hq : k0 + 4 * q < n) (x : Int) : (bL k0 n clk fin V W).set (k0 + 4 * q) x = bL k0 n clk fin V (upV W q x) := Qf2 (by rw [List.length_set, QbV]) fun i hi => by
  rw [zset (by rw [QbV]; exact hq), Qit hi]
  unfold bC upV
  by_cases h : i = k0 + 4 * q
  · have h1 : (i - k0) % 4 = 0 := by omega
    have h2 : (i - k0) / 4 = q := by omega
    rw [if_pos h, if_neg (by omega), if_neg (by omega), if_neg (by omega), if_neg (by omega), if_neg (by omega), if_pos h1, if_pos h2]
  · rw [if_neg h]
    by_cases h1 : (i - k0) % 4 = 1
    · simp only [if_pos h1]
    · by_cases h0 : (i - k0) % 4 = 0
      · by_cases h2 : (i - k0) / 4 = q
        · by_cases h3 : i < k0
          · simp only [if_pos h3]
          · exfalso; omega
        · simp only [if_neg h2]
      · simp only [if_neg h0]
theorem bL_clk (hn : 0 < n) (x : Int) : (bL k0 n clk fin V W).set 0 x = bL k0 n x fin V W := Qf2 (by rw [List.length_set, QbV]) fun i hi => by
  rw [zset (by rw [QbV]; exact hn), Qit hi]
  unfold bC
  by_cases h : i = 0
  · rw [if_pos h, if_pos h]
  · rw [if_neg h, if_neg h, if_neg h]
theorem bL_fin (hn : 3 < n) (x : Int) : (bL k0 n clk fin V W).set 3 x = bL k0 n clk x V W := Qf2 (by rw [List.length_set, QbV]) fun i hi => by
  rw [zset (by rw [QbV]; exact hn), Qit hi]
  unfold bC
  by_cases h : i = 3
  · rw [if_pos h, if_neg (by omega), if_neg (by omega), if_pos h]
  · rw [if_neg h, if_neg h, if_neg h]
end
theorem bL_new {k0 n : Nat} (hn : 1 < n) : (List.replicate n (0 : Int)).set 1 1 = bL k0 n 0 0 (fun _ => 0) (fun _ => 0) := Qf2 (by simp) fun i hi => by
  rw [zset (by simpa using hn)]
  have e : (List.replicate n (0 : Int)).getD i 0 = 0 := by simp [List.getD, List.getElem?_replicate, hi]
  rw [e]
  unfold bC
  by_cases h : i = 1
  · rw [if_pos h, if_neg (by omega), if_pos h]
  · rw [if_neg h, if_neg h]
    simp
theorem QgK {k0 n L : Nat} {clk fin : Int} {V W V' W' : Nat → Int} (hn : n = k0 + 4 * L) (hV : ∀ q, q < L → V q = V' q) (hW : ∀ q, q < L → W q = W' q) : bL k0 n clk fin V W = bL k0 n clk fin V' W' := Qf2 (QbV _ _ _ _ _ _) fun i hi => by
  rw [Qit hi]
  unfold bC
  by_cases h3 : i < k0
  · simp only [if_pos h3]
  · simp only [if_neg h3]
    by_cases h1 : (i - k0) % 4 = 1
    · rw [if_pos h1, if_pos h1, hV _ (by omega)]
    · rw [if_neg h1, if_neg h1]
      by_cases h0 : (i - k0) % 4 = 0
      · rw [if_pos h0, if_pos h0, hW _ (by omega)]
      · rw [if_neg h0, if_neg h0]
def kOf (c : Cf) : Nat := (4 + 4 * c.t + c.k).toNat
def nOf (c : Cf) : Nat := kOf c + 4 * c.l.toNat
theorem QbR {c : Cf} (h : c.ok) : 8 ≤ kOf c ∧ kOf c ≤ 28 ∧ c.l = (c.l.toNat : Int) ∧ c.l.toNat ≤ 32 ∧ (Qbc c).size = (nOf c : Int) ∧ (Qbc c).clock = 0 ∧ (Qbc c).stamps = 1 ∧ (Qbc c).fin = 3 ∧ nOf c ≤ 156 := by
  obtain ⟨⟨h1, h2⟩, ⟨h3, h4⟩, ⟨h5, h6⟩, _⟩ := h
  unfold kOf nOf kOf Qbc
  simp only
  refine ⟨by omega, by omega, by omega, by omega, by omega, by trivial, by trivial, by trivial, by omega⟩
theorem QlE {c : Cf} (h : c.ok) : (Qbc c).ok := by
  obtain ⟨⟨h1, h2⟩, ⟨h3, h4⟩, ⟨h5, h6⟩, _⟩ := h
  unfold Ly.ok Qbc
  simp only
  omega
theorem Qf7 {c : Cf} (h : c.ok) {q : Nat} (hq : (q : Int) < c.l) : Qes (Qbc c) q = ((kOf c + 4 * q + 1 : Nat) : Int) ∧ Qhw (Qbc c) q = ((kOf c + 4 * q : Nat) : Int) ∧ kOf c + 4 * q + 1 < nOf c := by
  obtain ⟨⟨h1, h2⟩, ⟨h3, h4⟩, ⟨h5, h6⟩, _⟩ := h
  unfold Qes Qhw Qhr nOf kOf Qbc
  simp only
  refine ⟨?_, ?_, by omega⟩
  · rw [if_neg (by omega)]; omega
  · rw [if_neg (by omega)]; omega
theorem Qh9 {c : Cf} (h : c.ok) (zs : List Int) : ∀ k : Nat, (k : Int) ≤ c.l → stZ (List.replicate (nOf c) 0) (QbY (Qbc c) zs k) = bL (kOf c) (nOf c) 0 0 (fun q => if q < k then zs.getD q 0 else 0) (fun _ => 0)
  | 0, _ => by
    obtain ⟨n1, n2, n3, n4, n5, n6, n7, n8, n9⟩ := QbR h
    rw [QkJ, n7]
    have e := bL_new (k0 := kOf c) (n := nOf c) (by unfold nOf; omega)
    simp only [Nat.not_lt_zero, if_false]
    exact e
  | k + 1, hk => by
    obtain ⟨n1, n2, n3, n4, n5, n6, n7, n8, n9⟩ := QbR h
    obtain ⟨v1, v2, v3⟩ := Qf7 h (q := k) (by omega)
    rw [QkI (Qbc c) zs _ k (show (k : Int) < (Qbc c).c.l from by show (k : Int) < c.l; omega), Qh9 h zs k (by omega), v1, Int.toNat_natCast, bL_val (by omega) k v3]
    congr 1
    funext q
    unfold upV
    by_cases e : q = k
    · rw [if_pos e, if_pos (by omega), e]
    · rw [if_neg e]
      show (if q < k then zs.getD q 0 else 0) = _
      by_cases e2 : q < k
      · rw [if_pos e2, if_pos (by omega)]
      · rw [if_neg e2, if_neg (by omega)]
theorem init_all {c : Cf} (h : c.ok) (zs : List Int) : stZ (List.replicate (nOf c) 0) (QbY (Qbc c) zs zs.length) = bL (kOf c) (nOf c) 0 0 (fun q => zs.getD q 0) (fun _ => 0) := by
  obtain ⟨n1, n2, n3, n4, n5, n6, n7, n8, n9⟩ := QbR h
  rcases Nat.lt_or_ge zs.length c.l.toNat with hl | hl
  · rw [Qh9 h zs zs.length (by omega)]
    refine QgK (L := c.l.toNat) rfl (fun q hq => ?_) (fun q hq => rfl)
    by_cases e : q < zs.length
    · rw [if_pos e]
    · rw [if_neg e]; simp [List.getD, List.getElem?_eq_none (Nat.not_lt.1 e)]
  · obtain ⟨d, hd⟩ : ∃ d, zs.length = c.l.toNat + d := ⟨zs.length - c.l.toNat, by omega⟩
    rw [hd, Qi_ (Qbc c) zs c.l.toNat d (show c.l ≤ (c.l.toNat : Int) by omega), Qh9 h zs c.l.toNat (by omega)]
    refine QgK (L := c.l.toNat) rfl (fun q hq => ?_) (fun q hq => rfl)
    rw [if_pos hq]
theorem init_err {c : Cf} (h : c.ok) (zs : List Int) (k : Nat) : Qc7 (nOf c) (QbY (Qbc c) zs k) = 0 := by
  obtain ⟨n1, n2, n3, n4, n5, n6, n7, n8, n9⟩ := QbR h
  refine Qid (Qbc c) zs (nOf c) k (by rw [n7]; exact ⟨by decide, by unfold nOf; omega⟩) (fun i hi => ?_)
  obtain ⟨v1, v2, v3⟩ := Qf7 h (q := i) hi
  rw [v1]
  exact ⟨by omega, by omega⟩
def vvB (P : List (Int × Ws)) (zs : List Int) (q : Nat) : Int := match Qc6 P q with
  | some t => t.2.1
  | none => zs.getD q 0
def wwB (P : List (Int × Ws)) (q : Nat) : Int := match Qc6 P q with
  | some t => wrap64 (2 * t.2.2)
  | none => 0
def QdP (P : List (Int × Ws)) : Int := match P.getLast? with
  | some p => p.1
  | none => 0
def Qj9 (c : Cf) (zs : List Int) (R : List (Int × Ws) × Nat) : List Int := bL (kOf c) (nOf c) (QdP R.1) (R.2 : Int) (vvB R.1 zs) (wwB R.1)
def QdO (j : Nat) (A B : Nat → Int) : Nat → Int := fun q => if q < j then A q else B q
theorem mix_0 (A B : Nat → Int) : QdO 0 A B = B := by funext q; simp [QdO]
theorem Qi0 {j : Nat} {A B : Nat → Int} {x : Int} (h : A j = x) : upV (QdO j A B) j x = QdO (j + 1) A B := by
  funext q
  unfold upV QdO
  by_cases e : q = j
  · rw [if_pos e, if_pos (by omega), e, h]
  · rw [if_neg e]
    by_cases e2 : q < j
    · rw [if_pos e2, if_pos (by omega)]
    · rw [if_neg e2, if_neg (by omega)]
theorem Qi1 {j : Nat} {A B : Nat → Int} (h : A j = B j) : QdO j A B = QdO (j + 1) A B := by
  funext q
  unfold QdO
  by_cases e : q = j
  · rw [if_neg (by omega), if_pos (by omega), e, h]
  · by_cases e2 : q < j
    · rw [if_pos e2, if_pos (by omega)]
    · rw [if_neg e2, if_neg (by omega)]
theorem bL_done {c : Cf} {clk fin : Int} {A B C D : Nat → Int} : bL (kOf c) (nOf c) clk fin (QdO c.l.toNat A B) (QdO c.l.toNat C D) = bL (kOf c) (nOf c) clk fin A C :=
  QgK (L := c.l.toNat) rfl (fun q hq => by unfold QdO; rw [if_pos hq]) (fun q hq => by unfold QdO; rw [if_pos hq])
end Go.Proofs.Ytfhmdlihnidjoaa
