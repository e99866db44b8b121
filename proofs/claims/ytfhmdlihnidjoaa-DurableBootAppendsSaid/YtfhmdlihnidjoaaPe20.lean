/-
  Merged: Bo0
-/
import Derived.Test.YtfhmdlihnidjoaaRows
import Derived.Test.YtfhmdlihnidjoaaPe2
import Derived.Test.YtfhmdlihnidjoaaPe17
import Derived.Test.YtfhmdlihnidjoaaPe19
import Derived.WalkKit
namespace Go.Proofs.Ytfhmdlihnidjoaa
set_option linter.unusedVariables false
set_option linter.unusedSectionVars false
set_option linter.unusedSimpArgs false
set_option maxRecDepth 100000
open Go Go.RowKit SZ
attribute [local irreducible] post GD Nxt Qaf
def Qd7 : List (Int × Ws) → Int → Option (Int × Int × Int)
  | [], _ => none
  | p :: r, loc => match Qd7 r loc with
    | some t => some t
    | none => (Qcv loc p.2).map fun x => (x.1, x.2, p.1)
theorem Qdz (p : Int × Ws) (loc : Int) : ∀ P : List (Int × Ws), Qd7 (P ++ [p]) loc = match Qcv loc p.2 with
    | some x => some (x.1, x.2, p.1)
    | none => Qd7 P loc
  | [] => by
    have e : Qd7 ([] ++ [p]) loc = (Qcv loc p.2).map fun x => (x.1, x.2, p.1) := by simp [Qd7]
    rw [e]
    cases Qcv loc p.2 <;> simp [Qd7]
  | q :: r => by
    show (match Qd7 (r ++ [p]) loc with | some t => some t | none => _) = _
    rw [Qdz p loc r]
    cases h : Qcv loc p.2 with
    | some x => rfl
    | none => rfl
def QiN (e : Et) : En := ⟨e.ver, e.a, e.c, e.ws⟩
theorem Qlp (l : List Et) (j : Nat) (hj : j < l.length) : ((l.map QiN)[j]?.getD default) = QiN (l.getD j e00) := by
  simp [List.getD, List.getElem?_eq_getElem hj]
theorem Qff (es es' : List En) (loc : Int) : ∀ l : List Nat, (∀ j ∈ l, es[j]?.getD default = es'[j]?.getD default) → Qcx es loc l = Qcx es' loc l
  | [], _ => rfl
  | j :: l, h => by
    simp only [Qcx, h j (by simp)]
    cases Qcv loc (es'[j]?.getD default).ws with
    | some x => rfl
    | none => exact Qff es es' loc l fun i hi => h i (by simp [hi])
theorem bkL_top (n : Nat) : bkL (n + 1) 0 = n :: bkL n 0 := by
  unfold bkL
  rw [Nat.sub_zero, Nat.sub_zero, List.range_succ_eq_map, List.map_cons, List.map_map]
  congr 1
  apply List.map_congr_left
  intro k _
  simp
  omega
theorem bkL_lt (n : Nat) : ∀ j ∈ bkL n 0, j < n := by
  intro j hj
  simp only [bkL, List.mem_map, List.mem_range] at hj
  obtain ⟨k, hk, rfl⟩ := hj
  omega
theorem QgU (loc : Int) : ∀ (n : Nat) (l : List Et), l.length = n → Qcx (l.map QiN) loc (bkL n 0) = Qd7 (l.map prE) loc
  | 0, l, h => by rw [List.length_eq_zero_iff.1 h]; rfl
  | n + 1, l, h => by
    have hne : l ≠ [] := fun q => by rw [q] at h; cases h
    have e : l = l.dropLast ++ [l.getLast hne] := (List.dropLast_concat_getLast hne).symm
    have hl : l.dropLast.length = n := by rw [List.length_dropLast]; omega
    have ih := QgU loc n l.dropLast hl
    have e1 : ((l.map QiN)[n]?.getD default) = QiN (l.getLast hne) := by
      have hd : (l.dropLast.map QiN).length = n := by rw [List.length_map, hl]
      conv => lhs; rw [e]
      rw [List.map_append, List.getElem?_append_right (by rw [hd]; exact Nat.le_refl _), hd, Nat.sub_self]
      rfl
    rw [bkL_top]
    show (match Qcv loc (((l.map QiN)[n]?.getD default)).ws with | some x => some (x.1, x.2, ((l.map QiN)[n]?.getD default).ver) | none => Qcx (l.map QiN) loc (bkL n 0)) = _
    rw [e1]
    have e2 : Qcx (l.map QiN) loc (bkL n 0) = Qcx (l.dropLast.map QiN) loc (bkL n 0) := Qff _ _ _ _ fun j hj => by
      have hj2 := bkL_lt n j hj
      conv => lhs; rw [e]
      rw [List.map_append, List.getElem?_append_left (by simpa using (by omega : j < l.dropLast.length))]
    rw [e2, ih]
    conv => rhs; rw [e, List.map_append, List.map_singleton, Qdz]
    rfl
def bC (k0 : Nat) (clk fin : Int) (V W : Nat → Int) (i : Nat) : Int :=
  if i = 0 then clk else if i = 1 then 1 else if i = 3 then fin else if i < k0 then 0 else if (i - k0) % 4 = 1 then V ((i - k0) / 4) else if (i - k0) % 4 = 0 then W ((i - k0) / 4) else 0
def bL (k0 n : Nat) (clk fin : Int) (V W : Nat → Int) : List Int := (List.range n).map (bC k0 clk fin V W)
def upV (V : Nat → Int) (q : Nat) (x : Int) : Nat → Int := fun j => if j = q then x else V j
theorem QbF (k0 n : Nat) (clk fin : Int) (V W : Nat → Int) : (bL k0 n clk fin V W).length = n := by simp [bL]
theorem Qhc {k0 n : Nat} {clk fin : Int} {V W : Nat → Int} {i : Nat} (h : i < n) : (bL k0 n clk fin V W).getD i 0 = bC k0 clk fin V W i := by simp [bL, List.getD, h]
theorem zset {l : List Int} {k i : Nat} {x : Int} (hk : k < l.length) : (l.set k x).getD i 0 = if i = k then x else l.getD i 0 := by
  by_cases h : i = k
  · subst h; simp [List.getD, List.getElem?_set, hk]
  · rw [if_neg h]; simp [List.getD, List.getElem?_set, Ne.symm h]
section
variable {k0 n : Nat} {clk fin : Int} {V W : Nat → Int}
include k0 n clk fin V W
theorem QfZ {l : List Int} (hl : l.length = n) (h : ∀ i, i < n → l.getD i 0 = bC k0 clk fin V W i) : l = bL k0 n clk fin V W := eq_upto 0 _ _ (by rw [QbF, hl]) fun i hi => by rw [h i (by omega), Qhc (by omega)]
theorem bL_val (hk : 4 ≤ k0) (q : Nat) (hq : k0 + 4 * q + 1 < n) (x : Int) : (bL k0 n clk fin V W).set (k0 + 4 * q + 1) x = bL k0 n clk fin (upV V q x) W := QfZ (by rw [List.length_set, QbF]) fun i hi => by
  rw [zset (by rw [QbF]; exact hq), Qhc hi]
  unfold bC upV
  by_cases h : i = k0 + 4 * q + 1
  · have h1 : (i - k0) % 4 = 1 := by omega
    have h2 : (i - k0) / 4 = q := by omega
    rw [if_pos h, if_neg (by omega), if_neg (by omega), if_neg (by omega), if_neg (by omega), if_pos h1, if_pos h2]
  · rw [if_neg h]
    by_cases h1 : (i - k0) % 4 = 1
    · by_cases h2 : (i - k0) / 4 = q
      · by_cases h3 : i < k0
        · simp only [if_pos h3]
        · exfalso; omega
      · simp only [if_neg h2]
    · simp only [if_neg h1]
theorem bL_word (hk : 4 ≤ k0) (q : Nat) (hq : k0 + 4 * q < n) (x : Int) : (bL k0 n clk fin V W).set (k0 + 4 * q) x = bL k0 n clk fin V (upV W q x) := QfZ (by rw [List.length_set, QbF]) fun i hi => by
  rw [zset (by rw [QbF]; exact hq), Qhc hi]
  unfold bC upV
  by_cases h : i = k0 + 4 * q
  · have h1 : (i - k0) % 4 = 0 := by omega
    have h2 : (i - k0) / 4 = q := by omega
    rw [if_pos h, if_neg (by omega), if_neg (by omega), if_neg (by omega), if_neg (by omega), if_neg (by omega), if_pos h1, if_pos h2]
  · rw [if_neg h]
    by_cases h1 : (i - k0) % 4 = 1
    · simp only [if_pos h1]
    · by_cases h0 : (i - k0) % 4 = 0
      · by_cases h2 : (i - k0) / 4 = q
        · by_cases h3 : i < k0
          · simp only [if_pos h3]
          · exfalso; omega
        · simp only [if_neg h2]
      · simp only [if_neg h0]
theorem bL_clk (hn : 0 < n) (x : Int) : (bL k0 n clk fin V W).set 0 x = bL k0 n x fin V W := QfZ (by rw [List.length_set, QbF]) fun i hi => by
  rw [zset (by rw [QbF]; exact hn), Qhc hi]
  unfold bC
  by_cases h : i = 0
  · rw [if_pos h, if_pos h]
  · rw [if_neg h, if_neg h, if_neg h]
theorem bL_fin (hn : 3 < n) (x : Int) : (bL k0 n clk fin V W).set 3 x = bL k0 n clk x V W := QfZ (by rw [List.length_set, QbF]) fun i hi => by
  rw [zset (by rw [QbF]; exact hn), Qhc hi]
  unfold bC
  by_cases h : i = 3
  · rw [if_pos h, if_neg (by omega), if_neg (by omega), if_pos h]
  · rw [if_neg h, if_neg h, if_neg h]
end
theorem bL_new {k0 n : Nat} (hn : 1 < n) : (List.replicate n (0 : Int)).set 1 1 = bL k0 n 0 0 (fun _ => 0) (fun _ => 0) := QfZ (by simp) fun i hi => by
  rw [zset (by simpa using hn)]
  have e : (List.replicate n (0 : Int)).getD i 0 = 0 := by simp [List.getD, List.getElem?_replicate, hi]
  rw [e]
  unfold bC
  by_cases h : i = 1
  · rw [if_pos h, if_neg (by omega), if_pos h]
  · rw [if_neg h, if_neg h]
    simp
theorem Qgz {k0 n L : Nat} {clk fin : Int} {V W V' W' : Nat → Int} (hn : n = k0 + 4 * L) (hV : ∀ q, q < L → V q = V' q) (hW : ∀ q, q < L → W q = W' q) : bL k0 n clk fin V W = bL k0 n clk fin V' W' := QfZ (QbF _ _ _ _ _ _) fun i hi => by
  rw [Qhc hi]
  unfold bC
  by_cases h3 : i < k0
  · simp only [if_pos h3]
  · simp only [if_neg h3]
    by_cases h1 : (i - k0) % 4 = 1
    · rw [if_pos h1, if_pos h1, hV _ (by omega)]
    · rw [if_neg h1, if_neg h1]
      by_cases h0 : (i - k0) % 4 = 0
      · rw [if_pos h0, if_pos h0, hW _ (by omega)]
      · rw [if_neg h0, if_neg h0]
def kOf (c : Cf) : Nat := (4 + 4 * c.t + c.k).toNat
def nOf (c : Cf) : Nat := kOf c + 4 * c.l.toNat
theorem QbJ {c : Cf} (h : c.ok) : 8 ≤ kOf c ∧ kOf c ≤ 28 ∧ c.l = (c.l.toNat : Int) ∧ c.l.toNat ≤ 32 ∧ (Qa9 c).size = (nOf c : Int) ∧ (Qa9 c).clock = 0 ∧ (Qa9 c).stamps = 1 ∧ (Qa9 c).fin = 3 ∧ nOf c ≤ 156 := by
  obtain ⟨⟨h1, h2⟩, ⟨h3, h4⟩, ⟨h5, h6⟩, _⟩ := h
  unfold kOf nOf kOf Qa9
  simp only
  refine ⟨by omega, by omega, by omega, by omega, by omega, by trivial, by trivial, by trivial, by omega⟩
theorem Qk0 {c : Cf} (h : c.ok) : (Qa9 c).ok := by
  obtain ⟨⟨h1, h2⟩, ⟨h3, h4⟩, ⟨h5, h6⟩, _⟩ := h
  unfold Ly.ok Qa9
  simp only
  omega
theorem Qf4 {c : Cf} (h : c.ok) {q : Nat} (hq : (q : Int) < c.l) : Qew (Qa9 c) q = ((kOf c + 4 * q + 1 : Nat) : Int) ∧ Qhd (Qa9 c) q = ((kOf c + 4 * q : Nat) : Int) ∧ kOf c + 4 * q + 1 < nOf c := by
  obtain ⟨⟨h1, h2⟩, ⟨h3, h4⟩, ⟨h5, h6⟩, _⟩ := h
  unfold Qew Qhd Qg7 nOf kOf Qa9
  simp only
  refine ⟨?_, ?_, by omega⟩
  · rw [if_neg (by omega)]; omega
  · rw [if_neg (by omega)]; omega
theorem QhG {c : Cf} (h : c.ok) (zs : List Int) : ∀ k : Nat, (k : Int) ≤ c.l → stZ (List.replicate (nOf c) 0) (QbT (Qa9 c) zs k) = bL (kOf c) (nOf c) 0 0 (fun q => if q < k then zs.getD q 0 else 0) (fun _ => 0)
  | 0, _ => by
    obtain ⟨n1, n2, n3, n4, n5, n6, n7, n8, n9⟩ := QbJ h
    rw [Qj8, n7]
    have e := bL_new (k0 := kOf c) (n := nOf c) (by unfold nOf; omega)
    simp only [Nat.not_lt_zero, if_false]
    exact e
  | k + 1, hk => by
    obtain ⟨n1, n2, n3, n4, n5, n6, n7, n8, n9⟩ := QbJ h
    obtain ⟨v1, v2, v3⟩ := Qf4 h (q := k) (by omega)
    rw [Qj7 (Qa9 c) zs _ k (show (k : Int) < (Qa9 c).c.l from by show (k : Int) < c.l; omega), QhG h zs k (by omega), v1, Int.toNat_natCast, bL_val (by omega) k v3]
    congr 1
    funext q
    unfold upV
    by_cases e : q = k
    · rw [if_pos e, if_pos (by omega), e]
    · rw [if_neg e]
      show (if q < k then zs.getD q 0 else 0) = _
      by_cases e2 : q < k
      · rw [if_pos e2, if_pos (by omega)]
      · rw [if_neg e2, if_neg (by omega)]
theorem init_all {c : Cf} (h : c.ok) (zs : List Int) : stZ (List.replicate (nOf c) 0) (QbT (Qa9 c) zs zs.length) = bL (kOf c) (nOf c) 0 0 (fun q => zs.getD q 0) (fun _ => 0) := by
  obtain ⟨n1, n2, n3, n4, n5, n6, n7, n8, n9⟩ := QbJ h
  rcases Nat.lt_or_ge zs.length c.l.toNat with hl | hl
  · rw [QhG h zs zs.length (by omega)]
    refine Qgz (L := c.l.toNat) rfl (fun q hq => ?_) (fun q hq => rfl)
    by_cases e : q < zs.length
    · rw [if_pos e]
    · rw [if_neg e]; simp [List.getD, List.getElem?_eq_none (Nat.not_lt.1 e)]
  · obtain ⟨d, hd⟩ : ∃ d, zs.length = c.l.toNat + d := ⟨zs.length - c.l.toNat, by omega⟩
    rw [hd, QhH (Qa9 c) zs c.l.toNat d (show c.l ≤ (c.l.toNat : Int) by omega), QhG h zs c.l.toNat (by omega)]
    refine Qgz (L := c.l.toNat) rfl (fun q hq => ?_) (fun q hq => rfl)
    rw [if_pos hq]
theorem init_err {c : Cf} (h : c.ok) (zs : List Int) (k : Nat) : Qdc (nOf c) (QbT (Qa9 c) zs k) = 0 := by
  obtain ⟨n1, n2, n3, n4, n5, n6, n7, n8, n9⟩ := QbJ h
  refine QhL (Qa9 c) zs (nOf c) k (by rw [n7]; exact ⟨by decide, by unfold nOf; omega⟩) (fun i hi => ?_)
  obtain ⟨v1, v2, v3⟩ := Qf4 h (q := i) hi
  rw [v1]
  exact ⟨by omega, by omega⟩
def vvB (P : List (Int × Ws)) (zs : List Int) (q : Nat) : Int := match Qd7 P q with
  | some t => t.2.1
  | none => zs.getD q 0
def wwB (P : List (Int × Ws)) (q : Nat) : Int := match Qd7 P q with
  | some t => wrap64 (2 * t.2.2)
  | none => 0
def QeI (P : List (Int × Ws)) : Int := match P.getLast? with
  | some p => p.1
  | none => 0
def Qgv (c : Cf) (zs : List Int) (R : List (Int × Ws) × Nat) : List Int := bL (kOf c) (nOf c) (QeI R.1) (R.2 : Int) (vvB R.1 zs) (wwB R.1)
def QdW (j : Nat) (A B : Nat → Int) : Nat → Int := fun q => if q < j then A q else B q
theorem mix_0 (A B : Nat → Int) : QdW 0 A B = B := by funext q; simp [QdW]
theorem Qis {j : Nat} {A B : Nat → Int} {x : Int} (h : A j = x) : upV (QdW j A B) j x = QdW (j + 1) A B := by
  funext q
  unfold upV QdW
  by_cases e : q = j
  · rw [if_pos e, if_pos (by omega), e, h]
  · rw [if_neg e]
    by_cases e2 : q < j
    · rw [if_pos e2, if_pos (by omega)]
    · rw [if_neg e2, if_neg (by omega)]
theorem Qit {j : Nat} {A B : Nat → Int} (h : A j = B j) : QdW j A B = QdW (j + 1) A B := by
  funext q
  unfold QdW
  by_cases e : q = j
  · rw [if_neg (by omega), if_pos (by omega), e, h]
  · by_cases e2 : q < j
    · rw [if_pos e2, if_pos (by omega)]
    · rw [if_neg e2, if_neg (by omega)]
theorem bL_done {c : Cf} {clk fin : Int} {A B C D : Nat → Int} : bL (kOf c) (nOf c) clk fin (QdW c.l.toNat A B) (QdW c.l.toNat C D) = bL (kOf c) (nOf c) clk fin A C :=
  Qgz (L := c.l.toNat) rfl (fun q hq => by unfold QdW; rw [if_pos hq]) (fun q hq => by unfold QdW; rw [if_pos hq])
end Go.Proofs.Ytfhmdlihnidjoaa
