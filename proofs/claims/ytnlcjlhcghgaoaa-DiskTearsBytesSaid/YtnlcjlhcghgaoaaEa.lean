
/-
  Runs by computation: values over own variables by name, memory as a tree, and what relates them to a world.
-/
import Derived.WalkKit
import Derived.Deep.MidRow
import Derived.Deep.RegionHeld
import Derived.LoopN
import Derived.Laws.AppendOwn
import Derived.Below
import Derived.ProofKit
import Derived.OpenShut
import Derived.KernelRfl
import Derived.Test.YtnlcjlhcghgaoaaSx
namespace Go.Proofs.Ytnlcjlhcghgaoaa.EX
open Go Go.RowKit
set_option linter.unusedVariables false
set_option linter.unusedSimpArgs false
set_option linter.unusedSectionVars false
set_option maxRecDepth 10000

/-! ### Trees by number -/
inductive Tr (α : Type) where
  | leaf
  | node (v : Option α) (l r : Tr α)
namespace Tr
variable {α : Type}
/-- The value at a number: written by recursors, for the kernel's sake. -/
def getN (g : Nat) : Tr α → Nat → Option α :=
  Nat.rec (motive := fun _ => Tr α → Nat → Option α) (fun _ _ => none)
    (fun _ ih t n => Tr.casesOn (motive := fun _ => Option α) t none
      (fun v l r => Nat.casesOn (motive := fun _ => Option α) n v (fun m => Nat.casesOn (motive := fun _ => Option α) (Nat.mod m 2) (ih l (Nat.div m 2)) (fun _ => ih r (Nat.div m 2))))) g
def get (t : Tr α) (n : Nat) : Option α := getN 40 t n
/-- The value at a number, set or taken away. -/
def put (f : Nat) : Tr α → Nat → Option α → Tr α :=
  Nat.rec (motive := fun _ => Tr α → Nat → Option α → Tr α) (fun t _ _ => t)
    (fun _ ih t n x => Tr.casesOn (motive := fun _ => Tr α) t
      (Nat.casesOn (motive := fun _ => Tr α) n (node x leaf leaf) (fun m => Nat.casesOn (motive := fun _ => Tr α) (Nat.mod m 2) (node none (ih leaf (Nat.div m 2) x) leaf) (fun _ => node none leaf (ih leaf (Nat.div m 2) x))))
      (fun v l r => Nat.casesOn (motive := fun _ => Tr α) n (node x l r) (fun m => Nat.casesOn (motive := fun _ => Tr α) (Nat.mod m 2) (node v (ih l (Nat.div m 2) x) r) (fun _ => node v l (ih r (Nat.div m 2) x))))) f
theorem getN_leaf (g n : Nat) : getN g (leaf : Tr α) n = none := by cases g <;> rfl
theorem get_leaf (n : Nat) : (leaf : Tr α).get n = none := getN_leaf 40 n
theorem getN_zero (g : Nat) (v : Option α) (l r : Tr α) : getN (g + 1) (node v l r) 0 = v := rfl
theorem getN_succ (g : Nat) (v : Option α) (l r : Tr α) (m : Nat) : getN (g + 1) (node v l r) (m + 1) = if m % 2 = 0 then getN g l (m / 2) else getN g r (m / 2) := by
  show Nat.casesOn (motive := fun _ => Option α) (m % 2) (getN g l (m / 2)) (fun _ => getN g r (m / 2)) = _
  cases m % 2 with
  | zero => rfl
  | succ k => rfl
theorem put_zero (t : Tr α) (n : Nat) (x : Option α) : put 0 t n x = t := rfl
theorem put_node0 (f : Nat) (v : Option α) (l r : Tr α) (x : Option α) : put (f + 1) (node v l r) 0 x = node x l r := rfl
theorem put_leaf0 (f : Nat) (x : Option α) : put (f + 1) leaf 0 x = node x leaf leaf := rfl
theorem put_nodeS (f : Nat) (v : Option α) (l r : Tr α) (m : Nat) (x : Option α) : put (f + 1) (node v l r) (m + 1) x = if m % 2 = 0 then node v (put f l (m / 2) x) r else node v l (put f r (m / 2) x) := by
  show Nat.casesOn (motive := fun _ => Tr α) (m % 2) (node v (put f l (m / 2) x) r) (fun _ => node v l (put f r (m / 2) x)) = _
  cases m % 2 with
  | zero => rfl
  | succ k => rfl
theorem put_leafS (f : Nat) (m : Nat) (x : Option α) : put (f + 1) leaf (m + 1) x = if m % 2 = 0 then node none (put f leaf (m / 2) x) leaf else node none leaf (put f leaf (m / 2) x) := by
  show Nat.casesOn (motive := fun _ => Tr α) (m % 2) (node none (put f leaf (m / 2) x) leaf) (fun _ => node none leaf (put f leaf (m / 2) x)) = _
  cases m % 2 with
  | zero => rfl
  | succ k => rfl
theorem getN_put : ∀ (f g : Nat) (t : Tr α) (n k : Nat) (x : Option α), n + 1 < 2 ^ f → n + 1 < 2 ^ g → getN g (put f t n x) k = if k = n then x else getN g t k
  | 0, g, t, n, k, x, h, h' => by simp at h
  | f + 1, 0, t, n, k, x, h, h' => by simp at h'
  | f + 1, g + 1, leaf, 0, k, x, h, h' => by
    rw [put_leaf0]
    cases k with
    | zero => simp [getN_zero]
    | succ k => rw [getN_succ]; split <;> simp [getN_leaf]
  | f + 1, g + 1, leaf, m + 1, k, x, h, h' => by
    have hm : m / 2 + 1 < 2 ^ f := by rw [Nat.pow_succ] at h; omega
    have hg : m / 2 + 1 < 2 ^ g := by rw [Nat.pow_succ] at h'; omega
    rw [put_leafS]
    split
    · rename_i h0
      cases k with
      | zero => simp [getN_zero, getN_leaf]
      | succ k =>
        rw [getN_succ, getN_leaf, getN_leaf]
        split
        · rename_i h1
          rw [getN_put f g leaf (m / 2) (k / 2) x hm hg, getN_leaf]
          by_cases e : k = m
          · subst e; simp
          · have e2 : ¬ (k / 2 = m / 2) := by omega
            have e3 : ¬ (k + 1 = m + 1) := by omega
            rw [if_neg e2, if_neg e3]
        · rename_i h1; rw [if_neg (by intro e; apply h1; omega)]
    · rename_i h0
      cases k with
      | zero => simp [getN_zero, getN_leaf]
      | succ k =>
        rw [getN_succ, getN_leaf, getN_leaf]
        split
        · rename_i h1; rw [if_neg (by intro e; apply h0; omega)]
        · rename_i h1
          rw [getN_put f g leaf (m / 2) (k / 2) x hm hg, getN_leaf]
          by_cases e : k = m
          · subst e; simp
          · have e2 : ¬ (k / 2 = m / 2) := by omega
            have e3 : ¬ (k + 1 = m + 1) := by omega
            rw [if_neg e2, if_neg e3]
  | f + 1, g + 1, node v l r, 0, k, x, h, h' => by
    rw [put_node0]
    cases k with
    | zero => simp [getN_zero]
    | succ k => rw [getN_succ, getN_succ, if_neg (Nat.succ_ne_zero k)]
  | f + 1, g + 1, node v l r, m + 1, k, x, h, h' => by
    have hm : m / 2 + 1 < 2 ^ f := by rw [Nat.pow_succ] at h; omega
    have hg : m / 2 + 1 < 2 ^ g := by rw [Nat.pow_succ] at h'; omega
    rw [put_nodeS]
    split
    · rename_i h0
      cases k with
      | zero => simp [getN_zero]
      | succ k =>
        rw [getN_succ, getN_succ]
        split
        · rename_i h1
          rw [getN_put f g l (m / 2) (k / 2) x hm hg]
          by_cases e : k = m
          · subst e; simp
          · have e2 : ¬ (k / 2 = m / 2) := by omega
            have e3 : ¬ (k + 1 = m + 1) := by omega
            rw [if_neg e2, if_neg e3]
        · rename_i h1; rw [if_neg (by intro e; apply h1; omega)]
    · rename_i h0
      cases k with
      | zero => simp [getN_zero]
      | succ k =>
        rw [getN_succ, getN_succ]
        split
        · rename_i h1; rw [if_neg (by intro e; apply h0; omega)]
        · rename_i h1
          rw [getN_put f g r (m / 2) (k / 2) x hm hg]
          by_cases e : k = m
          · subst e; simp
          · have e2 : ¬ (k / 2 = m / 2) := by omega
            have e3 : ¬ (k + 1 = m + 1) := by omega
            rw [if_neg e2, if_neg e3]
theorem get_put (t : Tr α) (n k : Nat) (x : Option α) (h : n + 1 < 2 ^ 40) : (put 40 t n x).get k = if k = n then x else t.get k := getN_put 40 40 t n k x h h
/-- Set, where the number is small enough. -/
def set (t : Tr α) (n : Nat) (x : Option α) : Tr α := put 40 t n x
end Tr

/-! ### Values over own variables, by name -/
inductive SV where
  | v (x : Value)
  | y (x : Value)
  | p (i o : Nat)
  | s (i o l c : Nat)
  | r (i o l c : Nat)
  | z (i o q : Nat)
  | m (i : Nat)
  | g (cs : List SV)
  | t (cs : List SV)
  | f (fn : FuncId) (first caps : List SV)
  | e (ty : TypeId) (x : SV)
  | q (i o l c : Nat)
  | a (i o : Nat)
/-- Rows that are given and only read: where they lie, and what they hold. -/
class FC where
  b : Nat → Nat
  o : Nat → Nat
  cs : Nat → List SV
  ok : World → Prop
  mono : ∀ w w' : World, ok w → w.grownBy w' none → ok w'
instance noFC : FC := ⟨fun _ => 0, fun _ => 0, fun _ => [], fun _ => True, fun _ _ _ _ => trivial⟩
variable [FC]
/-- Where the names lie: their blocks, and how many elements fit there. -/
abbrev Pl := Nat → Nat × Nat
mutual
def den (B : Pl) : SV → Value
  | .v x => x
  | .y x => x
  | .p i o => .pointer (some ⟨(B i).1, o, none⟩)
  | .s i o l c => .slice (some ⟨(B i).1, o, none⟩) l c
  | .r i o l c => .slice (some ⟨(B i).1, o, none⟩) l ((B i).2 + c)
  | .z i o q => .slice (some ⟨(B i).1, if (B i).2 = 0 then o else q, none⟩) 0 (B i).2
  | .m i => .map (some (B i).1)
  | .g cs => .agg (denL B cs).toArray
  | .t cs => .tuple (denL B cs).toArray
  | .f fn first caps => .func (.func fn) (denL B first).toArray (denL B caps).toArray
  | .e ty x => .iface ty (den B x)
  | .q i o l c => .slice (some ⟨FC.b i, FC.o i + o, none⟩) l c
  | .a i o => .pointer (some ⟨FC.b i, FC.o i + o, none⟩)
def denL (B : Pl) : List SV → List Value
  | [] => []
  | x :: l => den B x :: denL B l
end
mutual
def bd (S : Nat → Prop) : SV → Prop
  | .v _ => True
  | .y _ => True
  | .p i _ => S i
  | .s i _ _ _ => S i
  | .r i _ _ _ => S i
  | .z i _ _ => S i
  | .m i => S i
  | .g cs => bdL S cs
  | .t cs => bdL S cs
  | .f _ first caps => bdL S first ∧ bdL S caps
  | .e _ x => bd S x
  | .q _ _ _ _ => True
  | .a _ _ => True
def bdL (S : Nat → Prop) : List SV → Prop
  | [] => True
  | x :: l => bd S x ∧ bdL S l
end
theorem denL_map (B : Pl) : ∀ l : List SV, denL B l = l.map (den B)
  | [] => by simp [denL]
  | x :: l => by simp [denL, denL_map B l]
theorem bdL_iff {S : Nat → Prop} : ∀ {l : List SV}, bdL S l ↔ ∀ x ∈ l, bd S x
  | [] => by simp [bdL]
  | x :: l => by simp [bdL, bdL_iff (l := l)]
/-- Nothing lies elsewhere, but what is named from n on and before n'. -/
def Ag (n n' : Nat) (B B' : Pl) : Prop := ∀ i, i < n ∨ n' ≤ i → B' i = B i
theorem Ag.refl (n n' : Nat) (B : Pl) : Ag n n' B B := fun _ _ => rfl
theorem Ag.trans {n m k : Nat} {B C D : Pl} (h : Ag n m B C) (g : Ag m k C D) (hnm : n ≤ m) (hmk : m ≤ k) : Ag n k B D := fun i hi => (g i (by omega)).trans (h i (by omega))
theorem Ag.on {n n' : Nat} {B B' : Pl} {S : Nat → Prop} (h : Ag n n' B B') (hS : ∀ j, S j → j < n) : ∀ i, S i → B' i = B i := fun i hi => h i (Or.inl (hS i hi))
/-- The names S, and those from n on and before n'. -/
def ext (S : Nat → Prop) (n n' : Nat) : Nat → Prop := fun j => S j ∨ (n ≤ j ∧ j < n')
theorem ext_self (S : Nat → Prop) (n : Nat) : ext S n n = S := by funext j; apply propext; unfold ext; exact ⟨fun h => h.elim id (fun h => by omega), Or.inl⟩
theorem ext_ext {S : Nat → Prop} {n m k : Nat} (h : n ≤ m) (g : m ≤ k) : ext (ext S n m) m k = ext S n k := by
  funext j; apply propext; unfold ext
  exact ⟨fun h => h.elim (fun h => h.elim Or.inl (fun h => Or.inr (by omega))) (fun h => Or.inr (by omega)), fun h => h.elim (fun h => Or.inl (Or.inl h)) (fun h => if hj : j < m then Or.inl (Or.inr ⟨h.1, hj⟩) else Or.inr (by omega))⟩
theorem ext_lt {S : Nat → Prop} {n n' : Nat} (hS : ∀ j, S j → j < n) (h : n ≤ n') : ∀ j, ext S n n' j → j < n' := fun j hj => hj.elim (fun h' => by have := hS j h'; omega) (fun h' => h'.2)
theorem ext_sub {S : Nat → Prop} {n n' : Nat} : ∀ j, S j → ext S n n' j := fun _ h => Or.inl h
mutual
theorem den_ag {S : Nat → Prop} {B B' : Pl} (h : ∀ i, S i → B' i = B i) : ∀ {x : SV}, bd S x → den B' x = den B x
  | .v _, _ => by simp [den]
  | .y _, _ => by simp [den]
  | .p i _, hb => by simp only [bd] at hb; simp [den, h i hb]
  | .s i _ _ _, hb => by simp only [bd] at hb; simp [den, h i hb]
  | .r i _ _ _, hb => by simp only [bd] at hb; simp [den, h i hb]
  | .z i _ _, hb => by simp only [bd] at hb; simp [den, h i hb]
  | .m i, hb => by simp only [bd] at hb; simp [den, h i hb]
  | .g cs, hb => by simp only [bd] at hb; simp [den, denL_ag h hb]
  | .t cs, hb => by simp only [bd] at hb; simp [den, denL_ag h hb]
  | .f _ a b, hb => by simp only [bd] at hb; simp [den, denL_ag h hb.1, denL_ag h hb.2]
  | .e _ x, hb => by simp only [bd] at hb; simp [den, den_ag h hb]
  | .q _ _ _ _, _ => by simp [den]
  | .a _ _, _ => by simp [den]
theorem denL_ag {S : Nat → Prop} {B B' : Pl} (h : ∀ i, S i → B' i = B i) : ∀ {l : List SV}, bdL S l → denL B' l = denL B l
  | [], _ => by simp [denL]
  | x :: l, hb => by simp only [bdL] at hb; simp [denL, den_ag h hb.1, denL_ag h hb.2]
end
mutual
theorem bd_mono {S S' : Nat → Prop} (h : ∀ j, S j → S' j) : ∀ {x : SV}, bd S x → bd S' x
  | .v _, _ => by simp [bd]
  | .y _, _ => by simp [bd]
  | .p i _, hb => by simp only [bd] at hb ⊢; exact h _ hb
  | .s i _ _ _, hb => by simp only [bd] at hb ⊢; exact h _ hb
  | .r i _ _ _, hb => by simp only [bd] at hb ⊢; exact h _ hb
  | .z i _ _, hb => by simp only [bd] at hb ⊢; exact h _ hb
  | .m i, hb => by simp only [bd] at hb ⊢; exact h _ hb
  | .g cs, hb => by simp only [bd] at hb ⊢; exact bdL_mono h hb
  | .t cs, hb => by simp only [bd] at hb ⊢; exact bdL_mono h hb
  | .f _ a b, hb => by simp only [bd] at hb ⊢; exact ⟨bdL_mono h hb.1, bdL_mono h hb.2⟩
  | .e _ x, hb => by simp only [bd] at hb ⊢; exact bd_mono h hb
  | .q _ _ _ _, _ => by simp [bd]
  | .a _ _, _ => by simp [bd]
theorem bdL_mono {S S' : Nat → Prop} (h : ∀ j, S j → S' j) : ∀ {l : List SV}, bdL S l → bdL S' l
  | [], _ => by simp [bdL]
  | x :: l, hb => by simp only [bdL] at hb ⊢; exact ⟨bd_mono h hb.1, bdL_mono h hb.2⟩
end

/-! ### Memory -/
structure Bx where
  ty : TypeId
  cs : List SV
  sz : Nat := 0
  mp : Bool := false
  es : List SV := []
/-- The entries of a map: keys and values in turn, as they were put in. -/
def entD : Nat → List Value → List MapEntry
  | n, k :: v :: l => { key := k, val := v, born := n } :: entD (n + 1) l
  | _, _ => []
/-- A row that was made from a string bears a mark behind its last cell (es is not empty). -/
def fzOf : List SV → Nat → Nat × Nat
  | [], _ => (0, 0)
  | _ :: _, n => (n, n + 1)
/-- The iterator of a range over a known string: the string, and the place that is next. -/
def itO : List SV → Option (ByteArray × Nat)
  | [.v (.string s), .v (.int .i64 (.ofNat p))] => some (s, p)
  | _ => none
def objM (B : Pl) (es : List SV) : Obj :=
  match itO es with
  | some (s, p) => .stringIter s p
  | none => .map (entD 0 (denL B es)).toArray (entD 0 (denL B es)).length
def objOf (B : Pl) (k : Bx) (rest : List Value) : Obj :=
  match k.mp with
  | false => .cells (denL B k.cs ++ rest).toArray k.ty (fzOf k.es (denL B k.cs ++ rest).length)
  | true => objM B k.es
/-- What a box holds speaks of the names S; a map has no cells. -/
def bdK (S : Nat → Prop) (k : Bx) : Prop := bdL S k.cs ∧ (k.mp = true → k.cs = [] ∧ k.sz = 0 ∧ bdL S k.es)
theorem bdK_mono {S S' : Nat → Prop} {k : Bx} (h : ∀ j, S j → S' j) (g : bdK S k) : bdK S' k :=
  ⟨bdL_mono h g.1, fun e => ⟨(g.2 e).1, (g.2 e).2.1, bdL_mono h (g.2 e).2.2⟩⟩
theorem objOf_ag {S : Nat → Prop} {B B' : Pl} {k : Bx} (h : ∀ i, S i → B' i = B i) (g : bdK S k) (rest : List Value) : objOf B' k rest = objOf B k rest := by
  unfold objOf
  cases e : k.mp with
  | false => simp only; rw [denL_ag h g.1]
  | true => simp only [objM]; rw [denL_ag h (g.2 e).2.2]
theorem bdK.cell {S : Nat → Prop} {k : Bx} (g : bdK S k) {o : Nat} (h : o < k.cs.length) : k.mp = false := by
  cases e : k.mp with
  | false => rfl
  | true => rw [(g.2 e).1] at h; exact absurd h (Nat.not_lt_zero _)
theorem objOf_any {B : Pl} {k : Bx} (h : k.mp = false) (rest : List Value) : objOf B k rest = .cells (denL B k.cs ++ rest).toArray k.ty (fzOf k.es (denL B k.cs ++ rest).length) := by
  unfold objOf; rw [h]
theorem objOf_cells {B : Pl} {k : Bx} (h : k.mp = false) (he : k.es = []) (rest : List Value) : objOf B k rest = .cells (denL B k.cs ++ rest).toArray k.ty (0, 0) := by
  rw [objOf_any h, he]; rfl
def nilB : List SV → Bool
  | [] => true
  | _ => false
theorem nilB_ok {l : List SV} (h : nilB l = true) : l = [] := by
  cases l with
  | nil => rfl
  | cons a b => cases h
/-- What is known of memory outside the own variables: a fact that speaks of the blocks bl alone. -/
abbrev RF := SX.RF
/-- The rest of a row: room for so many elements more. -/
def rowOk (c : Nat) (k : Bx) (rest : List Value) : Prop := rest.length = c * k.sz ∧ (k.sz = 0 ∨ c * k.sz + k.cs.length ≤ maxLen * k.sz)
/-- The given rows lie in a world. -/
def FcAt (w : World) : Prop := FC.ok w ∧ ∀ i j x, (FC.cs i)[j]? = some x → w.cell? ⟨FC.b i, FC.o i + j, none⟩ = some (den (fun _ => (0, 0)) x) ∧ bd (fun _ => False) x
theorem FcAt.grown {w w' : World} (h : FcAt w) (g : w.grownBy w' none) : FcAt w' := by
  refine ⟨FC.mono w w' h.1 g, fun i j x hx => ?_⟩
  obtain ⟨h1, h2⟩ := h.2 i j x hx
  refine ⟨?_, h2⟩
  simp only [World.cell?] at h1 ⊢
  have hlt : FC.b i < w.heap.size := by
    cases hh : w.heap[FC.b i]? with
    | none => rw [hh] at h1; cases h1
    | some ob => exact (Array.getElem?_eq_some_iff.1 hh).1
  rw [g.block _ hlt (by simp)]
  exact h1
theorem fcAt_none (w : World) : @FcAt noFC w := ⟨trivial, fun i j x hx => by cases hx⟩
structure Re (w0 : World) (F : List RF) (B : Pl) (K : Nat → Option Bx) (S : Nat → Prop) (w : World) : Prop where
  bx : ∀ i k, K i = some k → S i ∧ bdK S k ∧ ∃ rest, rowOk (B i).2 k rest ∧ w.heap[(B i).1]? = some (objOf B k rest)
  nd : ∀ i j ki kj, K i = some ki → K j = some kj → (B i).1 = (B j).1 → i = j
  lo : ∀ i k, K i = some k → w0.heap.size ≤ (B i).1
  fs : ∀ f ∈ F, f.P w ∧ ∀ i k, K i = some k → ¬f.bl (B i).1
  gr : w0.grownBy w none ∧ FcAt w0
structure Ra (B : Pl) (T : Nat → Option SV) (n : Nat) (S : Nat → Prop) (a : Act) : Prop where
  sz : a.tmps.size = n
  tm : ∀ t x, T t = some x → a.tmps[t]? = some (den B x) ∧ bd S x
section
variable {P : Program} {w0 : World} {F : List RF} {B : Pl} {K : Nat → Option Bx} {T : Nat → Option SV} {n nx : Nat} {S : Nat → Prop} {a : Act} {w : World}
theorem Re.lt (R : Re w0 F B K S w) {i : Nat} {k : Bx} (h : K i = some k) : (B i).1 < w.heap.size := by
  obtain ⟨_, _, rest, _, h2⟩ := R.bx i k h
  exact (Array.getElem?_eq_some_iff.1 h2).1
theorem gr_below {w0 w w' : World} (g : w0.grownBy w none) (hb : Below w.heap.size w w') : w0.grownBy w' none :=
  ⟨hb.os.trans g.os, hb.tape.trans g.tape, hb.output.trans g.output, Nat.le_trans g.size hb.size, fun k hk hne => (hb.block k (Nat.lt_of_lt_of_le hk g.size)).trans (g.block k hk hne)⟩
/-- The world grows; own variables stay. -/
theorem Re.below (R : Re w0 F B K S w) {w' : World} (hb : Below w.heap.size w w') : Re w0 F B K S w' := by
  refine ⟨fun i k h => ?_, R.nd, R.lo, fun f hf => ?_, gr_below R.gr.1 hb, R.gr.2⟩
  · obtain ⟨h1, h2, rest, h4, h3⟩ := R.bx i k h
    exact ⟨h1, h2, rest, h4, by rw [hb.block _ (R.lt h)]; exact h3⟩
  · obtain ⟨h1, h2⟩ := R.fs f hf
    exact ⟨f.st w w' h1 (fun b hb' => hb.block b (f.lt w h1 b hb')), h2⟩
theorem Ra.ag {B' : Pl} {S' : Nat → Prop} (A : Ra B T n S a) (h : ∀ i, S i → B' i = B i) (hn : ∀ j, S j → S' j) : Ra B' T n S' a :=
  ⟨A.sz, fun t x hx => by
    obtain ⟨h1, h2⟩ := A.tm t x hx
    exact ⟨by rw [den_ag h h2]; exact h1, bd_mono hn h2⟩⟩
def setF {α : Type} (T : Nat → Option α) (d : Nat) (x : Option α) : Nat → Option α := fun t => if t = d then x else T t
theorem Ra.put {d : Nat} {x : SV} (A : Ra B T n S a) (hd : d < n) (hx : bd S x) : Ra B (setF T d (some x)) n S (a.put (some d) (den B x)) := by
  refine ⟨by simp [Act.put, A.sz], fun t y h => ?_⟩
  unfold setF at h
  by_cases e : t = d
  · subst e; simp at h; subst h
    exact ⟨by simp [Act.put, A.sz, hd], hx⟩
  · rw [if_neg e] at h
    obtain ⟨h1, h2⟩ := A.tm t y h
    exact ⟨by simp only [Act.put]; rw [Array.getElem?_setIfInBounds_ne (by omega)]; exact h1, h2⟩
def setPl (B : Pl) (n : Nat) (x : Nat × Nat) : Pl := fun i => if i = n then x else B i
/-- A new own variable. -/
theorem Re.new (R : Re w0 F B K S w) (k : Bx) (rest : List Value) (c : Nat) (hk : bdK S k) (hr : rowOk c k rest) (hS : ∀ j, S j → j < nx) :
    Re w0 F (setPl B nx (w.heap.size, c)) (setF K nx (some k)) (ext S nx (nx + 1)) (w.alloc (objOf B k rest)) ∧ Ag nx (nx + 1) B (setPl B nx (w.heap.size, c)) := by
  have hag' : Ag nx (nx + 1) B (setPl B nx (w.heap.size, c)) := fun i hi => by unfold setPl; rw [if_neg (by omega)]
  have hag : ∀ i, S i → setPl B nx (w.heap.size, c) i = B i := hag'.on hS
  have R' := R.below ((Below.refl w.heap.size w).alloc (Nat.le_refl _) (objOf B k rest))
  have hold : ∀ i k', K i = some k' → S i := fun i k' h => (R.bx i k' h).1
  refine ⟨⟨fun i k' h => ?_, fun i j ki kj hi hj he => ?_, fun i k' h => ?_, fun f hf => ?_, R'.gr⟩, hag'⟩
  · unfold setF at h
    by_cases e : i = nx
    · subst e; simp at h; subst h
      refine ⟨Or.inr ⟨Nat.le_refl _, by omega⟩, bdK_mono ext_sub hk, rest, by simpa [setPl] using hr, ?_⟩
      rw [objOf_ag hag hk]
      simp only [setPl, if_true]
      exact heap_alloc_new w _
    · rw [if_neg e] at h
      obtain ⟨h1, h2, rest', h4, h3⟩ := R'.bx i k' h
      refine ⟨Or.inl h1, bdK_mono ext_sub h2, rest', by rw [hag i h1]; exact h4, ?_⟩
      rw [objOf_ag hag h2, hag i h1]; exact h3
  · unfold setF at hi hj
    by_cases e1 : i = nx <;> by_cases e2 : j = nx
    · omega
    · rw [if_neg e2] at hj
      subst e1
      rw [hag j (hold _ _ hj)] at he
      simp only [setPl, if_true] at he
      have := R.lt hj
      omega
    · rw [if_neg e1] at hi
      subst e2
      rw [hag i (hold _ _ hi)] at he
      simp only [setPl, if_true] at he
      have := R.lt hi
      omega
    · rw [if_neg e1] at hi; rw [if_neg e2] at hj
      rw [hag i (hold _ _ hi), hag j (hold _ _ hj)] at he
      exact R.nd i j _ _ hi hj he
  · unfold setF at h
    by_cases e : i = nx
    · subst e; simp only [setPl, if_true]; exact R.gr.1.size
    · rw [if_neg e] at h
      rw [hag i (hold _ _ h)]; exact R.lo i k' h
  · obtain ⟨h1, h2⟩ := R'.fs f hf
    refine ⟨h1, fun i k' h => ?_⟩
    unfold setF at h
    by_cases e : i = nx
    · subst e; simp only [setPl, if_true]
      intro hb
      have := f.lt w (R.fs f hf).1 _ hb
      omega
    · rw [if_neg e] at h
      rw [hag i (hold _ _ h)]; exact h2 i k' h
end
end Go.Proofs.Ytnlcjlhcghgaoaa.EX
