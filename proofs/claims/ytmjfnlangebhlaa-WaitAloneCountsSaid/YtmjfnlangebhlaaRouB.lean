
/-
  Layer 21: the iterator over the threads in a mask: its contract.
-/
import Derived.RangeFuncBox
import Derived.RangeFuncNested
import Derived.RangeFuncLeaves
import Derived.Shelf.Abstract
import Derived.WalkKit
import Derived.OwnWalkIn
import Derived.TacticsInMore
import Derived.LoopNIn
import Derived.LoopIn
import Derived.Maps.AppendAt
import Derived.Test.YtmjfnlangebhlaaRouA
namespace Go.Proofs.Ytmjfnlangebhlaa
set_option linter.unusedVariables false
open Go.ChangeShapes Go.WideShapes Go.ChangeAt Go.RowKit Go.Shelf
attribute [local go_sem] Oper.semAt_some

/-- The block of the slice that a variable holds. -/
def ownB (A : Nat) (W : World) : Option Nat := match W.cell? ⟨A, 0, none⟩ with
  | some (.slice (some a) _ _) => some a.block
  | _ => none
/-- What a round keeps: all cells but those of the variable A, and of what lies from the row that it holds on. -/
structure KpR (A : Nat) (W W' : World) : Prop where
  sz : W.heap.size ≤ W'.heap.size
  bl : ∀ k c t f, W.heap[k]? = some (.cells c t f) → k ≠ A → (∀ o, ownB A W = some o → k < o) → W'.heap[k]? = W.heap[k]?
  ow : ∀ o', ownB A W' = some o' → (∃ o, ownB A W = some o ∧ o ≤ o') ∨ W.heap.size ≤ o'
theorem heap_lt {W : World} {k : Nat} {o : Obj} (h : W.heap[k]? = some o) : k < W.heap.size := (Array.getElem?_eq_some_iff.1 h).1
theorem KpR.trans {A : Nat} {X Y Z : World} (h : KpR A X Y) (g : KpR A Y Z) : KpR A X Z := by
  refine ⟨Nat.le_trans h.sz g.sz, fun k c t f hk hA ho => ?_, fun o' ho' => ?_⟩
  · have h1 := h.bl k c t f hk hA ho
    refine (g.bl k c t f (h1.trans hk) hA fun o e => ?_).trans h1
    rcases h.ow o e with ⟨p, hp, hle⟩ | hle
    · have := ho p hp
      omega
    · have := heap_lt hk
      omega
  · rcases g.ow o' ho' with ⟨p, hp, hle⟩ | hle
    · rcases h.ow p hp with ⟨q, hq, hle2⟩ | hle2
      · exact Or.inl ⟨q, hq, by omega⟩
      · exact Or.inr (by omega)
    · have := h.sz
      exact Or.inr (by omega)
theorem ownB_block {A : Nat} {W W' : World} (h : W'.heap[A]? = W.heap[A]?) : ownB A W' = ownB A W := by
  unfold ownB; rw [World.cell?_of_block (a := ⟨A, 0, none⟩) h]
theorem KpR.of_grown {A : Nat} {W W' : World} (hA : A < W.heap.size) (h : W.grownBy W' none) : KpR A W W' :=
  ⟨h.size, fun k c t f hk _ _ => h.block k (heap_lt hk) (by simp), fun o' ho' => Or.inl ⟨o', by rw [← ownB_block (h.block A hA (by simp))]; exact ho', Nat.le_refl _⟩⟩
theorem KpR.refl (A : Nat) (W : World) : KpR A W W := ⟨Nat.le_refl _, fun _ _ _ _ _ _ _ => rfl, fun o' ho' => Or.inl ⟨o', ho', Nat.le_refl _⟩⟩
theorem KpR.putObj {A : Nat} {n0 : Nat} (hA : A < n0) (W : World) (l : Nat) (o o' : Obj) (hl : n0 ≤ l) (h : W.heap[l]? = some o) (ho : o.isCells = false) : KpR A W (W.putObj l o') := by
  have hne : ∀ k, k ≠ l → (W.putObj l o').heap[k]? = W.heap[k]? := fun k hk => World.putObj_heap_other (fun e => hk e)
  refine ⟨(grownBy_putObj' W l o').size, fun k c t f hk _ _ => hne k (fun e => ?_), fun o' ho' => Or.inl ⟨o', by rw [← ownB_block (hne A (by omega))]; exact ho', Nat.le_refl _⟩⟩
  subst e
  rw [h] at hk
  cases hk
  cases ho
theorem grown_of_below {W W' : World} (h : Below W.heap.size W W') : W.grownBy W' none := ⟨h.os, h.tape, h.output, h.size, fun k hk _ => h.block k hk⟩
/-- The threads that are there. -/
def there (L : Ly) (t : Int) : Bool := decide (0 ≤ atWake L t)
def zsN (m : Int) (k : Nat) : List Int := (bitsL m 62).take k
def fsN (L : Ly) (m : Int) (k : Nat) : List Int := (zsN m k).filter (there L)
theorem fsN_hit {L : Ly} {m : Int} {k : Nat} {t : Int} (h : (bitsL m 62)[k]? = some t) (ht : there L t = true) : fsN L m (k + 1) = fsN L m k ++ [t] := by
  have hk := (List.getElem?_eq_some_iff.1 h).1
  unfold fsN zsN
  rw [List.take_add_one, h]
  simp [ht]
theorem fsN_miss {L : Ly} {m : Int} {k : Nat} {t : Int} (h : (bitsL m 62)[k]? = some t) (ht : there L t = false) : fsN L m (k + 1) = fsN L m k := by
  unfold fsN zsN
  rw [List.take_add_one, h]
  simp [ht]
theorem fsN_len (L : Ly) (m : Int) (k : Nat) : (fsN L m k).length ≤ k := by
  unfold fsN zsN
  refine Nat.le_trans (List.length_filter_le _ _) ?_
  rw [List.length_take]; omega
def lyCells (L : Ly) : Array Value := #[.int .i64 L.c.t, .int .i64 L.c.l, .int .i64 L.c.k, .int .i64 L.c.s, .int .i64 L.c.m, .int .i64 L.clock, .int .i64 L.stamps, .int .i64 L.log, .int .i64 L.fin, .int .i64 L.thread, .int .i64 L.lock, .int .i64 L.loc, .int .i64 L.size]
/-- A layout lies in a variable. -/
def LyAt (W : World) (Bl : Nat) (L : Ly) : Prop := W.heap[Bl]? = some (.cells (lyCells L) 41 (0, 0))
theorem LyAt.cells {W : World} {Bl : Nat} {L : Ly} (h : LyAt W Bl L) (i : Nat) (v : Value) (hv : (lyCells L)[i]? = some v) : W.cell? ⟨Bl, i, none⟩ = some v := by
  simp [World.cell?, show W.heap[Bl]? = _ from h, hv]
theorem LyAt.kept {A : Nat} {W W' : World} {Bl : Nat} {L : Ly} (h : LyAt W Bl L) (hk : KpR A W W') (hA : Bl ≠ A) (ho : ∀ o, ownB A W = some o → Bl < o) : LyAt W' Bl L :=
  (hk.bl _ _ _ _ h hA ho).trans h
end Go.Proofs.Ytmjfnlangebhlaa
