
/-
  Small facts on worlds: what a call that only makes new memory leaves.
-/
import Derived.Test.YtfkmcibglaiakaaDoorRows
import Derived.Test.YtfkmcibglaiakaaDoorBase
namespace Go.Proofs.YtfkmcibglaiakaaDoor
open Go.ChangeShapes Go.WideShapes Go.ChangeAt Go.RowKit

theorem cel_below {W w1 : World} {b o : Nat} {v : Value} (hb : Below W.heap.size W w1) (h : W.cell? ⟨b, o, none⟩ = some v) : w1.cell? ⟨b, o, none⟩ = some v :=
  (hb.cell (p := ⟨b, o, none⟩) (World.block_lt_of_cell? W ⟨b, o, none⟩ h)).trans h
theorem fro_below {W w1 : World} {b o : Nat} {r : Bool} (hb : Below W.heap.size W w1) (hl : b < W.heap.size) (h : W.frozen? ⟨b, o, none⟩ = r) : w1.frozen? ⟨b, o, none⟩ = r :=
  (hb.frozen (p := ⟨b, o, none⟩) hl).trans h
theorem below_new1 (w : World) (o : Obj) : Below w.heap.size w (w.alloc o) := (Below.refl _ _).alloc (Nat.le_refl _) _
theorem below_alloc1 {w w' : World} {o : Obj} (h : Below (w.alloc o).heap.size (w.alloc o) w') : Below w.heap.size w w' :=
  (below_new1 w o).trans (h.mono (by simp))
theorem below_alloc2 {w w' : World} {o o2 : Obj} (h : Below ((w.alloc o).alloc o2).heap.size ((w.alloc o).alloc o2) w') : Below w.heap.size w w' := below_alloc1 (below_alloc1 h)
theorem below_alloc3 {w w' : World} {o o2 o3 : Obj} (h : Below (((w.alloc o).alloc o2).alloc o3).heap.size (((w.alloc o).alloc o2).alloc o3) w') : Below w.heap.size w w' := below_alloc1 (below_alloc2 h)
theorem below_step {a b c : World} (h : Below a.heap.size a b) (k : Below b.heap.size b c) : Below a.heap.size a c := h.trans (k.mono h.size)
theorem below_drews {a b : World} (h : Below a.heap.size a b) (n : Nat) : Below a.heap.size a (b.drewN n) := below_drewN h n
theorem lt_below {W w1 : World} {b : Nat} (hb : Below W.heap.size W w1) (h : b < W.heap.size) : b < w1.heap.size := Nat.lt_of_lt_of_le h hb.size
theorem owns_below {w w' : World} {B e size n : Nat} {v : Value} {xs : List Value} (h : w.ownsRow B e size v n xs) (hb : Below w.heap.size w w') : w'.ownsRow B e size v n xs := by
  refine ⟨h.1, ?_⟩
  rcases h.2 with hn | ⟨g, cap, cur, rfl, hg, hgg, rest⟩
  · exact .inl hn
  · refine .inr ⟨g, cap, cur, rfl, hg, ?_, rest⟩
    rw [hb.block g (by rcases Nat.lt_or_ge g w.heap.size with h | h; exact h; rw [Array.getElem?_eq_none h] at hgg; cases hgg)]
    exact hgg
theorem owns_len {w : World} {B e size n : Nat} {v : Value} {xs : List Value} (h : w.ownsRow B e size v n xs) : ∃ a c, v = .slice a n c := owns_slice h

theorem gb_cell {w w1 : World} {r : Option Nat} (hg : w.grownBy w1 r) {b o : Nat} {x : Value} (h : w.cell? ⟨b, o, none⟩ = some x) (hne : ∀ j, r = some j → j = b → False) : w1.cell? ⟨b, o, none⟩ = some x :=
  (World.cell?_of_block (a := ⟨b, o, none⟩) (hg.block b (World.block_lt_of_cell? w ⟨b, o, none⟩ h) (fun hc => hne b (by simpa using hc.symm) rfl))).trans h

theorem keepA_ {w : World} {b o b' o' : Nat} {v u : Value} (h : w.cell? ⟨b', o', none⟩ = some u) (hne : b ≠ b' ∨ o ≠ o') : (w.setCell ⟨b, o, none⟩ v).cell? ⟨b', o', none⟩ = some u := by
  rw [World.cell?_setCell_other _ _ _ _ (fun he => by simp at he; omega)]; exact h

theorem gb_below {w w1 : World} (h : w.grownBy w1 none) : Below w.heap.size w w1 := ⟨h.os, h.tape, h.output, h.size, fun k hk => h.block k hk (by simp)⟩

/-- A store into a cell that holds a slice keeps a row of integers. -/
theorem hasInts_setS {w : World} {v u : Value} {zs : List Int} {a : Option Addr} {l c : Nat} {b o : Nat} (h : HasInts w v zs) (hbox : w.cell? ⟨b, o, none⟩ = some (.slice a l c)) : HasInts (w.setCell ⟨b, o, none⟩ u) v zs := by
  obtain ⟨a', cap, rfl, hl, h⟩ := h
  refine ⟨a', cap, rfl, hl, ?_⟩
  rcases h with h | ⟨b', o', rfl, h⟩
  · exact Or.inl h
  · refine Or.inr ⟨b', o', rfl, fun j hj => ?_⟩
    have hc := h j hj
    have hne : (⟨b', o' + j, none⟩ : Addr) ≠ ⟨b, o, none⟩ := by
      intro he
      rw [he, hbox] at hc
      simp at hc
    rw [World.cell?_setCell_other _ _ _ _ (Ne.symm hne)]
    exact hc
theorem hasInts_newA {w : World} {cs : Array Value} {T : TypeId} {n g : Nat} (l : List Int) (hcs : cs = (l.map (Value.int .i64)).toArray) (hn : n = l.length) (hl : l.length ≤ 1000) (hg : g = w.heap.size) : HasInts (w.alloc (.cells cs T)) (.slice (some ⟨g, 0, none⟩) n n) l := by
  subst hcs; subst hn; subst hg
  refine ⟨_, _, rfl, by omega, Or.inr ⟨_, _, rfl, fun j hj => ?_⟩⟩
  rw [World.cell?_alloc_at _ _ _ _ rfl]
  simp [List.getD, List.getElem?_eq_getElem hj]

/-- The cells of a block, from its first on. -/
def CellsAt (w : World) (b : Nat) (l : List Value) : Prop := ∀ j v, l[j]? = some v → w.cell? ⟨b, j, none⟩ = some v
theorem cellsAt_keep {w w' : World} {b : Nat} {l : List Value} (h : CellsAt w b l) (hb : Below w.heap.size w w') : CellsAt w' b l := fun j v hj => cel_below hb (h j v hj)
theorem cellsAt_alloc {w : World} {b : Nat} {l : List Value} (h : CellsAt w b l) (o : Obj) : CellsAt (w.alloc o) b l := cellsAt_keep h (below_new1 w o)
theorem cellsAt_new (w : World) (cs : Array Value) (T : TypeId) : CellsAt (w.alloc (.cells cs T)) w.heap.size cs.toList := fun j v hj => by
  rw [World.cell?_alloc_at _ _ _ _ rfl]; simpa using hj

end Go.Proofs.YtfkmcibglaiakaaDoor
