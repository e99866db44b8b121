
/-
  Rows of integers that are an argument's own or the call's own, and variables of other types beside them.
-/
import Derived.Test.YtaclnaedinfhmaaRows
import Derived.Test.YtaclnaedinfhmaaBase
import Derived.Test.YtaclnaedinfhmaaAux
namespace Go.Proofs.Ytaclnaedinfhmaa
open Go.ChangeShapes Go.WideShapes Go.ChangeAt Go.RowKit
set_option linter.unusedVariables false

/-- The block b holds cells of the type T. -/
def Tag (w : World) (b : Nat) (T : TypeId) : Prop := ∃ cs k, w.heap[b]? = some (.cells cs T k)
theorem tag_lt {w : World} {b : Nat} {T : TypeId} (h : Tag w b T) : b < w.heap.size := by
  obtain ⟨cs, k, h⟩ := h
  rcases Nat.lt_or_ge b w.heap.size with hb | hb
  · exact hb
  · rw [Array.getElem?_eq_none hb] at h; cases h
theorem tag_new (w : World) (cs : Array Value) (T : TypeId) : Tag (w.alloc (.cells cs T)) w.heap.size T := ⟨cs, (0, 0), heap_alloc_new w _⟩
theorem tag_below {w w' : World} {b : Nat} {T : TypeId} (h : Tag w b T) (hb : Below w.heap.size w w') : Tag w' b T := by
  obtain ⟨cs, k, h'⟩ := h
  exact ⟨cs, k, (hb.block b (tag_lt ⟨cs, k, h'⟩)).trans h'⟩
theorem tag_set {w : World} {b : Nat} {T : TypeId} (h : Tag w b T) (p : Addr) (v : Value) : Tag (w.setCell p v) b T := by
  obtain ⟨cs, k, h⟩ := h
  by_cases hp : b = p.block
  · subst hp
    refine ⟨if p.spot.isSome then cs else cs.setIfInBounds p.off v, k, ?_⟩
    simp only [World.setCell, Array.getElem?_modify]
    simp [h]
  · exact ⟨cs, k, by rw [Below.heap_setCell _ _ _ _ hp]; exact h⟩
theorem tag_grown {w w' : World} {b : Nat} {T : TypeId} {r : Option Nat} (h : Tag w b T) (hg : w.grownBy w' r) (hne : r ≠ some b) : Tag w' b T := by
  obtain ⟨cs, k, h'⟩ := h
  exact ⟨cs, k, (hg.block b (tag_lt ⟨cs, k, h'⟩) (fun hc => hne hc.symm)).trans h'⟩
theorem owns_tag {w : World} {B e size n b : Nat} {v : Value} {xs : List Value} {T : TypeId} (h : w.ownsRow B e size v n xs) (ht : Tag w b T) (hne : T ≠ e) : v.ownBlock ≠ some b := by
  obtain ⟨_, ⟨rfl, _⟩ | ⟨g, cap, cur, rfl, _, hh, _⟩⟩ := h
  · simp [Value.ownBlock]
  · intro hc
    simp [Value.ownBlock] at hc
    subst hc
    obtain ⟨cs, k, ht⟩ := ht
    rw [ht] at hh
    simp at hh
    exact hne hh.2.1

theorem hasInts_inj {w : World} {v : Value} {zs ys : List Int} (h : HasInts w v zs) (k : HasInts w v ys) : zs = ys := by
  obtain ⟨a, c, rfl, _, h⟩ := h
  obtain ⟨a', c', he, _, k⟩ := k
  simp only [Value.slice.injEq] at he
  obtain ⟨rfl, hl, rfl⟩ := he
  apply List.ext_getElem hl
  intro j h1 h2
  rcases h with h | ⟨b, o, rfl, h⟩
  · omega
  rcases k with k | ⟨b', o', he, k⟩
  · omega
  simp at he
  obtain ⟨rfl, rfl⟩ := he
  have e1 := h j h1
  have e2 := k j h2
  rw [e1] at e2
  simpa [List.getD, h1, h2] using e2

/-- The row u with the integers Z is the row that came in, or one of the call's own. -/
def RowOk (w0 : World) (B : Nat) (orig : Value) (w : World) (u : Value) (Z : List Int) : Prop := HasInts w u Z ∧ (u = orig ∨ w.ownsRow B 3 1 u Z.length (Z.map (Value.int .i64)))
theorem rowOk_keep {w0 w w' : World} {B : Nat} {orig u : Value} {Z : List Int} (h : RowOk w0 B orig w u Z) (hb : Below w.heap.size w w') : RowOk w0 B orig w' u Z :=
  ⟨hasInts_keep h.1 hb, h.2.imp id fun h => owns_below h hb⟩
theorem rowOk_has {w0 w : World} {B : Nat} {orig u : Value} {Z : List Int} (h : RowOk w0 B orig w u Z) : HasInts w u Z := h.1
theorem rowOk_own {w0 w : World} {B : Nat} {orig u : Value} {Z : List Int} (h : w.ownsRow B 3 1 u Z.length (Z.map (Value.int .i64))) : RowOk w0 B orig w u Z := ⟨hasInts_of_owns h, Or.inr h⟩
/-- Cells of the row that came in lie below. -/
theorem orig_cells {w0 w w' : World} {orig : Value} {zs Z : List Int} (h0 : HasInts w0 orig zs) (h : HasInts w orig Z) (hc : ∀ b o x, b < w0.heap.size → w.cell? ⟨b, o, none⟩ = some x → w'.cell? ⟨b, o, none⟩ = some x) : HasInts w' orig Z := by
  obtain ⟨a, c, rfl, hl, h⟩ := h
  obtain ⟨a', c', he, _, k⟩ := h0
  simp only [Value.slice.injEq] at he
  obtain ⟨rfl, hlz, rfl⟩ := he
  refine ⟨a, c, rfl, hl, ?_⟩
  rcases h with h | ⟨b, o, rfl, h⟩
  · exact Or.inl h
  · refine Or.inr ⟨b, o, rfl, fun j hj => ?_⟩
    rcases k with k | ⟨b', o', he, k⟩
    · omega
    · simp at he
      obtain ⟨rfl, rfl⟩ := he
      exact hc _ _ _ (World.block_lt_of_cell? w0 _ (k 0 (by omega))) (h j hj)
theorem rowOk_set {w0 w : World} {B b o : Nat} {orig u x : Value} {zs Z : List Int} {T : TypeId} (h0 : HasInts w0 orig zs) (h : RowOk w0 B orig w u Z) (ht : Tag w b T) (hne : T ≠ 3) (hb : w0.heap.size ≤ b) : RowOk w0 B orig (w.setCell ⟨b, o, none⟩ x) u Z := by
  obtain ⟨h1, rfl | h2⟩ := h
  · exact ⟨orig_cells h0 h1 (fun b' o' y hb' hy => keepA_ hy (Or.inl (by omega))), Or.inl rfl⟩
  · exact rowOk_own (owns_setCell_other h2 (owns_tag h2 ht hne) _)
theorem rowOk_grown {w0 w w' : World} {B B' e size n : Nat} {orig u v : Value} {zs Z : List Int} {xs : List Value} (h0 : HasInts w0 orig zs) (h : RowOk w0 B orig w u Z) (hv : w.ownsRow B' e size v n xs) (hne : 3 ≠ e) (hB : w0.heap.size ≤ B') (hg : w.grownBy w' v.ownBlock) : RowOk w0 B orig w' u Z := by
  obtain ⟨h1, rfl | h2⟩ := h
  · exact ⟨orig_cells h0 h1 (fun b' o' y hb' hy => gb_cell hg hy (fun j hj hc => by have := (hv.lt j hj).1; omega)), Or.inl rfl⟩
  · exact rowOk_own (h2.kept hg (owns_apart (owns_mono h2 (Nat.zero_le _)) (owns_mono hv (Nat.zero_le _)) hne))
theorem rowOk_from {w0 w' : World} {B B' : Nat} {orig v u : Value} {Z Z' : List Int} (h : RowOk w0 B orig w' v Z) (hu : HasInts w' u Z') (hF : u = v ∨ w'.ownsRow B' 3 1 u Z'.length (Z'.map (Value.int .i64))) (hB : B ≤ B') : RowOk w0 B orig w' u Z' := by
  rcases hF with rfl | hF
  · have := hasInts_inj h.1 hu
    subst this
    exact h
  · exact rowOk_own (owns_mono hF hB)

end Go.Proofs.Ytaclnaedinfhmaa
