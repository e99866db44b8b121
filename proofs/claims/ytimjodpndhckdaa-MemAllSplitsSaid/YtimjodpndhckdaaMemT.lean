
/-
  Layer 2: small facts for the statements' own walks.
-/
import Derived.Test.YtimjodpndhckdaaRows
import Derived.Test.YtimjodpndhckdaaBase
import Derived.Test.YtimjodpndhckdaaMemA
import Derived.Test.YtimjodpndhckdaaMemB
import Derived.Test.YtimjodpndhckdaaMemE
import Derived.Test.YtimjodpndhckdaaMemF
import Derived.Test.YtimjodpndhckdaaMemO
namespace Go.Proofs.Ytimjodpndhckdaa
open Go.ChangeShapes Go.WideShapes Go.ChangeAt Go.RowKit
set_option maxRecDepth 100000

theorem open_intsArg {H : Type} {enc : TypeId × Value → H} {W : World} {r : Reach} {b0 : Nat} {v : Value} {d : DataW H} {p : List MemPlace} (hv : Value.okWide Try.prog W r b0 22 v) (h : DataW.Trod enc Try.prog W 0 (fun _ => true) true 22 v d p) :
    ∃ zs, HasInts W v zs := by
  obtain ⟨a0, len0, cap0, rfl⟩ := okWide_slice Try.underlying22 hv
  obtain ⟨fuel, hf⟩ := h
  exact open_has (by simpa [Value.cells] using hf)

/-- A store into a cell that holds no integer keeps a row of integers. -/
theorem hasInts_set {w : World} {v u : Value} {zs : List Int} {a : Option Addr} {l c : Nat} {b o : Nat} (h : HasInts w v zs) (hbox : w.cell? ⟨b, o, none⟩ = some (.slice a l c)) : HasInts (w.setCell ⟨b, o, none⟩ u) v zs := by
  obtain ⟨a', cap, rfl, hl, h⟩ := h
  refine ⟨a', cap, rfl, hl, ?_⟩
  rcases h with h | ⟨b', o', rfl, h⟩
  · exact Or.inl h
  · refine Or.inr ⟨b', o', rfl, fun j hj => ?_⟩
    have hc := h j hj
    have hne : (⟨b', o' + j, none⟩ : Addr) ≠ ⟨b, o, none⟩ := by
      intro he
      rw [he, hbox] at hc
      simp at hc
    rw [World.cell?_setCell_other _ _ _ _ (Ne.symm hne)]
    exact hc

/-- A sum that wraps. -/
def sumK (n : Int) (l : List Int) : Int := l.foldl (fun s x => wrap64 (s + x)) n
theorem sumK_snoc (n : Int) (l : List Int) (x : Int) : sumK n (l ++ [x]) = wrap64 (sumK n l + x) := by simp [sumK]

theorem hasInts_lit {w : World} {zs : List Int} (hl : zs.length ≤ 1000) : HasInts (w.alloc (.cells (zs.map (Value.int .i64)).toArray 3)) (.slice (some ⟨w.heap.size, 0, none⟩) zs.length zs.length) zs := by
  refine ⟨_, _, rfl, by omega, Or.inr ⟨_, _, rfl, fun j hj => ?_⟩⟩
  rw [World.cell?_alloc_at _ _ _ _ rfl]
  simp [List.getD, List.getElem?_eq_getElem hj]

theorem cont {P G : Prop} (h : P) (k : P → G) : G := k h

/-! What a call that only makes memory leaves of the two variables that its statement lays, in whatever order they were laid. -/
theorem ctx0 (W V w' : World) (hV : V = W.drew) (hb : Below V.heap.size V w') : Hid (Below W.heap.size W w') ∧ W.heap.size ≤ w'.heap.size ∧ (∀ b o x, W.cell? ⟨b, o, none⟩ = some x → w'.cell? ⟨b, o, none⟩ = some x) := by
  subst hV
  exact ⟨((Below.refl _ _).drew).trans hb, hb.size, fun b o x h => cell_below hb h⟩
theorem ctx1a (W V w' : World) (hV : V = (W.alloc (.cells #[.slice none 0 0] 24)).drew) (hb : Below V.heap.size V w') : Hid (Below W.heap.size W w') ∧ W.heap.size < w'.heap.size ∧ (∀ b o x, W.cell? ⟨b, o, none⟩ = some x → w'.cell? ⟨b, o, none⟩ = some x) ∧
    w'.cell? ⟨W.heap.size, 0, none⟩ = some (.slice none 0 0) ∧ w'.frozen? ⟨W.heap.size, 0, none⟩ = false := by
  subst hV
  obtain ⟨hc, hf⟩ := bcell hb
  have hs := hb.size
  simp at hs
  refine ⟨(((Below.refl _ _).alloc (Nat.le_refl _) _).drew).trans (hb.mono (by simp)), by omega, fun b o x h => cell_below hb (cell_alloc _ h), ?_, ?_⟩
  · rw [hc _ _ (by simp)]; simp [World.cell?_alloc_at]
  · rw [hf _ _ (by simp)]; simp [World.frozen?_alloc_at]
theorem ctx1b (W V w' : World) (hV : V = (W.alloc (.cells #[.int .i64 0, .bool false] 36)).drew) (hb : Below V.heap.size V w') : Hid (Below W.heap.size W w') ∧ W.heap.size < w'.heap.size ∧ (∀ b o x, W.cell? ⟨b, o, none⟩ = some x → w'.cell? ⟨b, o, none⟩ = some x) ∧
    w'.cell? ⟨W.heap.size, 0, none⟩ = some (.int .i64 0) ∧ w'.cell? ⟨W.heap.size, 1, none⟩ = some (.bool false) ∧ w'.frozen? ⟨W.heap.size, 0, none⟩ = false ∧ w'.frozen? ⟨W.heap.size, 1, none⟩ = false := by
  subst hV
  obtain ⟨hc, hf⟩ := bcell hb
  have hs := hb.size
  simp at hs
  refine ⟨(((Below.refl _ _).alloc (Nat.le_refl _) _).drew).trans (hb.mono (by simp)), by omega, fun b o x h => cell_below hb (cell_alloc _ h), ?_, ?_, ?_, ?_⟩
  · rw [hc _ _ (by simp)]; simp [World.cell?_alloc_at]
  · rw [hc _ _ (by simp)]; simp [World.cell?_alloc_at]
  · rw [hf _ _ (by simp)]; simp [World.frozen?_alloc_at]
  · rw [hf _ _ (by simp)]; simp [World.frozen?_alloc_at]
theorem ctx2a (W V w' : World) (hV : V = ((W.alloc (.cells #[.slice none 0 0] 24)).alloc (.cells #[.int .i64 0, .bool false] 36)).drew) (hb : Below V.heap.size V w') : Hid (Below W.heap.size W w') ∧ W.heap.size + 1 < w'.heap.size ∧ (∀ b o x, W.cell? ⟨b, o, none⟩ = some x → w'.cell? ⟨b, o, none⟩ = some x) ∧
    w'.cell? ⟨W.heap.size, 0, none⟩ = some (.slice none 0 0) ∧ w'.frozen? ⟨W.heap.size, 0, none⟩ = false ∧
    w'.cell? ⟨W.heap.size + 1, 0, none⟩ = some (.int .i64 0) ∧ w'.cell? ⟨W.heap.size + 1, 1, none⟩ = some (.bool false) ∧ w'.frozen? ⟨W.heap.size + 1, 0, none⟩ = false ∧ w'.frozen? ⟨W.heap.size + 1, 1, none⟩ = false := by
  subst hV
  obtain ⟨hc, hf⟩ := bcell hb
  have hs := hb.size
  simp at hs
  refine ⟨((((Below.refl _ _).alloc (Nat.le_refl _) _).alloc (by simp) _).drew).trans (hb.mono (by simp; omega)), by omega, fun b o x h => cell_below hb (cell_alloc _ (cell_alloc _ h)), ?_, ?_, ?_, ?_, ?_, ?_⟩
  · rw [hc _ _ (by simp; omega)]; exact cell_alloc _ (by rw [World.cell?_alloc_at _ _ _ _ rfl]; rfl)
  · rw [hf _ _ (by simp; omega)]; exact frozen_alloc _ (by simp) (World.frozen?_alloc_at _ _ _ _ rfl)
  · rw [hc _ _ (by simp)]; simp [World.cell?_alloc_at]
  · rw [hc _ _ (by simp)]; simp [World.cell?_alloc_at]
  · rw [hf _ _ (by simp)]; simp [World.frozen?_alloc_at]
  · rw [hf _ _ (by simp)]; simp [World.frozen?_alloc_at]
theorem ctx2b (W V w' : World) (hV : V = ((W.alloc (.cells #[.int .i64 0, .bool false] 36)).alloc (.cells #[.slice none 0 0] 24)).drew) (hb : Below V.heap.size V w') : Hid (Below W.heap.size W w') ∧ W.heap.size + 1 < w'.heap.size ∧ (∀ b o x, W.cell? ⟨b, o, none⟩ = some x → w'.cell? ⟨b, o, none⟩ = some x) ∧
    w'.cell? ⟨W.heap.size, 0, none⟩ = some (.int .i64 0) ∧ w'.cell? ⟨W.heap.size, 1, none⟩ = some (.bool false) ∧ w'.frozen? ⟨W.heap.size, 0, none⟩ = false ∧ w'.frozen? ⟨W.heap.size, 1, none⟩ = false ∧
    w'.cell? ⟨W.heap.size + 1, 0, none⟩ = some (.slice none 0 0) ∧ w'.frozen? ⟨W.heap.size + 1, 0, none⟩ = false := by
  subst hV
  obtain ⟨hc, hf⟩ := bcell hb
  have hs := hb.size
  simp at hs
  refine ⟨((((Below.refl _ _).alloc (Nat.le_refl _) _).alloc (by simp) _).drew).trans (hb.mono (by simp; omega)), by omega, fun b o x h => cell_below hb (cell_alloc _ (cell_alloc _ h)), ?_, ?_, ?_, ?_, ?_, ?_⟩
  · rw [hc _ _ (by simp; omega)]; exact cell_alloc _ (by rw [World.cell?_alloc_at _ _ _ _ rfl]; rfl)
  · rw [hc _ _ (by simp; omega)]; exact cell_alloc _ (by rw [World.cell?_alloc_at _ _ _ _ rfl]; rfl)
  · rw [hf _ _ (by simp; omega)]; exact frozen_alloc _ (by simp) (World.frozen?_alloc_at _ _ _ _ rfl)
  · rw [hf _ _ (by simp; omega)]; exact frozen_alloc _ (by simp) (World.frozen?_alloc_at _ _ _ _ rfl)
  · rw [hc _ _ (by simp)]; simp [World.cell?_alloc_at]
  · rw [hf _ _ (by simp)]; simp [World.frozen?_alloc_at]

end Go.Proofs.Ytimjodpndhckdaa
