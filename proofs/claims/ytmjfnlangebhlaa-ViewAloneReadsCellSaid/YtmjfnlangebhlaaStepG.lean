
/-
  Layer 16's tool: a function's access and outcome in cells; Refuse; the form of what Next returns.
-/
import Derived.Test.YtmjfnlangebhlaaRows
import Derived.Test.YtmjfnlangebhlaaBase
import Derived.Test.YtmjfnlangebhlaaAux
import Derived.Test.YtmjfnlangebhlaaStepC
import Derived.Test.YtmjfnlangebhlaaStepD
import Derived.Test.YtmjfnlangebhlaaStepF
import Derived.WalkKit
import Derived.WalkLawsBesides
namespace Go.Proofs.Ytmjfnlangebhlaa
set_option linter.unusedVariables false
set_option linter.unusedSimpArgs false
set_option maxRecDepth 100000
open Go.ChangeShapes Go.WideShapes Go.ChangeAt Go.RowKit

/-- The cells of two results, an access and an outcome. -/
structure Res2 (w : World) (B : Nat) : Prop where
  a0 : w.cell? ⟨B, 0, none⟩ = some (.int .i64 0)
  a1 : w.cell? ⟨B, 1, none⟩ = some (.int .i64 0)
  a2 : w.cell? ⟨B, 2, none⟩ = some (.int .i64 0)
  a3 : w.cell? ⟨B, 3, none⟩ = some (.int .i64 0)
  a4 : w.cell? ⟨B, 4, none⟩ = some (.string ⟨#[]⟩)
  oz : OutZ w (B + 1)
  fa : ∀ o, w.frozen? ⟨B, o, none⟩ = false
theorem Res2.lt0 {w : World} {B : Nat} (h : Res2 w B) : B < w.heap.size := World.block_lt_of_cell? w _ h.a0
theorem Res2.lt1 {w : World} {B : Nat} (h : Res2 w B) : B + 1 < w.heap.size := h.oz.lt
theorem Res2.below {w w' : World} {B : Nat} (h : Res2 w B) (hb : Below w.heap.size w w') : Res2 w' B :=
  ⟨cel_below hb h.a0, cel_below hb h.a1, cel_below hb h.a2, cel_below hb h.a3, cel_below hb h.a4, h.oz.below hb, fun o => fro_below hb h.lt0 (h.fa o)⟩
theorem Res2.alloc {w : World} {B : Nat} (h : Res2 w B) (o : Obj) : Res2 (w.alloc o) B := h.below (below_new1 w o)
theorem Res2.set {w : World} {B b' o : Nat} (h : Res2 w B) (h0 : b' ≠ B) (h1 : b' ≠ B + 1) (u : Value) : Res2 (w.setCell ⟨b', o, none⟩ u) B :=
  ⟨keepA_ h.a0 (Or.inl h0), keepA_ h.a1 (Or.inl h0), keepA_ h.a2 (Or.inl h0), keepA_ h.a3 (Or.inl h0), keepA_ h.a4 (Or.inl h0), h.oz.set h1 u, fun o => (World.frozen?_setCell _ _ _ _).trans (h.fa o)⟩
theorem Res2.new (w : World) (T U : TypeId) (B : Nat) (hB : B = w.heap.size) : Res2 ((w.alloc (.cells #[.int .i64 0, .int .i64 0, .int .i64 0, .int .i64 0, .string ⟨#[]⟩] T)).alloc (.cells #[.int .i64 0, .int .i64 0, .int .i64 0, .int .i64 0, .bool false, .bool false, .int .i64 0] U)) B := by
  subst hB
  have hz := OutZ.new' (w.alloc (.cells #[.int .i64 0, .int .i64 0, .int .i64 0, .int .i64 0, .string ⟨#[]⟩] T)) U (w.heap.size + 1) (by simp)
  constructor
  · exact cell_alloc _ (by rw [World.cell?_alloc_at _ _ _ _ rfl]; rfl)
  · exact cell_alloc _ (by rw [World.cell?_alloc_at _ _ _ _ rfl]; rfl)
  · exact cell_alloc _ (by rw [World.cell?_alloc_at _ _ _ _ rfl]; rfl)
  · exact cell_alloc _ (by rw [World.cell?_alloc_at _ _ _ _ rfl]; rfl)
  · exact cell_alloc _ (by rw [World.cell?_alloc_at _ _ _ _ rfl]; rfl)
  · exact hz
  · exact fun o => frozen_alloc _ (by simp) (World.frozen?_alloc_at _ _ _ _ rfl)
theorem res2_at {w : World} {B : Nat} (h : Res2 w B) (v0 v1 v2 v3 v4 v5 v6 v7 v8 v9 v10 v11 : Value) : ∃ W, W = ((((((((((((w.setCell ⟨B, 0, none⟩ v0).setCell ⟨B, 1, none⟩ v1).setCell ⟨B, 2, none⟩ v2).setCell ⟨B, 3, none⟩ v3).setCell ⟨B, 4, none⟩ v4).setCell ⟨B + 1, 0, none⟩ v5).setCell ⟨B + 1, 1, none⟩ v6).setCell ⟨B + 1, 2, none⟩ v7).setCell ⟨B + 1, 3, none⟩ v8).setCell ⟨B + 1, 4, none⟩ v9).setCell ⟨B + 1, 5, none⟩ v10).setCell ⟨B + 1, 6, none⟩ v11) ∧ W.cell? ⟨B, 0, none⟩ = some v0 ∧ W.cell? ⟨B, 1, none⟩ = some v1 ∧ W.cell? ⟨B, 2, none⟩ = some v2 ∧ W.cell? ⟨B, 3, none⟩ = some v3 ∧ W.cell? ⟨B, 4, none⟩ = some v4 ∧ W.cell? ⟨B + 1, 0, none⟩ = some v5 ∧ W.cell? ⟨B + 1, 1, none⟩ = some v6 ∧ W.cell? ⟨B + 1, 2, none⟩ = some v7 ∧ W.cell? ⟨B + 1, 3, none⟩ = some v8 ∧ W.cell? ⟨B + 1, 4, none⟩ = some v9 ∧ W.cell? ⟨B + 1, 5, none⟩ = some v10 ∧ W.cell? ⟨B + 1, 6, none⟩ = some v11 := by
  refine ⟨_, rfl, ?_, ?_, ?_, ?_, ?_, ?_, ?_, ?_, ?_, ?_, ?_, ?_⟩
  · exact (keepA_ (keepA_ (keepA_ (keepA_ (keepA_ (keepA_ (keepA_ (keepA_ (keepA_ (keepA_ (keepA_ (World.cell?_setCell_same _ _ _ h.a0) (by omega)) (by omega)) (by omega)) (by omega)) (by omega)) (by omega)) (by omega)) (by omega)) (by omega)) (by omega)) (by omega))
  · exact (keepA_ (keepA_ (keepA_ (keepA_ (keepA_ (keepA_ (keepA_ (keepA_ (keepA_ (keepA_ (World.cell?_setCell_same _ _ _ (keepA_ h.a1 (by omega))) (by omega)) (by omega)) (by omega)) (by omega)) (by omega)) (by omega)) (by omega)) (by omega)) (by omega)) (by omega))
  · exact (keepA_ (keepA_ (keepA_ (keepA_ (keepA_ (keepA_ (keepA_ (keepA_ (keepA_ (World.cell?_setCell_same _ _ _ (keepA_ (keepA_ h.a2 (by omega)) (by omega))) (by omega)) (by omega)) (by omega)) (by omega)) (by omega)) (by omega)) (by omega)) (by omega)) (by omega))
  · exact (keepA_ (keepA_ (keepA_ (keepA_ (keepA_ (keepA_ (keepA_ (keepA_ (World.cell?_setCell_same _ _ _ (keepA_ (keepA_ (keepA_ h.a3 (by omega)) (by omega)) (by omega))) (by omega)) (by omega)) (by omega)) (by omega)) (by omega)) (by omega)) (by omega)) (by omega))
  · exact (keepA_ (keepA_ (keepA_ (keepA_ (keepA_ (keepA_ (keepA_ (World.cell?_setCell_same _ _ _ (keepA_ (keepA_ (keepA_ (keepA_ h.a4 (by omega)) (by omega)) (by omega)) (by omega))) (by omega)) (by omega)) (by omega)) (by omega)) (by omega)) (by omega)) (by omega))
  · exact (keepA_ (keepA_ (keepA_ (keepA_ (keepA_ (keepA_ (World.cell?_setCell_same _ _ _ (keepA_ (keepA_ (keepA_ (keepA_ (keepA_ h.oz.c0 (by omega)) (by omega)) (by omega)) (by omega)) (by omega))) (by omega)) (by omega)) (by omega)) (by omega)) (by omega)) (by omega))
  · exact (keepA_ (keepA_ (keepA_ (keepA_ (keepA_ (World.cell?_setCell_same _ _ _ (keepA_ (keepA_ (keepA_ (keepA_ (keepA_ (keepA_ h.oz.c1 (by omega)) (by omega)) (by omega)) (by omega)) (by omega)) (by omega))) (by omega)) (by omega)) (by omega)) (by omega)) (by omega))
  · exact (keepA_ (keepA_ (keepA_ (keepA_ (World.cell?_setCell_same _ _ _ (keepA_ (keepA_ (keepA_ (keepA_ (keepA_ (keepA_ (keepA_ h.oz.c2 (by omega)) (by omega)) (by omega)) (by omega)) (by omega)) (by omega)) (by omega))) (by omega)) (by omega)) (by omega)) (by omega))
  · exact (keepA_ (keepA_ (keepA_ (World.cell?_setCell_same _ _ _ (keepA_ (keepA_ (keepA_ (keepA_ (keepA_ (keepA_ (keepA_ (keepA_ h.oz.c3 (by omega)) (by omega)) (by omega)) (by omega)) (by omega)) (by omega)) (by omega)) (by omega))) (by omega)) (by omega)) (by omega))
  · exact (keepA_ (keepA_ (World.cell?_setCell_same _ _ _ (keepA_ (keepA_ (keepA_ (keepA_ (keepA_ (keepA_ (keepA_ (keepA_ (keepA_ h.oz.c4 (by omega)) (by omega)) (by omega)) (by omega)) (by omega)) (by omega)) (by omega)) (by omega)) (by omega))) (by omega)) (by omega))
  · exact (keepA_ (World.cell?_setCell_same _ _ _ (keepA_ (keepA_ (keepA_ (keepA_ (keepA_ (keepA_ (keepA_ (keepA_ (keepA_ (keepA_ h.oz.c5 (by omega)) (by omega)) (by omega)) (by omega)) (by omega)) (by omega)) (by omega)) (by omega)) (by omega)) (by omega))) (by omega))
  · exact (World.cell?_setCell_same _ _ _ (keepA_ (keepA_ (keepA_ (keepA_ (keepA_ (keepA_ (keepA_ (keepA_ (keepA_ (keepA_ (keepA_ h.oz.c6 (by omega)) (by omega)) (by omega)) (by omega)) (by omega)) (by omega)) (by omega)) (by omega)) (by omega)) (by omega)) (by omega)))
theorem res2_below {w w' : World} {B0 B : Nat} (h : Below B0 w w') (hB : B0 ≤ B) (v0 v1 v2 v3 v4 v5 v6 v7 v8 v9 v10 v11 : Value) : Below B0 w ((((((((((((w'.setCell ⟨B, 0, none⟩ v0).setCell ⟨B, 1, none⟩ v1).setCell ⟨B, 2, none⟩ v2).setCell ⟨B, 3, none⟩ v3).setCell ⟨B, 4, none⟩ v4).setCell ⟨B + 1, 0, none⟩ v5).setCell ⟨B + 1, 1, none⟩ v6).setCell ⟨B + 1, 2, none⟩ v7).setCell ⟨B + 1, 3, none⟩ v8).setCell ⟨B + 1, 4, none⟩ v9).setCell ⟨B + 1, 5, none⟩ v10).setCell ⟨B + 1, 6, none⟩ v11) :=
  (Below.setCell (p := ⟨B + 1, 6, none⟩) (Below.setCell (p := ⟨B + 1, 5, none⟩) (Below.setCell (p := ⟨B + 1, 4, none⟩) (Below.setCell (p := ⟨B + 1, 3, none⟩) (Below.setCell (p := ⟨B + 1, 2, none⟩) (Below.setCell (p := ⟨B + 1, 1, none⟩) (Below.setCell (p := ⟨B + 1, 0, none⟩) (Below.setCell (p := ⟨B, 4, none⟩) (Below.setCell (p := ⟨B, 3, none⟩) (Below.setCell (p := ⟨B, 2, none⟩) (Below.setCell (p := ⟨B, 1, none⟩) (Below.setCell (p := ⟨B, 0, none⟩) h (by dsimp only; omega) v0) (by dsimp only; omega) v1) (by dsimp only; omega) v2) (by dsimp only; omega) v3) (by dsimp only; omega) v4) (by dsimp only; omega) v5) (by dsimp only; omega) v6) (by dsimp only; omega) v7) (by dsimp only; omega) v8) (by dsimp only; omega) v9) (by dsimp only; omega) v10) (by dsimp only; omega) v11)

theorem nextV_form (x : Ask ⊕ OutD) : ∃ k p o n v0 v1 v2 v3 b4 b5 v6 d, nextV x = .tuple #[.agg #[.int .i64 k, .int .i64 p, .int .i64 o, .int .i64 n, .string ⟨#[]⟩], .agg #[.int .i64 v0, .int .i64 v1, .int .i64 v2, .int .i64 v3, .bool b4, .bool b5, .int .i64 v6], .bool d] := by
  cases x with
  | inl a => exact ⟨a.k, a.p, a.o, a.n, 0, 0, 0, 0, false, false, 0, false, rfl⟩
  | inr o => exact ⟨0, 0, 0, 0, o.val, o.ver, o.rv, o.st, o.ok, o.lost, o.err, true, rfl⟩

set_option maxHeartbeats 1000000 in
theorem refuse_any (n : Int) (w : World) : Calls Try.prog 40 #[.int .i64 n] w fun e w' => e = .returned (nextV (.inr { err := n })) ∧ Below w.heap.size w w' := by
  have HB : Below w.heap.size w w := Below.refl _ _
  have hS0 : w.heap.size ≤ w.heap.size := Nat.le_refl _
  go_enter Try.func40, Try.ntmps40
  go_wp2
  simp [bodyPost, results, Try.results40, go_sem, nextV, OutD.v, Ask.v, ask0, ByteArray.empty, ByteArray.emptyWithCapacity, World.cell?_alloc_at, World.cell?_alloc_past]
  exact ⟨rfl, below_alloc2 (Below.refl _ _)⟩

end Go.Proofs.Ytmjfnlangebhlaa
