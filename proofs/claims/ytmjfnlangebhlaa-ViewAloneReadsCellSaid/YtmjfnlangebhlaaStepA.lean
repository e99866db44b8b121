
/-
  Layer 16's tool: an access by a run of an operation: its first result where the log has one, else a panic with the access.
-/
import Derived.Test.YtmjfnlangebhlaaRows
import Derived.Test.YtmjfnlangebhlaaBase
import Derived.Test.YtmjfnlangebhlaaAux
import Derived.WalkKit
import Derived.WalkLawsBesides
namespace Go.Proofs.Ytmjfnlangebhlaa
set_option linter.unusedVariables false
set_option maxRecDepth 100000
open Go.ChangeShapes Go.WideShapes Go.ChangeAt Go.RowKit

/-- The log is used up: the access leaves as a panic; nothing is written. -/
theorem do_none (w : World) (g : Nat) (a : Option Addr) (c : Nat) (k p o n : Int) (s : ByteArray) (hg : w.cell? ⟨g, 0, none⟩ = some (.slice a 0 c)) :
    Calls Try.prog 123 #[.pointer (some ⟨g, 0, none⟩), .agg #[.int .i64 k, .int .i64 p, .int .i64 o, .int .i64 n, .string s]] w fun e w' =>
      e = .panicked [{ v := .iface 131 (.agg #[.int .i64 k, .int .i64 p, .int .i64 o, .int .i64 n, .string s]), recovered := false }] ∧ Below w.heap.size w w' := by
  have hg2 : ∀ o1 o2 : Obj, ((w.alloc o1).alloc o2).cell? ⟨g, 0, none⟩ = some (.slice a 0 c) := fun _ _ => cell_alloc _ (cell_alloc _ hg)
  go_enter Try.func123, Try.ntmps123
  go_wp2
  exact ⟨rfl, rfl, below_alloc2 (Below.refl _ _)⟩

/-- The log has a result: it is returned, and the log goes on behind it. -/
theorem do_some (w : World) (g b j L c : Nat) (v : Int) (y : Bool) (k p o n : Int) (s : ByteArray) (hg : w.cell? ⟨g, 0, none⟩ = some (.slice (some ⟨b, j, none⟩) (L + 1) c)) (hz : w.frozen? ⟨g, 0, none⟩ = false) (hc : L + 1 ≤ c) (hc2 : c ≤ 9223372036854775807) (h0 : w.cell? ⟨b, j, none⟩ = some (.int .i64 v)) (h1 : w.cell? ⟨b, j + 1, none⟩ = some (.bool y)) :
    Calls Try.prog 123 #[.pointer (some ⟨g, 0, none⟩), .agg #[.int .i64 k, .int .i64 p, .int .i64 o, .int .i64 n, .string s]] w fun e w' =>
      e = .returned (.agg #[.int .i64 v, .bool y]) ∧ ∃ a', w'.cell? ⟨g, 0, none⟩ = some (.slice (some a') L (c - 1)) ∧ (0 < L → a' = ⟨b, j + 2, none⟩) ∧ w'.frozen? ⟨g, 0, none⟩ = false ∧ w.grownBy w' (some g) := by
  have zg : g < w.heap.size := World.block_lt_of_cell? w _ hg
  have zb : b < w.heap.size := World.block_lt_of_cell? w _ h0
  have hg2 : ∀ o1 o2 : Obj, ((w.alloc o1).alloc o2).cell? ⟨g, 0, none⟩ = some (.slice (some ⟨b, j, none⟩) (L + 1) c) := fun _ _ => cell_alloc _ (cell_alloc _ hg)
  have hg3 : ∀ o1 o2 o3 : Obj, (((w.alloc o1).alloc o2).alloc o3).cell? ⟨g, 0, none⟩ = some (.slice (some ⟨b, j, none⟩) (L + 1) c) := fun _ _ _ => cell_alloc _ (hg2 _ _)
  have hz3 : ∀ o1 o2 o3 : Obj, (((w.alloc o1).alloc o2).alloc o3).frozen? ⟨g, 0, none⟩ = false := fun o1 o2 o3 => by rw [World.frozen?_alloc_old _ _ _ (by dsimp only; simp; omega), World.frozen?_alloc_old _ _ _ (by dsimp only; simp; omega), World.frozen?_alloc_old _ _ _ (by dsimp only; omega)]; exact hz
  have q1 : ((L : Int) + 1 = 0) = False := by simp; omega
  have q2 : decide ((L : Int) + 1 = 0) = false := by simp; omega
  go_enter Try.func123, Try.ntmps123
  go_wp2
  · simp [bodyPost, results, Try.results123, go_sem]
    exact ⟨⟨b, j, none⟩, World.cell?_setCell_same _ _ _ (hg3 _ _ _), fun h => by omega, hz3 _ _ _, gb_set (gb_set (gb_set (gb_alloc (gb_alloc (gb_alloc (gb_refl _ _) _) _) _) (by first | exact Or.inl rfl | exact Or.inr (Nat.le_refl _) | (refine Or.inr ?_; simp; done) | (refine Or.inr ?_; simp; omega) | (refine Or.inr ?_; dsimp only; omega)) _) (by first | exact Or.inl rfl | exact Or.inr (Nat.le_refl _) | (refine Or.inr ?_; simp; done) | (refine Or.inr ?_; simp; omega) | (refine Or.inr ?_; dsimp only; omega)) _) (by first | exact Or.inl rfl | exact Or.inr (Nat.le_refl _) | (refine Or.inr ?_; simp; done) | (refine Or.inr ?_; simp; omega) | (refine Or.inr ?_; dsimp only; omega)) _⟩
  · simp [bodyPost, results, Try.results123, go_sem]
    exact ⟨⟨b, j + 2, none⟩, World.cell?_setCell_same _ _ _ (hg3 _ _ _), fun h => rfl, hz3 _ _ _, gb_set (gb_set (gb_set (gb_alloc (gb_alloc (gb_alloc (gb_refl _ _) _) _) _) (by first | exact Or.inl rfl | exact Or.inr (Nat.le_refl _) | (refine Or.inr ?_; simp; done) | (refine Or.inr ?_; simp; omega) | (refine Or.inr ?_; dsimp only; omega)) _) (by first | exact Or.inl rfl | exact Or.inr (Nat.le_refl _) | (refine Or.inr ?_; simp; done) | (refine Or.inr ?_; simp; omega) | (refine Or.inr ?_; dsimp only; omega)) _) (by first | exact Or.inl rfl | exact Or.inr (Nat.le_refl _) | (refine Or.inr ?_; simp; done) | (refine Or.inr ?_; simp; omega) | (refine Or.inr ?_; dsimp only; omega)) _⟩
end Go.Proofs.Ytmjfnlangebhlaa
