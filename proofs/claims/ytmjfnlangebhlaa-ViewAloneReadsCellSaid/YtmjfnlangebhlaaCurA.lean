
/-
  The reference's run of accesses (Cur) as a function of what is left of its log and of the access at which it stopped.
-/
import Derived.Test.YtmjfnlangebhlaaRows
import Derived.Test.YtmjfnlangebhlaaBase
import Derived.Test.YtmjfnlangebhlaaAux
import Derived.Test.YtmjfnlangebhlaaStepC
import Derived.Test.YtmjfnlangebhlaaStepD
import Derived.Test.YtmjfnlangebhlaaStepF
import Derived.WalkKit
import Derived.WalkLawsBesides
import Derived.IntWalk
namespace Go.Proofs.Ytmjfnlangebhlaa
set_option linter.unusedVariables false
set_option linter.unusedSimpArgs false
set_option maxRecDepth 100000
open Go.ChangeShapes Go.WideShapes Go.ChangeAt Go.RowKit

/-- What a run has before it: the results not yet consumed, and the first access that had none. -/
abbrev CSt := List (Int × Bool) × Option Ask
def cdo : CSt → Ask → (Int × Bool) × CSt
  | (l, some q), _ => ((0, false), (l, some q))
  | ([], none), a => ((0, false), ([], some a))
  | (r :: l, none), _ => (r, (l, none))
/-- The run at the block g stands so. -/
def CurAt (w : World) (g : Nat) (s : CSt) : Prop :=
  ∃ (a : Option Addr) (c at_ : Nat) (all : List (Int × Bool)), w.cell? ⟨g, 0, none⟩ = some (.slice a all.length c) ∧ w.cell? ⟨g, 1, none⟩ = some (.int .i64 (at_ : Nat)) ∧ w.cell? ⟨g, 2, none⟩ = some (.int .i64 (s.2.getD ask0).k) ∧ w.cell? ⟨g, 3, none⟩ = some (.int .i64 (s.2.getD ask0).p)
    ∧ w.cell? ⟨g, 4, none⟩ = some (.int .i64 (s.2.getD ask0).o) ∧ w.cell? ⟨g, 5, none⟩ = some (.int .i64 (s.2.getD ask0).n) ∧ w.cell? ⟨g, 6, none⟩ = some (.string ⟨#[]⟩) ∧ w.cell? ⟨g, 7, none⟩ = some (.bool s.2.isSome) ∧ (∀ o, w.frozen? ⟨g, o, none⟩ = false)
    ∧ at_ ≤ all.length ∧ s.1 = all.drop at_ ∧ all.length ≤ 1000000 ∧ (all.length = 0 ∨ ∃ b o, a = some ⟨b, o, none⟩ ∧ b < g ∧ ∀ j, j < all.length → w.cell? ⟨b, o + j * 2, none⟩ = some (.int .i64 (all.getD j (0, false)).1) ∧ w.cell? ⟨b, o + j * 2 + 1, none⟩ = some (.bool (all.getD j (0, false)).2))
theorem curAt_lt {w : World} {g : Nat} {s : CSt} (h : CurAt w g s) : g < w.heap.size := by
  obtain ⟨a, c, at_, all, h0, _⟩ := h
  exact World.block_lt_of_cell? w _ h0
theorem curAt_keep {w w' : World} {g : Nat} {s : CSt} (h : CurAt w g s) (hb : Below w.heap.size w w') : CurAt w' g s := by
  have hl := curAt_lt h
  obtain ⟨a, c, at_, all, h0, h1, h2, h3, h4, h5, h6, h7, h8, h9, h10, h11, h12⟩ := h
  refine ⟨a, c, at_, all, cel_below hb h0, cel_below hb h1, cel_below hb h2, cel_below hb h3, cel_below hb h4, cel_below hb h5, cel_below hb h6, cel_below hb h7, fun o => fro_below hb hl (h8 o), h9, h10, h11, ?_⟩
  rcases h12 with h | ⟨b, o, rfl, hb2, h⟩
  · exact Or.inl h
  · exact Or.inr ⟨b, o, rfl, hb2, fun j hj => ⟨cel_below hb (h j hj).1, cel_below hb (h j hj).2⟩⟩
theorem curAt_alloc {w : World} {g : Nat} {s : CSt} (h : CurAt w g s) (o : Obj) : CurAt (w.alloc o) g s := curAt_keep h (below_new1 w o)

theorem gb_own {w w' : World} {g : Nat} (h : w.grownBy w' (some g)) (o : Nat) (u : Value) : w.grownBy (w'.setCell ⟨g, o, none⟩ u) (some g) := gb_set h (Or.inl rfl) u
theorem curAt_drew {w : World} {g : Nat} {s : CSt} (h : CurAt w g s) : CurAt w.drew g s := by
  obtain ⟨a, c, at_, all, h0, h1, h2, h3, h4, h5, h6, h7, h8, h9, h10, h11, h12⟩ := h
  exact ⟨a, c, at_, all, h0, h1, h2, h3, h4, h5, h6, h7, h8, h9, h10, h11, h12⟩
theorem curAt_set {w : World} {g b o : Nat} {s : CSt} (h : CurAt w g s) (hb : g < b) (u : Value) : CurAt (w.setCell ⟨b, o, none⟩ u) g s := by
  have hn : b ≠ g := by omega
  obtain ⟨a, c, at_, all, h0, h1, h2, h3, h4, h5, h6, h7, h8, h9, h10, h11, h12⟩ := h
  refine ⟨a, c, at_, all, keepA_ h0 (Or.inl hn), keepA_ h1 (Or.inl hn), keepA_ h2 (Or.inl hn), keepA_ h3 (Or.inl hn), keepA_ h4 (Or.inl hn), keepA_ h5 (Or.inl hn), keepA_ h6 (Or.inl hn), keepA_ h7 (Or.inl hn), fun i => (World.frozen?_setCell _ _ _ _).trans (h8 i), h9, h10, h11, ?_⟩
  rcases h12 with h | ⟨b', o', rfl, hb', h⟩
  · exact Or.inl h
  · exact Or.inr ⟨b', o', rfl, hb', fun j hj => ⟨keepA_ (h j hj).1 (Or.inl (by omega)), keepA_ (h j hj).2 (Or.inl (by omega))⟩⟩

/-- A tree run by the reference: it goes on with zeros behind the access at which it stopped. -/
def refRun : Tree → CSt → OutD × CSt
  | .ret o, s => (o, s)
  | .ask a f, s => refRun (f (cdo s a).1) (cdo s a).2
def toldX (x : OutD × CSt) : Ask ⊕ OutD := match x.2.2 with
  | some a => .inl a
  | none => .inr x.1
theorem refRun_stop (T : Tree) : ∀ (l : List (Int × Bool)) (a : Ask), (refRun T (l, some a)).2.2 = some a := by
  induction T with
  | ret o => intro l a; rfl
  | ask b f ih => intro l a; exact ih _ l a
theorem told_run (T : Tree) : ∀ (l : List (Int × Bool)), toldX (refRun T (l, none)) = T.run l := by
  induction T with
  | ret o => intro l; cases l <;> rfl
  | ask b f ih =>
    intro l
    match l with
    | [] =>
      show toldX (refRun (f (0, false)) ([], some b)) = .inl b
      unfold toldX
      rw [refRun_stop]
    | r :: l => exact ih r l
end Go.Proofs.Ytmjfnlangebhlaa
