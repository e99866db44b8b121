
/-
  What the reference's run tells at its end: the access at which it stopped, or the outcome.
-/
import Derived.Test.YtmjfnlangebhlaaRows
import Derived.Test.YtmjfnlangebhlaaBase
import Derived.Test.YtmjfnlangebhlaaAux
import Derived.Test.YtmjfnlangebhlaaStepC
import Derived.Test.YtmjfnlangebhlaaStepD
import Derived.Test.YtmjfnlangebhlaaStepF
import Derived.Test.YtmjfnlangebhlaaCurA
import Derived.WalkKit
import Derived.WalkLawsBesides
namespace Go.Proofs.Ytmjfnlangebhlaa
set_option linter.unusedVariables false
set_option linter.unusedSimpArgs false
set_option maxRecDepth 100000
set_option maxHeartbeats 4000000
open Go.ChangeShapes Go.WideShapes Go.ChangeAt Go.RowKit

theorem rtold_some (w : World) (g : Nat) (l : List (Int × Bool)) (q : Ask) (o : OutD) (h : CurAt w g (l, some q)) : Calls Try.prog 47 #[.pointer (some ⟨g, 0, none⟩), o.v] w fun e w' => e = .returned (nextV (.inl q)) ∧ Below w.heap.size w w' := by
  have hlt := curAt_lt h
  obtain ⟨a, c, at_, all, h0, h1, h2, h3, h4, h5, h6, h7, h8, h9, h10, h11, h12⟩ := h
  obtain ⟨qk, qp, qo, qn⟩ := q
  simp only [Option.getD_some, Option.isSome_some] at h2 h3 h4 h5 h7
  have y2 : ∀ q1 q2 q3 : Obj, (((w.alloc q1).alloc q2).alloc q3).cell? ⟨g, 2, none⟩ = some (.int .i64 qk) := fun _ _ _ => cell_alloc _ (cell_alloc _ (cell_alloc _ h2))
  have y3 : ∀ q1 q2 q3 : Obj, (((w.alloc q1).alloc q2).alloc q3).cell? ⟨g, 3, none⟩ = some (.int .i64 qp) := fun _ _ _ => cell_alloc _ (cell_alloc _ (cell_alloc _ h3))
  have y4 : ∀ q1 q2 q3 : Obj, (((w.alloc q1).alloc q2).alloc q3).cell? ⟨g, 4, none⟩ = some (.int .i64 qo) := fun _ _ _ => cell_alloc _ (cell_alloc _ (cell_alloc _ h4))
  have y5 : ∀ q1 q2 q3 : Obj, (((w.alloc q1).alloc q2).alloc q3).cell? ⟨g, 5, none⟩ = some (.int .i64 qn) := fun _ _ _ => cell_alloc _ (cell_alloc _ (cell_alloc _ h5))
  have y6 : ∀ q1 q2 q3 : Obj, (((w.alloc q1).alloc q2).alloc q3).cell? ⟨g, 6, none⟩ = some (.string ⟨#[]⟩) := fun _ _ _ => cell_alloc _ (cell_alloc _ (cell_alloc _ h6))
  have y7 : ∀ q1 q2 q3 : Obj, (((w.alloc q1).alloc q2).alloc q3).cell? ⟨g, 7, none⟩ = some (.bool true) := fun _ _ _ => cell_alloc _ (cell_alloc _ (cell_alloc _ h7))
  clear h0 h1 h2 h3 h4 h5 h6 h7 h8 h9 h10 h11 h12
  unfold OutD.v
  go_enter Try.func47, Try.ntmps47
  go_wp2
  simp [bodyPost, results, Try.results47, go_sem, nextV, OutD.v, Ask.v, ask0, out0, ByteArray.empty, ByteArray.emptyWithCapacity]
  exact ⟨rfl, below_alloc3 (Below.refl _ _)⟩

theorem rtold_none (w : World) (g : Nat) (l : List (Int × Bool)) (o : OutD) (h : CurAt w g (l, none)) : Calls Try.prog 47 #[.pointer (some ⟨g, 0, none⟩), o.v] w fun e w' => e = .returned (nextV (.inr o)) ∧ Below w.heap.size w w' := by
  have hlt := curAt_lt h
  obtain ⟨a, c, at_, all, h0, h1, h2, h3, h4, h5, h6, h7, h8, h9, h10, h11, h12⟩ := h
  simp only [Option.isSome_none] at h7
  have y7 : ∀ q1 q2 q3 : Obj, (((w.alloc q1).alloc q2).alloc q3).cell? ⟨g, 7, none⟩ = some (.bool false) := fun _ _ _ => cell_alloc _ (cell_alloc _ (cell_alloc _ h7))
  clear h0 h1 h2 h3 h4 h5 h6 h7 h8 h9 h10 h11 h12
  unfold OutD.v
  go_enter Try.func47, Try.ntmps47
  go_wp2_with fail
  go_region
  all_goals (
    go_wp2
    simp [bodyPost, results, Try.results47, go_sem, nextV, OutD.v, Ask.v, ask0, out0, ByteArray.empty, ByteArray.emptyWithCapacity]
    exact ⟨rfl, Below.drew (below_alloc3 (Below.refl _ _))⟩)

theorem rtold_any (w : World) (g : Nat) (s : CSt) (o : OutD) (h : CurAt w g s) : Calls Try.prog 47 #[.pointer (some ⟨g, 0, none⟩), o.v] w fun e w' => e = .returned (nextV (toldX (o, s))) ∧ Below w.heap.size w w' := by
  match s, h with
  | (l, some q), h => exact rtold_some w g l q o h
  | (l, none), h => exact rtold_none w g l o h
end Go.Proofs.Ytmjfnlangebhlaa
