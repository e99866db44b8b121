
/-
  The reference's Load, Store, Cas over its run of accesses.
-/
import Derived.Test.YtmjfnlangebhlaaRows
import Derived.Test.YtmjfnlangebhlaaBase
import Derived.Test.YtmjfnlangebhlaaAux
import Derived.Test.YtmjfnlangebhlaaStepC
import Derived.Test.YtmjfnlangebhlaaStepD
import Derived.Test.YtmjfnlangebhlaaStepF
import Derived.Test.YtmjfnlangebhlaaCurA
import Derived.Test.YtmjfnlangebhlaaCurB
import Derived.WalkKit
import Derived.WalkLawsBesides
namespace Go.Proofs.Ytmjfnlangebhlaa
set_option linter.unusedVariables false
set_option linter.unusedSimpArgs false
set_option maxRecDepth 100000
set_option maxHeartbeats 2000000
open Go.ChangeShapes Go.WideShapes Go.ChangeAt Go.RowKit

theorem curdo_any (w : World) (g : Nat) (s : CSt) (k p o n : Int) (h : CurAt w g s) : Calls Try.prog 120 #[.pointer (some ⟨g, 0, none⟩), .agg #[.int .i64 k, .int .i64 p, .int .i64 o, .int .i64 n, .string ⟨#[]⟩]] w fun e w' =>
    e = .returned (.agg #[.int .i64 (cdo s ⟨k, p, o, n⟩).1.1, .bool (cdo s ⟨k, p, o, n⟩).1.2]) ∧ CurAt w' g (cdo s ⟨k, p, o, n⟩).2 ∧ w.grownBy w' (some g) := by
  match s, h with
  | (l, some q), h => exact curdo_stop w g l q k p o n h
  | ([], none), h => exact curdo_none w g k p o n h
  | (r :: l, none), h => exact curdo_some w g r l k p o n h

theorem rload_any02 (w : World) (g : Nat) (s : CSt) (p : Int) (h : CurAt w g s) : Calls Try.prog 89 #[.pointer (some ⟨g, 0, none⟩), .int .i64 p] w fun e w' =>
    e = .returned (.int .i64 (cdo s ⟨1, p, 0, 0⟩).1.1) ∧ CurAt w' g (cdo s ⟨1, p, 0, 0⟩).2 ∧ w.grownBy w' (some g) := by
  have HD := Lib.hid (fun w => curdo_any w g s 1 p 0 0 )
  obtain ⟨⟨⟨r1, r2⟩, s'⟩, hX⟩ : ∃ X, X = cdo s ⟨1, p, 0, 0⟩ := ⟨_, rfl⟩
  rw [← hX] at HD ⊢
  clear hX
  simp only at HD ⊢
  go_enter Try.func89, Try.ntmps89
  go_wp2_with (first | (with_reducible refine (HD.out _ h).mono ?_; rintro e w1 ⟨rfl, h1, h2⟩))
  go_ret
  exact ⟨rfl, curAt_alloc h1 _, gb_alloc h2 _⟩

theorem rcas_any02 (w : World) (g : Nat) (s : CSt) (p o n : Int) (h : CurAt w g s) : Calls Try.prog 92 #[.pointer (some ⟨g, 0, none⟩), .int .i64 p, .int .i64 o, .int .i64 n] w fun e w' =>
    e = .returned (.bool (cdo s ⟨3, p, o, n⟩).1.2) ∧ CurAt w' g (cdo s ⟨3, p, o, n⟩).2 ∧ w.grownBy w' (some g) := by
  have HD := Lib.hid (fun w => curdo_any w g s 3 p o n )
  obtain ⟨⟨⟨r1, r2⟩, s'⟩, hX⟩ : ∃ X, X = cdo s ⟨3, p, o, n⟩ := ⟨_, rfl⟩
  rw [← hX] at HD ⊢
  clear hX
  simp only at HD ⊢
  go_enter Try.func92, Try.ntmps92
  go_wp2_with (first | (with_reducible refine (HD.out _ h).mono ?_; rintro e w1 ⟨rfl, h1, h2⟩))
  go_ret
  exact ⟨rfl, curAt_alloc h1 _, gb_alloc h2 _⟩

theorem rstore_any02 (w : World) (g : Nat) (s : CSt) (p n : Int) (h : CurAt w g s) : Calls Try.prog 95 #[.pointer (some ⟨g, 0, none⟩), .int .i64 p, .int .i64 n] w fun e w' =>
    e = .returned (.tuple #[]) ∧ CurAt w' g (cdo s ⟨2, p, 0, n⟩).2 ∧ w.grownBy w' (some g) := by
  have HD := Lib.hid (fun w => curdo_any w g s 2 p 0 n )
  obtain ⟨⟨⟨r1, r2⟩, s'⟩, hX⟩ : ∃ X, X = cdo s ⟨2, p, 0, n⟩ := ⟨_, rfl⟩
  rw [← hX] at HD ⊢
  clear hX
  simp only at HD ⊢
  go_enter Try.func95, Try.ntmps95
  go_wp2_with (first | (with_reducible refine (HD.out _ h).mono ?_; rintro e w1 ⟨rfl, h1, h2⟩))
  simp [bodyPost, results, Try.results95, go_sem]
  exact ⟨h1, h2⟩
end Go.Proofs.Ytmjfnlangebhlaa
