
/-
  The examples of chapter 1, which every statement of layer 1 asks first: they hold, and the call only makes new memory.
-/
import Derived.Test.YtlgfkodllacfdabRows
import Derived.Test.YtlgfkodllacfdabWordPlain
import Derived.Test.YtlgfkodllacfdabWordWalks
import Derived.Test.YtlgfkodllacfdabWordRef
import Derived.WalkKit
import Derived.ProofKit
import Derived.OpenShut
import Derived.Lib.Hide
namespace Go.Proofs.Ytlgfkodllacfdab
open Go.ChangeShapes Go.WideShapes Go.ChangeAt Go.RowKit

theorem below_drewN {B : Nat} {a w : World} (h : Below B a w) (n : Nat) : Below B a (w.drewN n) := h.trans ⟨rfl, rfl, rfl, Nat.le_refl _, fun _ _ => rfl⟩
theorem hasInts_keep {w w' : World} {v : Value} {zs : List Int} {B : Nat} (h : HasInts w v zs) (hb : Below B w w') (hB : ∀ a l c, v = .slice (some a) l c → a.block < B) : HasInts w' v zs := by
  obtain ⟨a, cap, rfl, hl, h⟩ := h
  refine ⟨a, cap, rfl, hl, ?_⟩
  rcases h with h | ⟨b, o, rfl, h⟩
  · exact Or.inl h
  · exact Or.inr ⟨b, o, rfl, fun j hj => (hb.cell (p := ⟨b, o + j, none⟩) (hB ⟨b, o, none⟩ _ _ rfl)).trans (h j hj)⟩
theorem hasInts_block {w : World} {v : Value} {zs : List Int} {B : Nat} (h : w.ownsRow B 3 1 v zs.length (zs.map (Value.int .i64))) : ∀ a l c, v = .slice (some a) l c → a.block < w.heap.size := by
  intro a l c hv
  exact (h.lt a.block (by rw [hv]; rfl)).2

theorem free_5 (w : World) : Calls Try.prog 8 #[.int .i64 5] w fun e w' => e = .returned (.int .i64 10) ∧ w = w' := by
  have h := free_any 5 w; rwa [show wrap64 (2 * 5) = 10 by unfold wrap64; decide] at h
theorem held_2 (w : World) : Calls Try.prog 9 #[.int .i64 2] w fun e w' => e = .returned (.int .i64 5) ∧ w = w' := by
  have h := held_any 2 w; rwa [show wrap64 (2 * 2 + 1) = 5 by unfold wrap64; decide] at h
theorem status_3 (w : World) : Calls Try.prog 10 #[.int .i64 3, .int .i64 3] w fun e w' => e = .returned (.int .i64 15) ∧ w = w' := by
  have h := status_any 3 3 w; rwa [show wrap64 (4 * 3 + 3 % 4) = 15 by unfold wrap64; decide] at h
theorem with_1 (w : World) : Calls Try.prog 7 #[.int .i64 1, .int .i64 3] w fun e w' => e = .returned (.int .i64 9) ∧ w = w' := with_any 1 3 ⟨by decide, by decide⟩ w
theorem locked_5 (w : World) : Calls Try.prog 11 #[.int .i64 5] w fun e w' => e = .returned (.bool true) ∧ w = w' := locked_any 5 w
theorem locked_10 (w : World) : Calls Try.prog 11 #[.int .i64 10] w fun e w' => e = .returned (.bool false) ∧ w = w' := locked_any 10 w
theorem ver_10 (w : World) : Calls Try.prog 12 #[.int .i64 10] w fun e w' => e = .returned (.int .i64 5) ∧ w = w' := ver_any 10 w
theorem who_5 (w : World) : Calls Try.prog 13 #[.int .i64 5] w fun e w' => e = .returned (.int .i64 2) ∧ w = w' := who_any 5 w
theorem try_15 (w : World) : Calls Try.prog 14 #[.int .i64 15] w fun e w' => e = .returned (.int .i64 3) ∧ w = w' := try_any 15 ⟨by decide, by decide⟩ w
theorem kind_15 (w : World) : Calls Try.prog 15 #[.int .i64 15] w fun e w' => e = .returned (.int .i64 3) ∧ w = w' := kind_any 15 w
theorem bit_62 (w : World) : Calls Try.prog 16 #[.int .i64 62] w fun e w' => e = .returned (.int .i64 0) ∧ w = w' := bit_any 62 w
theorem without_9 (w : World) : Calls Try.prog 17 #[.int .i64 9, .int .i64 0] w fun e w' => e = .returned (.int .i64 8) ∧ w = w' := without_any 9 0 ⟨by decide, by decide⟩ w
theorem bitsL_9 : bitsL 9 62 = [0, 3] := by decide +kernel
theorem bits_9 (w : World) : Calls Try.prog 5 #[.int .i64 9] w fun e w' => ∃ v, e = .returned v ∧ HasInts w' v [0, 3] ∧ (∀ a l c, v = .slice (some a) l c → a.block < w'.heap.size) ∧ Below w.heap.size w w' := by
  refine (bits_any 9 w).mono ?_
  rintro e w' ⟨v, rfl, hown, hb⟩
  rw [bitsL_9] at hown
  exact ⟨v, rfl, hasInts_of_owns hown, hasInts_block hown, hb⟩

set_option maxRecDepth 100000 in
theorem sane_any (w : World) : Calls Try.prog 4 #[] w fun e w' => e = .returned (.bool true) ∧ Below w.heap.size w w' := by
  go_enter Try.func4, Try.ntmps4
  go_wp2_with (first
    | (go_at_call 8; refine (free_5 _).mono ?_; rintro e w' ⟨rfl, rfl⟩)
    | (go_at_call 9; refine (held_2 _).mono ?_; rintro e w' ⟨rfl, rfl⟩)
    | (go_at_call 10; refine (status_3 _).mono ?_; rintro e w' ⟨rfl, rfl⟩)
    | (go_at_call 7; refine (with_1 _).mono ?_; rintro e w' ⟨rfl, rfl⟩)
    | ((with_reducible refine (locked_5 _).mono ?_); rintro e w' ⟨rfl, rfl⟩)
    | ((with_reducible refine (locked_10 _).mono ?_); rintro e w' ⟨rfl, rfl⟩)
    | (go_at_call 12; refine (ver_10 _).mono ?_; rintro e w' ⟨rfl, rfl⟩)
    | (go_at_call 13; refine (who_5 _).mono ?_; rintro e w' ⟨rfl, rfl⟩)
    | (go_at_call 14; refine (try_15 _).mono ?_; rintro e w' ⟨rfl, rfl⟩)
    | (go_at_call 15; refine (kind_15 _).mono ?_; rintro e w' ⟨rfl, rfl⟩)
    | (go_at_call 16; refine (bit_62 _).mono ?_; rintro e w' ⟨rfl, rfl⟩)
    | (go_at_call 17; refine (without_9 _).mono ?_; rintro e w' ⟨rfl, rfl⟩)
    | (go_at_call 5; refine (bits_9 _).mono ?_; rintro e w' ⟨v, rfl, hv, hvb, hb⟩))
  refine (ints_any _ _ [0, 3] [0, 3] _ (hasInts_keep hv ((Below.refl _ _).alloc (Nat.le_refl _) _) hvb) ⟨_, _, rfl, by simp, Or.inr ⟨_, _, rfl, fun j hj => ?_⟩⟩).mono ?_
  · match j, hj with
    | 0, _ => rw [World.cell?_alloc_at _ _ _ _ rfl]; rfl
    | 1, _ => rw [World.cell?_alloc_at _ _ _ _ rfl]; rfl
  rintro e w1 ⟨rfl, n, rfl⟩
  go_wp2
  go_ret
  exact ⟨rfl, below_drewN (hb.alloc hb.size _) n⟩

end Go.Proofs.Ytlgfkodllacfdab
