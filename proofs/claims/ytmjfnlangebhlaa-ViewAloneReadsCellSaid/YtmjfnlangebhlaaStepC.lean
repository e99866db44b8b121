
/-
  Layer 16's tool: a run of an operation over its log: Load, Store, Swap take the next result, or leave with their access.
-/
import Derived.Test.YtmjfnlangebhlaaRows
import Derived.Test.YtmjfnlangebhlaaBase
import Derived.Test.YtmjfnlangebhlaaAux
import Derived.Test.YtmjfnlangebhlaaStepA
import Derived.WalkKit
import Derived.WalkLawsBesides
namespace Go.Proofs.Ytmjfnlangebhlaa
set_option linter.unusedVariables false
set_option maxRecDepth 100000
open Go.ChangeShapes Go.WideShapes Go.ChangeAt Go.RowKit

/-- In the world w the run at the block g has these results before it. -/
def RunAt (w : World) (g : Nat) (l : List (Int × Bool)) : Prop :=
  ∃ a c, w.cell? ⟨g, 0, none⟩ = some (.slice a l.length c) ∧ w.frozen? ⟨g, 0, none⟩ = false ∧ l.length ≤ c ∧ c ≤ 9223372036854775807 ∧ (l.length = 0 ∨ ∃ b o, a = some ⟨b, o, none⟩ ∧ b < g ∧ ∀ j, j < l.length → w.cell? ⟨b, o + j * 2, none⟩ = some (.int .i64 (l.getD j (0, false)).1) ∧ w.cell? ⟨b, o + j * 2 + 1, none⟩ = some (.bool (l.getD j (0, false)).2))
theorem runAt_lt {w : World} {g : Nat} {l : List (Int × Bool)} (h : RunAt w g l) : g < w.heap.size := by
  obtain ⟨a, c, h1, _⟩ := h
  exact World.block_lt_of_cell? w _ h1
theorem runAt_keep {w w' : World} {g : Nat} {l : List (Int × Bool)} (h : RunAt w g l) (hb : Below w.heap.size w w') : RunAt w' g l := by
  have hl := runAt_lt h
  obtain ⟨a, c, h1, h2, h3, h4, h5⟩ := h
  refine ⟨a, c, cel_below hb h1, fro_below hb hl h2, h3, h4, ?_⟩
  rcases h5 with h5 | ⟨b, o, rfl, h5, h6⟩
  · exact Or.inl h5
  · exact Or.inr ⟨b, o, rfl, h5, fun j hj => ⟨cel_below hb (h6 j hj).1, cel_below hb (h6 j hj).2⟩⟩
theorem runAt_alloc {w : World} {g : Nat} {l : List (Int × Bool)} (h : RunAt w g l) (o : Obj) : RunAt (w.alloc o) g l := runAt_keep h (below_new1 w o)
theorem runAt_set {w : World} {g : Nat} {l : List (Int × Bool)} (h : RunAt w g l) {b o : Nat} (hb : g < b) (u : Value) : RunAt (w.setCell ⟨b, o, none⟩ u) g l := by
  obtain ⟨a, c, h1, h2, h3, h4, h5⟩ := h
  refine ⟨a, c, keepA_ h1 (Or.inl (by omega)), by simpa using h2, h3, h4, ?_⟩
  rcases h5 with h5 | ⟨b', o', rfl, h5, h6⟩
  · exact Or.inl h5
  · exact Or.inr ⟨b', o', rfl, h5, fun j hj => ⟨keepA_ (h6 j hj).1 (Or.inl (by omega)), keepA_ (h6 j hj).2 (Or.inl (by omega))⟩⟩
theorem gb_to_below {w w' : World} {g B : Nat} (h : w.grownBy w' (some g)) (hB : B ≤ g) (hg : g < w.heap.size) : Below B w w' :=
  ⟨h.os, h.tape, h.output, h.size, fun k hk => h.block k (by omega) (by simp; omega)⟩
theorem gb_trans {a b c : World} {g : Nat} (h : a.grownBy b (some g)) (k : b.grownBy c (some g)) : a.grownBy c (some g) :=
  ⟨k.os.trans h.os, k.tape.trans h.tape, k.output.trans h.output, Nat.le_trans h.size k.size, fun i hi hne => (k.block i (Nat.lt_of_lt_of_le hi h.size) hne).trans (h.block i hi hne)⟩
theorem gb_of_below {w w' : World} (r : Option Nat) (h : Below w.heap.size w w') : w.grownBy w' r := ⟨h.os, h.tape, h.output, h.size, fun k hk _ => h.block k hk⟩

theorem do_run (w : World) (g : Nat) (r : Int × Bool) (l : List (Int × Bool)) (k p o n : Int) (s : ByteArray) (h : RunAt w g (r :: l)) :
    Calls Try.prog 123 #[.pointer (some ⟨g, 0, none⟩), .agg #[.int .i64 k, .int .i64 p, .int .i64 o, .int .i64 n, .string s]] w fun e w' =>
      e = .returned (.agg #[.int .i64 r.1, .bool r.2]) ∧ RunAt w' g l ∧ w.grownBy w' (some g) := by
  have hl := runAt_lt h
  obtain ⟨a, c, h1, h2, h3, h4, h5⟩ := h
  rcases h5 with h5 | ⟨b, q, rfl, h5, h6⟩
  · simp at h5
  have h7 := h6 0 (by simp)
  simp only [Nat.zero_mul, Nat.add_zero] at h7
  refine (do_some w g b q l.length c r.1 r.2 k p o n s h1 h2 h3 h4 h7.1 h7.2).mono ?_
  rintro e w' ⟨rfl, a', g1, g2, g3, g4⟩
  refine ⟨rfl, ⟨some a', c - 1, g1, g3, by simp at h3; omega, by omega, ?_⟩, g4⟩
  by_cases h0 : l.length = 0
  · exact Or.inl h0
  · refine Or.inr ⟨b, q + 2, by rw [g2 (by omega)], h5, fun j hj => ?_⟩
    have h8 := h6 (j + 1) (by simp; omega)
    have e1 : (r :: l).getD (j + 1) (0, false) = l.getD j (0, false) := by simp [List.getD]
    rw [e1] at h8
    have e2 : q + 2 + j * 2 = q + (j + 1) * 2 := by omega
    rw [e2]
    exact ⟨gb_cell g4 h8.1 (fun i hi hc => by simp at hi; omega), gb_cell g4 h8.2 (fun i hi hc => by simp at hi; omega)⟩

theorem do_stop (w : World) (g : Nat) (k p o n : Int) (s : ByteArray) (h : RunAt w g []) :
    Calls Try.prog 123 #[.pointer (some ⟨g, 0, none⟩), .agg #[.int .i64 k, .int .i64 p, .int .i64 o, .int .i64 n, .string s]] w fun e w' =>
      e = .panicked [{ v := .iface 131 (.agg #[.int .i64 k, .int .i64 p, .int .i64 o, .int .i64 n, .string s]), recovered := false }] ∧ Below w.heap.size w w' := by
  obtain ⟨a, c, h1, h2, h3, h4, h5⟩ := h
  exact do_none w g a c k p o n s h1

theorem load_some (w : World) (g : Nat) (r : Int × Bool) (l : List (Int × Bool)) (p : Int) (h : RunAt w g (r :: l)) :
    Calls Try.prog 101 #[.pointer (some ⟨g, 0, none⟩), .int .i64 p] w fun e w' => e = .returned (.int .i64 r.1) ∧ RunAt w' g l ∧ w.grownBy w' (some g) := by
  have hf0 : ∀ (x : Int) (y : Bool) (w : World), (Instr.field 73 (.agg #[.int .i64 x, .bool y]) 0).run Try.prog w = .ok (.int .i64 x) w := fun _ _ _ => by kernel_rfl
  have hf1 : ∀ (x : Int) (y : Bool) (w : World), (Instr.field 73 (.agg #[.int .i64 x, .bool y]) 1).run Try.prog w = .ok (.bool y) w := fun _ _ _ => by kernel_rfl
  go_enter Try.func101, Try.ntmps101
  go_wp2_with (first | (with_reducible refine (do_run _ g r l _ _ _ _ _ h).mono ?_; rintro e w' ⟨rfl, h1, h2⟩))
  go_ret
  exact ⟨rfl, h1, h2⟩

theorem load_none (w : World) (g : Nat) (p : Int) (h : RunAt w g []) :
    Calls Try.prog 101 #[.pointer (some ⟨g, 0, none⟩), .int .i64 p] w fun e w' => e = .panicked [{ v := .iface 131 (.agg #[.int .i64 1, .int .i64 p, .int .i64 0, .int .i64 0, .string ByteArray.empty]), recovered := false }] ∧ Below w.heap.size w w' := by
  go_enter Try.func101, Try.ntmps101
  go_wp2_with (first | (with_reducible refine (do_stop _ g _ _ _ _ _ h).mono ?_; rintro e w' ⟨rfl, h1⟩))
  exact ⟨rfl, rfl, h1⟩

theorem store_some (w : World) (g : Nat) (r : Int × Bool) (l : List (Int × Bool)) (p n : Int) (h : RunAt w g (r :: l)) :
    Calls Try.prog 112 #[.pointer (some ⟨g, 0, none⟩), .int .i64 p, .int .i64 n] w fun e w' => e = .returned (.tuple #[]) ∧ RunAt w' g l ∧ w.grownBy w' (some g) := by
  have hf0 : ∀ (x : Int) (y : Bool) (w : World), (Instr.field 73 (.agg #[.int .i64 x, .bool y]) 0).run Try.prog w = .ok (.int .i64 x) w := fun _ _ _ => by kernel_rfl
  have hf1 : ∀ (x : Int) (y : Bool) (w : World), (Instr.field 73 (.agg #[.int .i64 x, .bool y]) 1).run Try.prog w = .ok (.bool y) w := fun _ _ _ => by kernel_rfl
  go_enter Try.func112, Try.ntmps112
  go_wp2_with (first | (with_reducible refine (do_run _ g r l _ _ _ _ _ h).mono ?_; rintro e w' ⟨rfl, h1, h2⟩))
  simp [bodyPost, results, Try.results112, go_sem]
  exact ⟨h1, h2⟩

theorem store_none (w : World) (g : Nat) (p n : Int) (h : RunAt w g []) :
    Calls Try.prog 112 #[.pointer (some ⟨g, 0, none⟩), .int .i64 p, .int .i64 n] w fun e w' => e = .panicked [{ v := .iface 131 (.agg #[.int .i64 2, .int .i64 p, .int .i64 0, .int .i64 n, .string ByteArray.empty]), recovered := false }] ∧ Below w.heap.size w w' := by
  go_enter Try.func112, Try.ntmps112
  go_wp2_with (first | (with_reducible refine (do_stop _ g _ _ _ _ _ h).mono ?_; rintro e w' ⟨rfl, h1⟩))
  exact ⟨rfl, rfl, h1⟩

theorem swap_some (w : World) (g : Nat) (r : Int × Bool) (l : List (Int × Bool)) (p o n : Int) (h : RunAt w g (r :: l)) :
    Calls Try.prog 102 #[.pointer (some ⟨g, 0, none⟩), .int .i64 p, .int .i64 o, .int .i64 n] w fun e w' => e = .returned (.bool r.2) ∧ RunAt w' g l ∧ w.grownBy w' (some g) := by
  have hf0 : ∀ (x : Int) (y : Bool) (w : World), (Instr.field 73 (.agg #[.int .i64 x, .bool y]) 0).run Try.prog w = .ok (.int .i64 x) w := fun _ _ _ => by kernel_rfl
  have hf1 : ∀ (x : Int) (y : Bool) (w : World), (Instr.field 73 (.agg #[.int .i64 x, .bool y]) 1).run Try.prog w = .ok (.bool y) w := fun _ _ _ => by kernel_rfl
  go_enter Try.func102, Try.ntmps102
  go_wp2_with (first | (with_reducible refine (do_run _ g r l _ _ _ _ _ h).mono ?_; rintro e w' ⟨rfl, h1, h2⟩))
  go_ret
  exact ⟨rfl, h1, h2⟩

theorem swap_none (w : World) (g : Nat) (p o n : Int) (h : RunAt w g []) :
    Calls Try.prog 102 #[.pointer (some ⟨g, 0, none⟩), .int .i64 p, .int .i64 o, .int .i64 n] w fun e w' => e = .panicked [{ v := .iface 131 (.agg #[.int .i64 3, .int .i64 p, .int .i64 o, .int .i64 n, .string ByteArray.empty]), recovered := false }] ∧ Below w.heap.size w w' := by
  go_enter Try.func102, Try.ntmps102
  go_wp2_with (first | (with_reducible refine (do_stop _ g _ _ _ _ _ h).mono ?_; rintro e w' ⟨rfl, h1⟩))
  exact ⟨rfl, rfl, h1⟩

end Go.Proofs.Ytmjfnlangebhlaa
