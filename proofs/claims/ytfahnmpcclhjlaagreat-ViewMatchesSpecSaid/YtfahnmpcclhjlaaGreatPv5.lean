/-
  Merged: StepA, StepC, StepB, Vh12, Vh13
-/
import Derived.Test.YtfahnmpcclhjlaaGreatRows
import Derived.Test.YtfahnmpcclhjlaaGreatPv3
import Derived.WalkKit
import Derived.WalkLawsBesides
import Derived.Defers
import Derived.Recover
namespace Go.Proofs.YtfahnmpcclhjlaaGreat
set_option linter.unusedVariables false
set_option linter.unusedSectionVars false
set_option maxRecDepth 100000
open Go.ChangeShapes Go.WideShapes Go.ChangeAt Go.RowKit
theorem do_none (w : World) (g : Nat) (a : Option Addr) (c : Nat) (k p o n : Int) (s : ByteArray) (hg : w.cell? ⟨g, 0, none⟩ = some (.slice a 0 c)) :
    Calls Tryz.prog 65 #[.pointer (some ⟨g, 0, none⟩), .agg #[.int .i64 k, .int .i64 p, .int .i64 o, .int .i64 n, .string s]] w fun e w' =>
      e = .panicked [{ v := .iface 78 (.agg #[.int .i64 k, .int .i64 p, .int .i64 o, .int .i64 n, .string s]), recovered := false }] ∧ Below w.heap.size w w' := by
  have hg2 : ∀ o1 o2 : Obj, ((w.alloc o1).alloc o2).cell? ⟨g, 0, none⟩ = some (.slice a 0 c) := fun _ _ => cell_alloc _ (cell_alloc _ hg)
  go_enter Tryz.func65, Tryz.ntmps65
  go_wp2
  exact ⟨rfl, rfl, below_alloc2 (Below.refl _ _)⟩
theorem do_some (w : World) (g b j L c : Nat) (v : Int) (y : Bool) (k p o n : Int) (s : ByteArray) (hg : w.cell? ⟨g, 0, none⟩ = some (.slice (some ⟨b, j, none⟩) (L + 1) c)) (hz : w.frozen? ⟨g, 0, none⟩ = false) (hc : L + 1 ≤ c) (hc2 : c ≤ 9223372036854775807) (h0 : w.cell? ⟨b, j, none⟩ = some (.int .i64 v)) (h1 : w.cell? ⟨b, j + 1, none⟩ = some (.bool y)) :
    Calls Tryz.prog 65 #[.pointer (some ⟨g, 0, none⟩), .agg #[.int .i64 k, .int .i64 p, .int .i64 o, .int .i64 n, .string s]] w fun e w' =>
      e = .returned (.agg #[.int .i64 v, .bool y]) ∧ ∃ a', w'.cell? ⟨g, 0, none⟩ = some (.slice (some a') L (c - 1)) ∧ (0 < L → a' = ⟨b, j + 2, none⟩) ∧ w'.frozen? ⟨g, 0, none⟩ = false ∧ w.grownBy w' (some g) := by
  have zg : g < w.heap.size := World.block_lt_of_cell? w _ hg
  have zb : b < w.heap.size := World.block_lt_of_cell? w _ h0
  have hg2 : ∀ o1 o2 : Obj, ((w.alloc o1).alloc o2).cell? ⟨g, 0, none⟩ = some (.slice (some ⟨b, j, none⟩) (L + 1) c) := fun _ _ => cell_alloc _ (cell_alloc _ hg)
  have hg3 : ∀ o1 o2 o3 : Obj, (((w.alloc o1).alloc o2).alloc o3).cell? ⟨g, 0, none⟩ = some (.slice (some ⟨b, j, none⟩) (L + 1) c) := fun _ _ _ => cell_alloc _ (hg2 _ _)
  have hz3 : ∀ o1 o2 o3 : Obj, (((w.alloc o1).alloc o2).alloc o3).frozen? ⟨g, 0, none⟩ = false := fun o1 o2 o3 => by rw [World.frozen?_alloc_old _ _ _ (by dsimp only; simp; omega), World.frozen?_alloc_old _ _ _ (by dsimp only; simp; omega), World.frozen?_alloc_old _ _ _ (by dsimp only; omega)]; exact hz
  have q1 : ((L : Int) + 1 = 0) = False := by simp; omega
  have q2 : decide ((L : Int) + 1 = 0) = false := by simp; omega
  go_enter Tryz.func65, Tryz.ntmps65
  go_wp2
  · simp [bodyPost, results, Tryz.results65, go_sem]
    exact ⟨⟨b, j, none⟩, World.cell?_setCell_same _ _ _ (hg3 _ _ _), fun h => by omega, hz3 _ _ _, gb_set (gb_set (gb_set (gb_alloc (gb_alloc (gb_alloc (gb_refl _ _) _) _) _) (by first | exact Or.inl rfl | exact Or.inr (Nat.le_refl _) | (refine Or.inr ?_; simp; done) | (refine Or.inr ?_; simp; omega) | (refine Or.inr ?_; dsimp only; omega)) _) (by first | exact Or.inl rfl | exact Or.inr (Nat.le_refl _) | (refine Or.inr ?_; simp; done) | (refine Or.inr ?_; simp; omega) | (refine Or.inr ?_; dsimp only; omega)) _) (by first | exact Or.inl rfl | exact Or.inr (Nat.le_refl _) | (refine Or.inr ?_; simp; done) | (refine Or.inr ?_; simp; omega) | (refine Or.inr ?_; dsimp only; omega)) _⟩
  · simp [bodyPost, results, Tryz.results65, go_sem]
    exact ⟨⟨b, j + 2, none⟩, World.cell?_setCell_same _ _ _ (hg3 _ _ _), fun h => rfl, hz3 _ _ _, gb_set (gb_set (gb_set (gb_alloc (gb_alloc (gb_alloc (gb_refl _ _) _) _) _) (by first | exact Or.inl rfl | exact Or.inr (Nat.le_refl _) | (refine Or.inr ?_; simp; done) | (refine Or.inr ?_; simp; omega) | (refine Or.inr ?_; dsimp only; omega)) _) (by first | exact Or.inl rfl | exact Or.inr (Nat.le_refl _) | (refine Or.inr ?_; simp; done) | (refine Or.inr ?_; simp; omega) | (refine Or.inr ?_; dsimp only; omega)) _) (by first | exact Or.inl rfl | exact Or.inr (Nat.le_refl _) | (refine Or.inr ?_; simp; done) | (refine Or.inr ?_; simp; omega) | (refine Or.inr ?_; dsimp only; omega)) _⟩
end Go.Proofs.YtfahnmpcclhjlaaGreat

namespace Go.Proofs.YtfahnmpcclhjlaaGreat
set_option linter.unusedVariables false
set_option linter.unusedSectionVars false
set_option maxRecDepth 100000
open Go.ChangeShapes Go.WideShapes Go.ChangeAt Go.RowKit
def RunAt (w : World) (g : Nat) (l : List (Int × Bool)) : Prop :=
  ∃ a c, w.cell? ⟨g, 0, none⟩ = some (.slice a l.length c) ∧ w.frozen? ⟨g, 0, none⟩ = false ∧ l.length ≤ c ∧ c ≤ 9223372036854775807 ∧ (l.length = 0 ∨ ∃ b o, a = some ⟨b, o, none⟩ ∧ b < g ∧ ∀ j, j < l.length → w.cell? ⟨b, o + j * 2, none⟩ = some (.int .i64 (l.getD j (0, false)).1) ∧ w.cell? ⟨b, o + j * 2 + 1, none⟩ = some (.bool (l.getD j (0, false)).2))
theorem runAt_lt {w : World} {g : Nat} {l : List (Int × Bool)} (h : RunAt w g l) : g < w.heap.size := by
  obtain ⟨a, c, h1, _⟩ := h
  exact World.block_lt_of_cell? w _ h1
theorem gb_to_below {w w' : World} {g B : Nat} (h : w.grownBy w' (some g)) (hB : B ≤ g) (hg : g < w.heap.size) : Below B w w' :=
  ⟨h.os, h.tape, h.output, h.size, fun k hk => h.block k (by omega) (by simp; omega)⟩
theorem gb_of_below {w w' : World} (r : Option Nat) (h : Below w.heap.size w w') : w.grownBy w' r := ⟨h.os, h.tape, h.output, h.size, fun k hk _ => h.block k hk⟩
section
variable (w : World) (g : Nat)
include w g
theorem do_run (r : Int × Bool) (l : List (Int × Bool)) (k p o n : Int) (s : ByteArray) (h : RunAt w g (r :: l)) :
    Calls Tryz.prog 65 #[.pointer (some ⟨g, 0, none⟩), .agg #[.int .i64 k, .int .i64 p, .int .i64 o, .int .i64 n, .string s]] w fun e w' =>
      e = .returned (.agg #[.int .i64 r.1, .bool r.2]) ∧ RunAt w' g l ∧ w.grownBy w' (some g) := by
  have hl := runAt_lt h
  obtain ⟨a, c, h1, h2, h3, h4, h5⟩ := h
  rcases h5 with h5 | ⟨b, q, rfl, h5, h6⟩
  · simp at h5
  have h7 := h6 0 (by simp)
  simp only [Nat.zero_mul, Nat.add_zero] at h7
  refine (do_some w g b q l.length c r.1 r.2 k p o n s h1 h2 h3 h4 h7.1 h7.2).mono ?_
  rintro e w' ⟨rfl, a', g1, g2, g3, g4⟩
  refine ⟨rfl, ⟨some a', c - 1, g1, g3, by simp at h3; omega, by omega, ?_⟩, g4⟩
  by_cases h0 : l.length = 0
  · exact Or.inl h0
  · refine Or.inr ⟨b, q + 2, by rw [g2 (by omega)], h5, fun j hj => ?_⟩
    have h8 := h6 (j + 1) (by simp; omega)
    have e1 : (r :: l).getD (j + 1) (0, false) = l.getD j (0, false) := by simp [List.getD]
    rw [e1] at h8
    have e2 : q + 2 + j * 2 = q + (j + 1) * 2 := by omega
    rw [e2]
    exact ⟨gb_cell g4 h8.1 (fun i hi hc => by simp at hi; omega), gb_cell g4 h8.2 (fun i hi hc => by simp at hi; omega)⟩
theorem do_stop (k p o n : Int) (s : ByteArray) (h : RunAt w g []) :
    Calls Tryz.prog 65 #[.pointer (some ⟨g, 0, none⟩), .agg #[.int .i64 k, .int .i64 p, .int .i64 o, .int .i64 n, .string s]] w fun e w' =>
      e = .panicked [{ v := .iface 78 (.agg #[.int .i64 k, .int .i64 p, .int .i64 o, .int .i64 n, .string s]), recovered := false }] ∧ Below w.heap.size w w' := by
  obtain ⟨a, c, h1, h2, h3, h4, h5⟩ := h
  exact do_none w g a c k p o n s h1
theorem load_some (r : Int × Bool) (l : List (Int × Bool)) (p : Int) (h : RunAt w g (r :: l)) :
    Calls Tryz.prog 47 #[.pointer (some ⟨g, 0, none⟩), .int .i64 p] w fun e w' => e = .returned (.int .i64 r.1) ∧ RunAt w' g l ∧ w.grownBy w' (some g) := by
  have hf0 : ∀ (x : Int) (y : Bool) (w : World), (Instr.field 73 (.agg #[.int .i64 x, .bool y]) 0).run Tryz.prog w = .ok (.int .i64 x) w := fun _ _ _ => by kernel_rfl
  have hf1 : ∀ (x : Int) (y : Bool) (w : World), (Instr.field 73 (.agg #[.int .i64 x, .bool y]) 1).run Tryz.prog w = .ok (.bool y) w := fun _ _ _ => by kernel_rfl
  go_enter Tryz.func47, Tryz.ntmps47
  go_wp2_with (first | (with_reducible refine (do_run _ g r l _ _ _ _ _ h).mono ?_; rintro e w' ⟨rfl, h1, h2⟩))
  go_ret
  exact ⟨rfl, h1, h2⟩
theorem load_none (p : Int) (h : RunAt w g []) :
    Calls Tryz.prog 47 #[.pointer (some ⟨g, 0, none⟩), .int .i64 p] w fun e w' => e = .panicked [{ v := .iface 78 (.agg #[.int .i64 1, .int .i64 p, .int .i64 0, .int .i64 0, .string ByteArray.empty]), recovered := false }] ∧ Below w.heap.size w w' := by
  go_enter Tryz.func47, Tryz.ntmps47
  go_wp2_with (first | (with_reducible refine (do_stop _ g _ _ _ _ _ h).mono ?_; rintro e w' ⟨rfl, h1⟩))
  exact ⟨rfl, rfl, h1⟩
theorem swap_some (r : Int × Bool) (l : List (Int × Bool)) (p o n : Int) (h : RunAt w g (r :: l)) :
    Calls Tryz.prog 79 #[.pointer (some ⟨g, 0, none⟩), .int .i64 p, .int .i64 o, .int .i64 n] w fun e w' => e = .returned (.bool r.2) ∧ RunAt w' g l ∧ w.grownBy w' (some g) := by
  have hf0 : ∀ (x : Int) (y : Bool) (w : World), (Instr.field 73 (.agg #[.int .i64 x, .bool y]) 0).run Tryz.prog w = .ok (.int .i64 x) w := fun _ _ _ => by kernel_rfl
  have hf1 : ∀ (x : Int) (y : Bool) (w : World), (Instr.field 73 (.agg #[.int .i64 x, .bool y]) 1).run Tryz.prog w = .ok (.bool y) w := fun _ _ _ => by kernel_rfl
  go_enter Tryz.func79, Tryz.ntmps79
  go_wp2_with (first | (with_reducible refine (do_run _ g r l _ _ _ _ _ h).mono ?_; rintro e w' ⟨rfl, h1, h2⟩))
  go_ret
  exact ⟨rfl, h1, h2⟩
theorem swap_none (p o n : Int) (h : RunAt w g []) :
    Calls Tryz.prog 79 #[.pointer (some ⟨g, 0, none⟩), .int .i64 p, .int .i64 o, .int .i64 n] w fun e w' => e = .panicked [{ v := .iface 78 (.agg #[.int .i64 3, .int .i64 p, .int .i64 o, .int .i64 n, .string ByteArray.empty]), recovered := false }] ∧ Below w.heap.size w w' := by
  go_enter Tryz.func79, Tryz.ntmps79
  go_wp2_with (first | (with_reducible refine (do_stop _ g _ _ _ _ _ h).mono ?_; rintro e w' ⟨rfl, h1⟩))
  exact ⟨rfl, rfl, h1⟩
end
end Go.Proofs.YtfahnmpcclhjlaaGreat

namespace Go.Proofs.YtfahnmpcclhjlaaGreat
set_option linter.unusedVariables false
set_option linter.unusedSectionVars false
set_option maxRecDepth 100000
open Go.ChangeShapes Go.WideShapes Go.ChangeAt Go.RowKit
theorem catch_idle (p q r : Addr) (w : World) :
    CallsD Tryz.prog 26 #[.pointer (some p), .pointer (some q), .pointer (some r)] .returning w fun e u' w' => e = .returned (.tuple #[]) ∧ u' = .returning ∧ w' = w := by
  refine callsD_of_wpS Tryz.func26 rfl fun c₀ cs hu => ?_
  apply wpS_seq
  apply wpS_region
  simp [wpOpsS, go_sem, recoverD, hu, Tryz.ntmps26, Exit.thenS]
  apply wpS_seq
  apply wpS_region
  have hnil : ∀ w : World, (binOp BinOp.neq 20 .nilIface .nilIface).run Tryz.prog w = .ok (.bool false) w := fun _ => by kernel_rfl
  simp [wpOpsS, go_sem, hnil, Exit.thenS]
  refine wpS_cond (t := false) (by simp [Act.eval, Array.replicate]) ?_
  simp only [Bool.false_eq_true, if_false]
  refine wpS_of_wp (wp_skip ?_)
  cases c₀
  simp_all [bodyPostS, results, Tryz.results26]
set_option maxHeartbeats 2000000 in
theorem catch_pend (B : Nat) (k c o n : Int) (s : ByteArray) (older : List PanicEntry) (w : World) (hB : B + 2 < w.heap.size) (fz : ∀ b i, B ≤ b → b ≤ B + 2 → w.frozen? ⟨b, i, none⟩ = false) (e0 : w.cell? ⟨B, 0, none⟩ = some (.int .i64 0)) (e1 : w.cell? ⟨B, 1, none⟩ = some (.int .i64 0)) (e2 : w.cell? ⟨B, 2, none⟩ = some (.int .i64 0)) (e3 : w.cell? ⟨B, 3, none⟩ = some (.int .i64 0)) (e4 : w.cell? ⟨B, 4, none⟩ = some (.string ByteArray.empty)) (e5 : w.cell? ⟨B + 1, 0, none⟩ = some (.int .i64 0)) (e6 : w.cell? ⟨B + 1, 1, none⟩ = some (.int .i64 0)) (e7 : w.cell? ⟨B + 1, 2, none⟩ = some (.int .i64 0)) (e8 : w.cell? ⟨B + 1, 3, none⟩ = some (.int .i64 0)) (e9 : w.cell? ⟨B + 1, 4, none⟩ = some (.bool false)) (e10 : w.cell? ⟨B + 1, 5, none⟩ = some (.bool false)) (e11 : w.cell? ⟨B + 1, 6, none⟩ = some (.int .i64 0)) (e12 : w.cell? ⟨B + 2, 0, none⟩ = some (.bool false)) :
    CallsD Tryz.prog 26 #[.pointer (some ⟨B, 0, none⟩), .pointer (some ⟨B + 1, 0, none⟩), .pointer (some ⟨B + 2, 0, none⟩)] (.panicking ({ v := .iface 78 (.agg #[.int .i64 k, .int .i64 c, .int .i64 o, .int .i64 n, .string s]), recovered := false } :: older)) w fun e u' w' => e = .returned (.tuple #[]) ∧ u' = .panicking ({ v := .iface 78 (.agg #[.int .i64 k, .int .i64 c, .int .i64 o, .int .i64 n, .string s]), recovered := true } :: older) ∧ Below B w w' ∧ w'.cell? ⟨B, 0, none⟩ = some (.int .i64 k) ∧ w'.cell? ⟨B, 1, none⟩ = some (.int .i64 c) ∧ w'.cell? ⟨B, 2, none⟩ = some (.int .i64 o) ∧ w'.cell? ⟨B, 3, none⟩ = some (.int .i64 n) ∧ w'.cell? ⟨B, 4, none⟩ = some (.string s) ∧ w'.cell? ⟨B + 1, 0, none⟩ = some (.int .i64 0) ∧ w'.cell? ⟨B + 1, 1, none⟩ = some (.int .i64 0) ∧ w'.cell? ⟨B + 1, 2, none⟩ = some (.int .i64 0) ∧ w'.cell? ⟨B + 1, 3, none⟩ = some (.int .i64 0) ∧ w'.cell? ⟨B + 1, 4, none⟩ = some (.bool false) ∧ w'.cell? ⟨B + 1, 5, none⟩ = some (.bool false) ∧ w'.cell? ⟨B + 1, 6, none⟩ = some (.int .i64 0) ∧ w'.cell? ⟨B + 2, 0, none⟩ = some (.bool false) := by
  refine callsD_of_wpS Tryz.func26 rfl fun c₀ cs hu => ?_
  have a0 : ∀ o : Obj, (w.alloc o).cell? ⟨B, 0, none⟩ = some (.int .i64 0) := fun _ => cell_alloc _ e0
  have f0 : ∀ o : Obj, (w.alloc o).frozen? ⟨B, 0, none⟩ = false := fun _ => by rw [World.frozen?_alloc_old _ _ _ (by dsimp only; omega)]; exact fz _ _ (by omega) (by omega)
  have a1 : ∀ o : Obj, (w.alloc o).cell? ⟨B, 1, none⟩ = some (.int .i64 0) := fun _ => cell_alloc _ e1
  have f1 : ∀ o : Obj, (w.alloc o).frozen? ⟨B, 1, none⟩ = false := fun _ => by rw [World.frozen?_alloc_old _ _ _ (by dsimp only; omega)]; exact fz _ _ (by omega) (by omega)
  have a2 : ∀ o : Obj, (w.alloc o).cell? ⟨B, 2, none⟩ = some (.int .i64 0) := fun _ => cell_alloc _ e2
  have f2 : ∀ o : Obj, (w.alloc o).frozen? ⟨B, 2, none⟩ = false := fun _ => by rw [World.frozen?_alloc_old _ _ _ (by dsimp only; omega)]; exact fz _ _ (by omega) (by omega)
  have a3 : ∀ o : Obj, (w.alloc o).cell? ⟨B, 3, none⟩ = some (.int .i64 0) := fun _ => cell_alloc _ e3
  have f3 : ∀ o : Obj, (w.alloc o).frozen? ⟨B, 3, none⟩ = false := fun _ => by rw [World.frozen?_alloc_old _ _ _ (by dsimp only; omega)]; exact fz _ _ (by omega) (by omega)
  have a4 : ∀ o : Obj, (w.alloc o).cell? ⟨B, 4, none⟩ = some (.string ByteArray.empty) := fun _ => cell_alloc _ e4
  have f4 : ∀ o : Obj, (w.alloc o).frozen? ⟨B, 4, none⟩ = false := fun _ => by rw [World.frozen?_alloc_old _ _ _ (by dsimp only; omega)]; exact fz _ _ (by omega) (by omega)
  have a5 : ∀ o : Obj, (w.alloc o).cell? ⟨B + 1, 0, none⟩ = some (.int .i64 0) := fun _ => cell_alloc _ e5
  have f5 : ∀ o : Obj, (w.alloc o).frozen? ⟨B + 1, 0, none⟩ = false := fun _ => by rw [World.frozen?_alloc_old _ _ _ (by dsimp only; omega)]; exact fz _ _ (by omega) (by omega)
  have a6 : ∀ o : Obj, (w.alloc o).cell? ⟨B + 1, 1, none⟩ = some (.int .i64 0) := fun _ => cell_alloc _ e6
  have f6 : ∀ o : Obj, (w.alloc o).frozen? ⟨B + 1, 1, none⟩ = false := fun _ => by rw [World.frozen?_alloc_old _ _ _ (by dsimp only; omega)]; exact fz _ _ (by omega) (by omega)
  have a7 : ∀ o : Obj, (w.alloc o).cell? ⟨B + 1, 2, none⟩ = some (.int .i64 0) := fun _ => cell_alloc _ e7
  have f7 : ∀ o : Obj, (w.alloc o).frozen? ⟨B + 1, 2, none⟩ = false := fun _ => by rw [World.frozen?_alloc_old _ _ _ (by dsimp only; omega)]; exact fz _ _ (by omega) (by omega)
  have a8 : ∀ o : Obj, (w.alloc o).cell? ⟨B + 1, 3, none⟩ = some (.int .i64 0) := fun _ => cell_alloc _ e8
  have f8 : ∀ o : Obj, (w.alloc o).frozen? ⟨B + 1, 3, none⟩ = false := fun _ => by rw [World.frozen?_alloc_old _ _ _ (by dsimp only; omega)]; exact fz _ _ (by omega) (by omega)
  have a9 : ∀ o : Obj, (w.alloc o).cell? ⟨B + 1, 4, none⟩ = some (.bool false) := fun _ => cell_alloc _ e9
  have f9 : ∀ o : Obj, (w.alloc o).frozen? ⟨B + 1, 4, none⟩ = false := fun _ => by rw [World.frozen?_alloc_old _ _ _ (by dsimp only; omega)]; exact fz _ _ (by omega) (by omega)
  have a10 : ∀ o : Obj, (w.alloc o).cell? ⟨B + 1, 5, none⟩ = some (.bool false) := fun _ => cell_alloc _ e10
  have f10 : ∀ o : Obj, (w.alloc o).frozen? ⟨B + 1, 5, none⟩ = false := fun _ => by rw [World.frozen?_alloc_old _ _ _ (by dsimp only; omega)]; exact fz _ _ (by omega) (by omega)
  have a11 : ∀ o : Obj, (w.alloc o).cell? ⟨B + 1, 6, none⟩ = some (.int .i64 0) := fun _ => cell_alloc _ e11
  have f11 : ∀ o : Obj, (w.alloc o).frozen? ⟨B + 1, 6, none⟩ = false := fun _ => by rw [World.frozen?_alloc_old _ _ _ (by dsimp only; omega)]; exact fz _ _ (by omega) (by omega)
  have a12 : ∀ o : Obj, (w.alloc o).cell? ⟨B + 2, 0, none⟩ = some (.bool false) := fun _ => cell_alloc _ e12
  have f12 : ∀ o : Obj, (w.alloc o).frozen? ⟨B + 2, 0, none⟩ = false := fun _ => by rw [World.frozen?_alloc_old _ _ _ (by dsimp only; omega)]; exact fz _ _ (by omega) (by omega)
  apply wpS_seq
  apply wpS_region
  simp [wpOpsS, go_sem, recoverD, hu, Tryz.ntmps26, Exit.thenS]
  apply wpS_seq
  apply wpS_region
  simp [wpOpsS, go_sem, Exit.thenS]
  refine wpS_cond (t := true) (by simp [Act.eval, Array.replicate]) ?_
  simp only [if_true]
  refine wpS_of_wp ?_
  have hta : ∀ w : World, (Instr.typeAssert (.iface 78 (.agg #[.int .i64 k, .int .i64 c, .int .i64 o, .int .i64 n, .string s])) 20 78 true).run Tryz.prog w = .ok (.tuple #[.agg #[.int .i64 k, .int .i64 c, .int .i64 o, .int .i64 n, .string s], .bool true]) w := fun _ => by kernel_rfl
  simp only [Array.replicate, List.replicate, List.setIfInBounds_toArray, List.set_cons_zero, List.set_cons_succ, List.append_toArray, List.cons_append, List.nil_append]
  go_wp2
  simp [bodyPostS, results, Tryz.results26, go_sem]
  refine ⟨((((((((((((((Below.refl B w).alloc (by omega) _).setCell (by dsimp only; omega) _).setCell (by dsimp only; omega) _).setCell (by dsimp only; omega) _).setCell (by dsimp only; omega) _).setCell (by dsimp only; omega) _).setCell (by dsimp only; omega) _).setCell (by dsimp only; omega) _).setCell (by dsimp only; omega) _).setCell (by dsimp only; omega) _).setCell (by dsimp only; omega) _).setCell (by dsimp only; omega) _).setCell (by dsimp only; omega) _).setCell (by dsimp only; omega) _, ?_, ?_, ?_, ?_, ?_, ?_, ?_, ?_, ?_, ?_, ?_, ?_, ?_⟩
  all_goals (refine World.cell?_setCell_same' _ _ _ ?_; simp [go_sem, a0, a1, a2, a3, a4, a5, a6, a7, a8, a9, a10, a11, a12])
end Go.Proofs.YtfahnmpcclhjlaaGreat

namespace Go.Proofs.YtfahnmpcclhjlaaGreat
set_option linter.unusedVariables false
set_option linter.unusedSectionVars false
set_option maxRecDepth 100000
open Go.ChangeShapes Go.WideShapes Go.ChangeAt Go.RowKit
set_option maxHeartbeats 2000000 in
theorem att_pend (p1 p2 : Addr) (k c o n : Int) (s : ByteArray) (older : List PanicEntry) (w : World) :
    CallsD Tryz.prog 41 #[.pointer (some p1), .pointer (some p2)] (.panicking ({ v := (Value.iface 78 (.agg #[.int .i64 k, .int .i64 c, .int .i64 o, .int .i64 n, .string s])), recovered := false } :: older)) w fun e u' w' => e = .panicked [{ v := (Value.iface 78 (.agg #[.int .i64 k, .int .i64 c, .int .i64 o, .int .i64 n, .string s])), recovered := false }] ∧ u' = .panicking ({ v := (Value.iface 78 (.agg #[.int .i64 k, .int .i64 c, .int .i64 o, .int .i64 n, .string s])), recovered := true } :: older) ∧ Below w.heap.size w w' := by
  refine callsD_of_wpS Tryz.func41 rfl fun c₀ cs hu => ?_
  apply wpS_seq
  apply wpS_region
  simp [wpOpsS, go_sem, recoverD, hu, Tryz.ntmps41, Exit.thenS]
  apply wpS_seq
  apply wpS_region
  simp [wpOpsS, go_sem, Exit.thenS]
  refine wpS_cond (t := true) (by simp [Act.eval, Array.replicate]) ?_
  simp only [if_true]
  refine wpS_of_wp ?_
  have hta : ∀ w : World, (Instr.typeAssert (Value.iface 78 (.agg #[.int .i64 k, .int .i64 c, .int .i64 o, .int .i64 n, .string s])) 20 92 true).run Tryz.prog w = .ok (.tuple #[.agg #[], .bool false]) w := fun _ => by kernel_rfl
  simp only [Array.replicate, List.replicate, List.setIfInBounds_toArray, List.set_cons_zero, List.set_cons_succ, List.append_toArray, List.cons_append, List.nil_append]
  go_wp2
  simp [bodyPostS, go_sem]
  exact (Below.refl _ w).alloc (Nat.le_refl _) _
end Go.Proofs.YtfahnmpcclhjlaaGreat

namespace Go.Proofs.YtfahnmpcclhjlaaGreat
set_option linter.unusedVariables false
set_option linter.unusedSectionVars false
set_option maxRecDepth 100000
open Go.ChangeShapes Go.WideShapes Go.ChangeAt Go.RowKit
def lostW (w : World) (B C : Nat) : World := ((w.setCells B 0 [.int .i64 0, .int .i64 0, .int .i64 0, .int .i64 0, .bool false, .bool true, .int .i64 0]).setCell ⟨C, 0, none⟩ (.bool true)).alloc (.cells #[] 92)
set_option maxHeartbeats 2000000 in
theorem att_lost (w : World) (B C : Nat) (hB : B < w.heap.size) (hC : C < w.heap.size) (hBC : B ≠ C) (older : List PanicEntry) (e0 : w.cell? ⟨B, 0, none⟩ = some (.int .i64 0)) (e1 : w.cell? ⟨B, 1, none⟩ = some (.int .i64 0)) (e2 : w.cell? ⟨B, 2, none⟩ = some (.int .i64 0)) (e3 : w.cell? ⟨B, 3, none⟩ = some (.int .i64 0)) (e4 : w.cell? ⟨B, 4, none⟩ = some (.bool false)) (e5 : w.cell? ⟨B, 5, none⟩ = some (.bool false)) (e6 : w.cell? ⟨B, 6, none⟩ = some (.int .i64 0)) (e7 : w.cell? ⟨C, 0, none⟩ = some (.bool false)) (fB : ∀ i, w.frozen? ⟨B, i, none⟩ = false) (fC : ∀ i, w.frozen? ⟨C, i, none⟩ = false) :
    CallsD Tryz.prog 41 #[.pointer (some ⟨B, 0, none⟩), .pointer (some ⟨C, 0, none⟩)] (.panicking ({ v := (Value.iface 92 (.agg #[])), recovered := false } :: older)) w fun e u' w' => e = .returned (.tuple #[]) ∧ u' = .panicking ({ v := (Value.iface 92 (.agg #[])), recovered := true } :: older) ∧ w' = lostW w B C := by
  refine callsD_of_wpS Tryz.func41 rfl fun c₀ cs hu => ?_
  have a0 : ∀ o : Obj, (w.alloc o).cell? ⟨B, 0, none⟩ = some (.int .i64 0) := fun _ => cell_alloc _ e0
  have f0 : ∀ o : Obj, (w.alloc o).frozen? ⟨B, 0, none⟩ = false := fun _ => by rw [World.frozen?_alloc_old _ _ _ (by dsimp only; omega)]; exact fB _
  have a1 : ∀ o : Obj, (w.alloc o).cell? ⟨B, 1, none⟩ = some (.int .i64 0) := fun _ => cell_alloc _ e1
  have f1 : ∀ o : Obj, (w.alloc o).frozen? ⟨B, 1, none⟩ = false := fun _ => by rw [World.frozen?_alloc_old _ _ _ (by dsimp only; omega)]; exact fB _
  have a2 : ∀ o : Obj, (w.alloc o).cell? ⟨B, 2, none⟩ = some (.int .i64 0) := fun _ => cell_alloc _ e2
  have f2 : ∀ o : Obj, (w.alloc o).frozen? ⟨B, 2, none⟩ = false := fun _ => by rw [World.frozen?_alloc_old _ _ _ (by dsimp only; omega)]; exact fB _
  have a3 : ∀ o : Obj, (w.alloc o).cell? ⟨B, 3, none⟩ = some (.int .i64 0) := fun _ => cell_alloc _ e3
  have f3 : ∀ o : Obj, (w.alloc o).frozen? ⟨B, 3, none⟩ = false := fun _ => by rw [World.frozen?_alloc_old _ _ _ (by dsimp only; omega)]; exact fB _
  have a4 : ∀ o : Obj, (w.alloc o).cell? ⟨B, 4, none⟩ = some (.bool false) := fun _ => cell_alloc _ e4
  have f4 : ∀ o : Obj, (w.alloc o).frozen? ⟨B, 4, none⟩ = false := fun _ => by rw [World.frozen?_alloc_old _ _ _ (by dsimp only; omega)]; exact fB _
  have a5 : ∀ o : Obj, (w.alloc o).cell? ⟨B, 5, none⟩ = some (.bool false) := fun _ => cell_alloc _ e5
  have f5 : ∀ o : Obj, (w.alloc o).frozen? ⟨B, 5, none⟩ = false := fun _ => by rw [World.frozen?_alloc_old _ _ _ (by dsimp only; omega)]; exact fB _
  have a6 : ∀ o : Obj, (w.alloc o).cell? ⟨B, 6, none⟩ = some (.int .i64 0) := fun _ => cell_alloc _ e6
  have f6 : ∀ o : Obj, (w.alloc o).frozen? ⟨B, 6, none⟩ = false := fun _ => by rw [World.frozen?_alloc_old _ _ _ (by dsimp only; omega)]; exact fB _
  have a7 : ∀ o : Obj, (w.alloc o).cell? ⟨C, 0, none⟩ = some (.bool false) := fun _ => cell_alloc _ e7
  have f7 : ∀ o : Obj, (w.alloc o).frozen? ⟨C, 0, none⟩ = false := fun _ => by rw [World.frozen?_alloc_old _ _ _ (by dsimp only; omega)]; exact fC _
  apply wpS_seq
  apply wpS_region
  simp [wpOpsS, go_sem, recoverD, hu, Tryz.ntmps41, Exit.thenS]
  apply wpS_seq
  apply wpS_region
  simp [wpOpsS, go_sem, Exit.thenS]
  refine wpS_cond (t := true) (by simp [Act.eval, Array.replicate]) ?_
  simp only [if_true]
  refine wpS_of_wp ?_
  have hta : ∀ w : World, (Instr.typeAssert (Value.iface 92 (.agg #[])) 20 92 true).run Tryz.prog w = .ok (.tuple #[.agg #[], .bool true]) w := fun _ => by kernel_rfl
  simp only [Array.replicate, List.replicate, List.setIfInBounds_toArray, List.set_cons_zero, List.set_cons_succ, List.append_toArray, List.cons_append, List.nil_append]
  go_wp2
  simp [bodyPostS, results, Tryz.results41, go_sem]
  rfl
end Go.Proofs.YtfahnmpcclhjlaaGreat
