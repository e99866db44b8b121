
/-
  Layer 16's tool: the deferred closure of Of: where nothing panicked it does nothing; a pending access it turns into the results.
-/
import Derived.Test.YtmjfnlangebhlaaRows
import Derived.Test.YtmjfnlangebhlaaBase
import Derived.Test.YtmjfnlangebhlaaAux
import Derived.WalkKit
import Derived.WalkLawsBesides
import Derived.Defers
import Derived.Recover
namespace Go.Proofs.Ytmjfnlangebhlaa
set_option linter.unusedVariables false
set_option maxRecDepth 100000
open Go.ChangeShapes Go.WideShapes Go.ChangeAt Go.RowKit

theorem catch_idle (p q r : Addr) (w : World) :
    CallsD Try.prog 86 #[.pointer (some p), .pointer (some q), .pointer (some r)] .returning w fun e u' w' => e = .returned (.tuple #[]) ∧ u' = .returning ∧ w' = w := by
  refine callsD_of_wpS Try.func86 rfl fun c₀ cs hu => ?_
  apply wpS_seq
  apply wpS_region
  simp [wpOpsS, go_sem, recoverD, hu, Try.ntmps86, Exit.thenS]
  apply wpS_seq
  apply wpS_region
  have hnil : ∀ w : World, (binOp BinOp.neq 20 .nilIface .nilIface).run Try.prog w = .ok (.bool false) w := fun _ => by kernel_rfl
  simp [wpOpsS, go_sem, hnil, Exit.thenS]
  refine wpS_cond (t := false) (by simp [Act.eval, Array.replicate]) ?_
  simp only [Bool.false_eq_true, if_false]
  refine wpS_of_wp (wp_skip ?_)
  cases c₀
  simp_all [bodyPostS, results, Try.results86]

set_option maxHeartbeats 2000000 in
theorem catch_pend (B : Nat) (k c o n : Int) (s : ByteArray) (older : List PanicEntry) (w : World) (hB : B + 2 < w.heap.size) (fz : ∀ b i, B ≤ b → b ≤ B + 2 → w.frozen? ⟨b, i, none⟩ = false) (e0 : w.cell? ⟨B, 0, none⟩ = some (.int .i64 0)) (e1 : w.cell? ⟨B, 1, none⟩ = some (.int .i64 0)) (e2 : w.cell? ⟨B, 2, none⟩ = some (.int .i64 0)) (e3 : w.cell? ⟨B, 3, none⟩ = some (.int .i64 0)) (e4 : w.cell? ⟨B, 4, none⟩ = some (.string ByteArray.empty)) (e5 : w.cell? ⟨B + 1, 0, none⟩ = some (.int .i64 0)) (e6 : w.cell? ⟨B + 1, 1, none⟩ = some (.int .i64 0)) (e7 : w.cell? ⟨B + 1, 2, none⟩ = some (.int .i64 0)) (e8 : w.cell? ⟨B + 1, 3, none⟩ = some (.int .i64 0)) (e9 : w.cell? ⟨B + 1, 4, none⟩ = some (.bool false)) (e10 : w.cell? ⟨B + 1, 5, none⟩ = some (.bool false)) (e11 : w.cell? ⟨B + 1, 6, none⟩ = some (.int .i64 0)) (e12 : w.cell? ⟨B + 2, 0, none⟩ = some (.bool false)) :
    CallsD Try.prog 86 #[.pointer (some ⟨B, 0, none⟩), .pointer (some ⟨B + 1, 0, none⟩), .pointer (some ⟨B + 2, 0, none⟩)] (.panicking ({ v := .iface 131 (.agg #[.int .i64 k, .int .i64 c, .int .i64 o, .int .i64 n, .string s]), recovered := false } :: older)) w fun e u' w' => e = .returned (.tuple #[]) ∧ u' = .panicking ({ v := .iface 131 (.agg #[.int .i64 k, .int .i64 c, .int .i64 o, .int .i64 n, .string s]), recovered := true } :: older) ∧ Below B w w' ∧ w'.cell? ⟨B, 0, none⟩ = some (.int .i64 k) ∧ w'.cell? ⟨B, 1, none⟩ = some (.int .i64 c) ∧ w'.cell? ⟨B, 2, none⟩ = some (.int .i64 o) ∧ w'.cell? ⟨B, 3, none⟩ = some (.int .i64 n) ∧ w'.cell? ⟨B, 4, none⟩ = some (.string s) ∧ w'.cell? ⟨B + 1, 0, none⟩ = some (.int .i64 0) ∧ w'.cell? ⟨B + 1, 1, none⟩ = some (.int .i64 0) ∧ w'.cell? ⟨B + 1, 2, none⟩ = some (.int .i64 0) ∧ w'.cell? ⟨B + 1, 3, none⟩ = some (.int .i64 0) ∧ w'.cell? ⟨B + 1, 4, none⟩ = some (.bool false) ∧ w'.cell? ⟨B + 1, 5, none⟩ = some (.bool false) ∧ w'.cell? ⟨B + 1, 6, none⟩ = some (.int .i64 0) ∧ w'.cell? ⟨B + 2, 0, none⟩ = some (.bool false) := by
  refine callsD_of_wpS Try.func86 rfl fun c₀ cs hu => ?_
  have a0 : ∀ o : Obj, (w.alloc o).cell? ⟨B, 0, none⟩ = some (.int .i64 0) := fun _ => cell_alloc _ e0
  have f0 : ∀ o : Obj, (w.alloc o).frozen? ⟨B, 0, none⟩ = false := fun _ => by rw [World.frozen?_alloc_old _ _ _ (by dsimp only; omega)]; exact fz _ _ (by omega) (by omega)
  have a1 : ∀ o : Obj, (w.alloc o).cell? ⟨B, 1, none⟩ = some (.int .i64 0) := fun _ => cell_alloc _ e1
  have f1 : ∀ o : Obj, (w.alloc o).frozen? ⟨B, 1, none⟩ = false := fun _ => by rw [World.frozen?_alloc_old _ _ _ (by dsimp only; omega)]; exact fz _ _ (by omega) (by omega)
  have a2 : ∀ o : Obj, (w.alloc o).cell? ⟨B, 2, none⟩ = some (.int .i64 0) := fun _ => cell_alloc _ e2
  have f2 : ∀ o : Obj, (w.alloc o).frozen? ⟨B, 2, none⟩ = false := fun _ => by rw [World.frozen?_alloc_old _ _ _ (by dsimp only; omega)]; exact fz _ _ (by omega) (by omega)
  have a3 : ∀ o : Obj, (w.alloc o).cell? ⟨B, 3, none⟩ = some (.int .i64 0) := fun _ => cell_alloc _ e3
  have f3 : ∀ o : Obj, (w.alloc o).frozen? ⟨B, 3, none⟩ = false := fun _ => by rw [World.frozen?_alloc_old _ _ _ (by dsimp only; omega)]; exact fz _ _ (by omega) (by omega)
  have a4 : ∀ o : Obj, (w.alloc o).cell? ⟨B, 4, none⟩ = some (.string ByteArray.empty) := fun _ => cell_alloc _ e4
  have f4 : ∀ o : Obj, (w.alloc o).frozen? ⟨B, 4, none⟩ = false := fun _ => by rw [World.frozen?_alloc_old _ _ _ (by dsimp only; omega)]; exact fz _ _ (by omega) (by omega)
  have a5 : ∀ o : Obj, (w.alloc o).cell? ⟨B + 1, 0, none⟩ = some (.int .i64 0) := fun _ => cell_alloc _ e5
  have f5 : ∀ o : Obj, (w.alloc o).frozen? ⟨B + 1, 0, none⟩ = false := fun _ => by rw [World.frozen?_alloc_old _ _ _ (by dsimp only; omega)]; exact fz _ _ (by omega) (by omega)
  have a6 : ∀ o : Obj, (w.alloc o).cell? ⟨B + 1, 1, none⟩ = some (.int .i64 0) := fun _ => cell_alloc _ e6
  have f6 : ∀ o : Obj, (w.alloc o).frozen? ⟨B + 1, 1, none⟩ = false := fun _ => by rw [World.frozen?_alloc_old _ _ _ (by dsimp only; omega)]; exact fz _ _ (by omega) (by omega)
  have a7 : ∀ o : Obj, (w.alloc o).cell? ⟨B + 1, 2, none⟩ = some (.int .i64 0) := fun _ => cell_alloc _ e7
  have f7 : ∀ o : Obj, (w.alloc o).frozen? ⟨B + 1, 2, none⟩ = false := fun _ => by rw [World.frozen?_alloc_old _ _ _ (by dsimp only; omega)]; exact fz _ _ (by omega) (by omega)
  have a8 : ∀ o : Obj, (w.alloc o).cell? ⟨B + 1, 3, none⟩ = some (.int .i64 0) := fun _ => cell_alloc _ e8
  have f8 : ∀ o : Obj, (w.alloc o).frozen? ⟨B + 1, 3, none⟩ = false := fun _ => by rw [World.frozen?_alloc_old _ _ _ (by dsimp only; omega)]; exact fz _ _ (by omega) (by omega)
  have a9 : ∀ o : Obj, (w.alloc o).cell? ⟨B + 1, 4, none⟩ = some (.bool false) := fun _ => cell_alloc _ e9
  have f9 : ∀ o : Obj, (w.alloc o).frozen? ⟨B + 1, 4, none⟩ = false := fun _ => by rw [World.frozen?_alloc_old _ _ _ (by dsimp only; omega)]; exact fz _ _ (by omega) (by omega)
  have a10 : ∀ o : Obj, (w.alloc o).cell? ⟨B + 1, 5, none⟩ = some (.bool false) := fun _ => cell_alloc _ e10
  have f10 : ∀ o : Obj, (w.alloc o).frozen? ⟨B + 1, 5, none⟩ = false := fun _ => by rw [World.frozen?_alloc_old _ _ _ (by dsimp only; omega)]; exact fz _ _ (by omega) (by omega)
  have a11 : ∀ o : Obj, (w.alloc o).cell? ⟨B + 1, 6, none⟩ = some (.int .i64 0) := fun _ => cell_alloc _ e11
  have f11 : ∀ o : Obj, (w.alloc o).frozen? ⟨B + 1, 6, none⟩ = false := fun _ => by rw [World.frozen?_alloc_old _ _ _ (by dsimp only; omega)]; exact fz _ _ (by omega) (by omega)
  have a12 : ∀ o : Obj, (w.alloc o).cell? ⟨B + 2, 0, none⟩ = some (.bool false) := fun _ => cell_alloc _ e12
  have f12 : ∀ o : Obj, (w.alloc o).frozen? ⟨B + 2, 0, none⟩ = false := fun _ => by rw [World.frozen?_alloc_old _ _ _ (by dsimp only; omega)]; exact fz _ _ (by omega) (by omega)
  apply wpS_seq
  apply wpS_region
  simp [wpOpsS, go_sem, recoverD, hu, Try.ntmps86, Exit.thenS]
  apply wpS_seq
  apply wpS_region
  simp [wpOpsS, go_sem, Exit.thenS]
  refine wpS_cond (t := true) (by simp [Act.eval, Array.replicate]) ?_
  simp only [if_true]
  refine wpS_of_wp ?_
  have hta : ∀ w : World, (Instr.typeAssert (.iface 131 (.agg #[.int .i64 k, .int .i64 c, .int .i64 o, .int .i64 n, .string s])) 20 131 true).run Try.prog w = .ok (.tuple #[.agg #[.int .i64 k, .int .i64 c, .int .i64 o, .int .i64 n, .string s], .bool true]) w := fun _ => by kernel_rfl
  simp only [Array.replicate, List.replicate, List.setIfInBounds_toArray, List.set_cons_zero, List.set_cons_succ, List.append_toArray, List.cons_append, List.nil_append]
  go_wp2
  simp [bodyPostS, results, Try.results86, go_sem]
  refine ⟨((((((((((((((Below.refl B w).alloc (by omega) _).setCell (by dsimp only; omega) _).setCell (by dsimp only; omega) _).setCell (by dsimp only; omega) _).setCell (by dsimp only; omega) _).setCell (by dsimp only; omega) _).setCell (by dsimp only; omega) _).setCell (by dsimp only; omega) _).setCell (by dsimp only; omega) _).setCell (by dsimp only; omega) _).setCell (by dsimp only; omega) _).setCell (by dsimp only; omega) _).setCell (by dsimp only; omega) _).setCell (by dsimp only; omega) _, ?_, ?_, ?_, ?_, ?_, ?_, ?_, ?_, ?_, ?_, ?_, ?_, ?_⟩
  all_goals (refine World.cell?_setCell_same' _ _ _ ?_; simp [go_sem, a0, a1, a2, a3, a4, a5, a6, a7, a8, a9, a10, a11, a12])
end Go.Proofs.Ytmjfnlangebhlaa
