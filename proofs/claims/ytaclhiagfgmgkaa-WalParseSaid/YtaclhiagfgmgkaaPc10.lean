/-
  Merged: DkE, Dk3
-/
import Derived.Test.YtaclhiagfgmgkaaRows
import Derived.Test.YtaclhiagfgmgkaaPc2
import Derived.Test.YtaclhiagfgmgkaaPc9
import Derived.Test.YtaclhiagfgmgkaaPc8
import Derived.Test.YtaclhiagfgmgkaaPc5
import Derived.WalkKit
import Derived.Laws.MakeOwn

/-
  Layer 22: the example of the documentation; a sector full of one byte.
-/
namespace Go.Proofs.Ytaclhiagfgmgkaa
open Go Go.RowKit EX
set_option maxRecDepth 100000
set_option linter.unusedVariables false
set_option linter.unusedSimpArgs false
def z32 : ByteArray := ⟨Array.replicate 32 0⟩
/-- A sector full of one byte. -/
def fullS (c : Int) : ByteArray := byteS (List.replicate 32 c)
theorem full_size (c : Int) : (fullS c).size = 32 := by kernel_rfl
theorem full_0 : fullS 0 = z32 := by decide
end Go.Proofs.Ytaclhiagfgmgkaa


/-
  Layer 22: a new device.
-/
namespace Go.Proofs.Ytaclhiagfgmgkaa
open Go Go.RowKit SZ
set_option linter.unusedVariables false
set_option linter.unusedSimpArgs false
set_option maxRecDepth 100000
attribute [local irreducible] post GD Nxt NxtAll
/-- Rows of equal strings, up to a place. -/
def zS (n j : Nat) : List Value := List.replicate j (.string z32) ++ List.replicate (n - j) (.string ByteArray.empty)
theorem zS_len (n j : Nat) (h : j ≤ n) : (zS n j).length = n := by simp [zS]; omega
theorem zS_set (n j : Nat) (h : j < n) : (zS n j).set j (.string z32) = zS n (j + 1) := by
  unfold zS
  rw [List.set_append_right _ _ (by simp)]
  simp only [List.length_replicate, Nat.sub_self]
  obtain ⟨m, hm⟩ : ∃ m, n - j = m + 1 := ⟨n - j - 1, by omega⟩
  rw [hm, show n - (j + 1) = m by omega, List.replicate_succ, List.set_cons_zero, List.replicate_succ', List.append_assoc]
  rfl
theorem made_str (n : Nat) : madeCells (Value.string ByteArray.empty).cells n = (zS n 0).toArray := by
  apply Array.ext'
  apply List.ext_getElem
  · simp [madeCells, zS]
  · intro i h1 h2
    simp [madeCells, zS, Value.cells, Nat.mod_one]
theorem mk_run (n : Nat) (hn : n ≤ 512) (w : World) : (Instr.makeSlice 28 (.int .i64 (n : Int)) (.int .i64 (n : Int))).run Try.prog w = .ok (.slice (some ⟨w.heap.size, 0, none⟩) n n) (w.alloc (.cells (zS n 0).toArray 9 (0, 0))) := by
  have hI : (Try.prog.info? 9).map (fun i => (i.zero, i.size, i.bytes)) = some (some (.string ByteArray.empty), 1, 16) := by kernel_rfl
  cases hi : Try.prog.info? 9 with
  | none => rw [hi] at hI; cases hI
  | some i =>
    rw [hi] at hI
    simp only [Option.map_some, Option.some.injEq, Prod.mk.injEq] at hI
    obtain ⟨h1, h2, h3⟩ := hI
    have h := run_makeSlice (P := Try.prog) w 28 9 i (.string ByteArray.empty) Try.underlying28 hi h1 .i64 .i64 (n : Int) (n : Int) (by omega) (by omega) (by rw [h2, Int.toNat_natCast]; omega) (by rw [h3]; omega) (by omega)
    rw [h2, Int.toNat_natCast, Nat.mul_one, made_str] at h
    exact h
/-- One cell of a row, stored. -/
theorem st_at {P : Program} {ty ty' : TypeId} {b off : Nat} {cs : List Value} {v : Value} {w : World} (hs : (P.info? ty).map (·.size) = some 1) (hv : v.cells.toList = [v]) (h1 : v.oneCell' = true) (hh : w.heap[b]? = some (.cells cs.toArray ty' (0, 0))) (ho : off < cs.length) :
    (storeVar ty ⟨b, off, none⟩ v).run P w = .ok () (w.setCells b off [v]) ∧ (w.setCells b off [v]).heap[b]? = some (.cells (cs.set off v).toArray ty' (0, 0)) := by
  have h : stS P ty cs off v = some (setL cs off v.cells.toList) := by
    unfold stS
    rw [hs]
    have e : v.cells.size = 1 := by rw [← Array.length_toList, hv]; rfl
    simp only [e, hv, List.all_cons, List.all_nil, h1, Bool.and_true]
    rw [if_pos ⟨trivial, by omega, trivial⟩]
  obtain ⟨hr, _⟩ := stS_run h hh
  rw [hv] at hr
  exact ⟨hr, heap_setCells b ty' [v] off w cs hh⟩
/-- The row that is filled. -/
def rfZ (b n j : Nat) : RF := ⟨fun b' => b' = b, fun w => w.heap[b]? = some (.cells (zS n j).toArray 9 (0, 0)), fun w h b' hb => by subst hb; exact (Array.getElem?_eq_some_iff.1 h).1, fun w w' h hb => (hb b rfl).trans h⟩
end Go.Proofs.Ytaclhiagfgmgkaa
