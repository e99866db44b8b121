/-
  Merged: DkE, Dk3, DkS
-/
import Derived.Test.YtfhmdlihnidjoaaRows
import Derived.Test.YtfhmdlihnidjoaaPf1
import Derived.Test.YtfhmdlihnidjoaaPf10
import Derived.Test.YtfhmdlihnidjoaaPf8
import Derived.Test.YtfhmdlihnidjoaaPf5
import Derived.WalkKit
import Derived.Laws.MakeOwn
namespace Go.Proofs.Ytfhmdlihnidjoaa
set_option maxRecDepth 100000
set_option linter.unusedVariables false
set_option linter.unusedSectionVars false
set_option linter.unusedSimpArgs false
open Go Go.RowKit EX
def z32 : ByteArray := ⟨Array.replicate 32 0⟩
def Qj3 (c : Int) : ByteArray := byteS (List.replicate 32 c)
end Go.Proofs.Ytfhmdlihnidjoaa
namespace Go.Proofs.Ytfhmdlihnidjoaa
set_option linter.unusedVariables false
set_option linter.unusedSectionVars false
set_option linter.unusedSimpArgs false
set_option maxRecDepth 100000
open Go Go.RowKit SZ
attribute [local irreducible] post GD Nxt Qai
def zS (n j : Nat) : List Value := List.replicate j (.string z32) ++ List.replicate (n - j) (.string ByteArray.empty)
theorem made_str (n : Nat) : madeCells (Value.string ByteArray.empty).cells n = (zS n 0).toArray := by
  apply Array.ext'
  apply List.ext_getElem
  · simp [madeCells, zS]
  · intro i h1 h2
    simp [madeCells, zS, Value.cells, Nat.mod_one]
theorem st_at {P : Program} {ty ty' : TypeId} {b off : Nat} {cs : List Value} {v : Value} {w : World} (hs : (P.info? ty).map (·.size) = some 1) (hv : v.cells.toList = [v]) (h1 : v.oneCell' = true) (hh : w.heap[b]? = some (.cells cs.toArray ty' (0, 0))) (ho : off < cs.length) :
    (storeVar ty ⟨b, off, none⟩ v).run P w = .ok () (w.setCells b off [v]) ∧ (w.setCells b off [v]).heap[b]? = some (.cells (cs.set off v).toArray ty' (0, 0)) := by
  have h : stS P ty cs off v = some (setL cs off v.cells.toList) := by
    unfold stS
    rw [hs]
    have e : v.cells.size = 1 := by rw [← Array.length_toList, hv]; rfl
    simp only [e, hv, List.all_cons, List.all_nil, h1, Bool.and_true]
    rw [if_pos ⟨trivial, by omega, trivial⟩]
  obtain ⟨hr, _⟩ := QkK h hh
  rw [hv] at hr
  exact ⟨hr, QcW b ty' [v] off w cs hh⟩
end Go.Proofs.Ytfhmdlihnidjoaa
namespace Go.Proofs.Ytfhmdlihnidjoaa
set_option linter.unusedSectionVars false
set_option maxRecDepth 100000
set_option linter.unusedVariables false
set_option linter.unusedSimpArgs false
set_option maxHeartbeats 4000000
open Go Go.RowKit EX
theorem QfQ (w : World) : Calls Try.prog 40 #[.int .i64 32] w fun e w' => e = .returned (.string z32) ∧ Below w.heap.size w w' :=
  ex_val Qhb 100000 [.v (.int .i64 32)] [] [] (by kernel_rfl) (by simp [Qam, den]) (by simp [bdL, bd]) (by intro q hq; cases hq)
end Go.Proofs.Ytfhmdlihnidjoaa
