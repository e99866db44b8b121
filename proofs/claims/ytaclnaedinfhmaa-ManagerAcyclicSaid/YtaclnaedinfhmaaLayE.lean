
/-
  Layer 15: the accesses that initialize the memory, by the program.
-/
import Derived.Test.YtaclnaedinfhmaaRows
import Derived.Test.YtaclnaedinfhmaaBase
import Derived.Test.YtaclnaedinfhmaaAux
import Derived.Test.YtaclnaedinfhmaaMemA
import Derived.Test.YtaclnaedinfhmaaMemB
import Derived.Test.YtaclnaedinfhmaaMemE
import Derived.Test.YtaclnaedinfhmaaMemF
import Derived.Test.YtaclnaedinfhmaaLayA
import Derived.Outline
namespace Go.Proofs.Ytaclnaedinfhmaa
set_option maxRecDepth 20000
open Go.ChangeShapes Go.WideShapes Go.ChangeAt Go.RowKit

theorem info_acc : (Try.prog.info? 32).map (fun i => (i.zero, i.size, i.bytes)) = some (some (.agg #[.int .i64 0, .int .i64 0, .int .i64 0, .int .i64 0, .string ByteArray.empty]), 5, 48) := by kernel_rfl
/-- The cells of accesses. -/
def accCells : List AccD → List Value
  | [] => []
  | a :: l => .int .i64 a.k :: .int .i64 a.c :: .int .i64 a.o :: .int .i64 a.n :: .string a.b :: accCells l
theorem accCells_append (l m : List AccD) : accCells (l ++ m) = accCells l ++ accCells m := by
  induction l with
  | nil => rfl
  | cons r l ih => show _ :: _ :: _ :: _ :: _ :: accCells (l ++ m) = _; rw [ih]; rfl
theorem accCells_length (l : List AccD) : (accCells l).length = l.length * 5 := by
  induction l with
  | nil => rfl
  | cons r l ih => show (accCells l).length + 1 + 1 + 1 + 1 + 1 = (l.length + 1) * 5; omega
theorem accCells_at (l : List AccD) (j : Nat) (hj : j < l.length) : (accCells l)[j * 5]? = some (.int .i64 (l.getD j noAcc).k) ∧ (accCells l)[j * 5 + 1]? = some (.int .i64 (l.getD j noAcc).c) ∧ (accCells l)[j * 5 + 2]? = some (.int .i64 (l.getD j noAcc).o) ∧ (accCells l)[j * 5 + 3]? = some (.int .i64 (l.getD j noAcc).n) ∧ (accCells l)[j * 5 + 4]? = some (.string (l.getD j noAcc).b) := by
  induction l generalizing j with
  | nil => simp at hj
  | cons r l ih =>
    cases j with
    | zero => exact ⟨rfl, rfl, rfl, rfl, rfl⟩
    | succ j =>
      have h := ih j (by simpa using hj)
      have e : (r :: l).getD (j + 1) noAcc = l.getD j noAcc := by simp [List.getD]
      rw [e]
      have e2 : (j + 1) * 5 = j * 5 + 1 + 1 + 1 + 1 + 1 := by omega
      rw [e2]
      exact h
theorem hasAccs_of_owns {w : World} {B : Nat} {v : Value} {rs : List AccD} (h : w.ownsRow B 32 5 v rs.length (accCells rs)) : HasAccs w v rs := by
  have h0 := h
  obtain ⟨_, h | ⟨g, cap, cur, rfl, _, _, hn, hc, _, _⟩⟩ := h
  · obtain ⟨rfl, hz⟩ := h
    exact ⟨none, 0, by rw [hz], by omega, Or.inl hz⟩
  · refine ⟨some ⟨g, 0, none⟩, cap, rfl, by unfold maxLen at hc; omega, Or.inr ⟨g, 0, rfl, fun j hj => ?_⟩⟩
    obtain ⟨h1, h2, h3, h4, h5⟩ := accCells_at rs j hj
    rw [Nat.zero_add, h0.cellAt (j * 5) (by omega), h0.cellAt (j * 5 + 1) (by omega), h0.cellAt (j * 5 + 2) (by omega), h0.cellAt (j * 5 + 3) (by omega), h0.cellAt (j * 5 + 4) (by omega)]
    exact ⟨h1, h2, h3, h4, h5⟩

def setAcc (c n : Int) : AccD := ⟨2, c, 0, n, ByteArray.empty⟩
/-- The accesses for the first k values. -/
def initN (l : Ly) (zs : List Int) : Nat → List AccD
  | 0 => [setAcc l.stamps 1]
  | k + 1 => initN l zs k ++ if (k : Int) < l.c.l then [setAcc (atVal l k) (zs.getD k 0)] else []
theorem initN_length (l : Ly) (zs : List Int) (k : Nat) : (initN l zs k).length ≤ k + 1 := by
  induction k with
  | zero => exact Nat.le_refl _
  | succ k ih => unfold initN; rw [List.length_append]; split <;> simp <;> omega

theorem acc_cell {w : World} {k c o n : Int} {s : ByteArray} {T : TypeId} (j : Nat) (u : Value) (hj : [Value.int .i64 k, Value.int .i64 c, Value.int .i64 o, Value.int .i64 n, Value.string s][j]? = some u) : (w.alloc (.cells #[.int .i64 k, .int .i64 c, .int .i64 o, .int .i64 n, .string s] T)).cell? ((⟨w.heap.size, 0, none⟩ : Addr).add j) = some u := by
  match j, hj with
  | 0, hj => simp at hj; subst hj; simp [Addr.add, World.cell?_alloc_at]
  | 1, hj => simp at hj; subst hj; simp [Addr.add, World.cell?_alloc_at]
  | 2, hj => simp at hj; subst hj; simp [Addr.add, World.cell?_alloc_at]
  | 3, hj => simp at hj; subst hj; simp [Addr.add, World.cell?_alloc_at]
  | 4, hj => simp at hj; subst hj; simp [Addr.add, World.cell?_alloc_at]

end Go.Proofs.Ytaclnaedinfhmaa
