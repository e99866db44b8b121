
/-
  Layer 2: the reference's access of one cell.
-/
import Derived.Test.YtaclnaedinfhmaaRows
import Derived.Test.YtaclnaedinfhmaaBase
import Derived.Test.YtaclnaedinfhmaaMemA
import Derived.Test.YtaclnaedinfhmaaMemB
namespace Go.Proofs.Ytaclnaedinfhmaa
open Go.ChangeShapes Go.WideShapes Go.ChangeAt Go.RowKit

theorem with_facts {w w1 : World} {L j : Nat} {zs : List Int} {v' : Value} {o1 : Obj} {c2 : Array Value} {T2 : TypeId} (hown : w1.ownsRow w.heap.size 3 1 v' (0 + L) ([] ++ zs.map (Value.int .i64))) (hL : L = zs.length) (hj : j < L)
    (hgrow : (((w.alloc o1).alloc (.cells c2 T2)).alloc (.cells #[] 3)).grownBy w1 (some (w.heap.size + 1 + 1))) (hc2 : c2[0]? = some (.slice none 0 0)) :
    ∃ g cap', v' = .slice (some ⟨g, 0, none⟩) L cap' ∧ g < w1.heap.size ∧ w1.cell? ⟨g, j, none⟩ = some (.int .i64 (zs.getD j 0)) ∧ w1.frozen? ⟨g, j, none⟩ = false ∧
      w1.cell? ⟨w.heap.size + 1, 0, none⟩ = some (.slice none 0 0) ∧ w1.frozen? ⟨w.heap.size + 1, 0, none⟩ = false ∧ w.heap.size + 1 + 1 + 1 ≤ w1.heap.size ∧ g ≠ w.heap.size + 1 ∧
      Hid (w1.ownsRow w.heap.size 3 1 (.slice (some ⟨g, 0, none⟩) L cap') L (zs.map (Value.int .i64))) ∧ Hid (Below w.heap.size w w1) := by
  rw [Nat.zero_add, List.nil_append] at hown
  have h0 := hown
  have hlt := hown.lt
  obtain ⟨_, ⟨_, h⟩ | ⟨g, cap', cur, rfl, hg, hh, hn, hcp, _, _⟩⟩ := hown
  · omega
  have hs := hgrow.size
  simp at hs
  have hb : ∀ k, k = w.heap.size + 1 → w1.heap[k]? = (((w.alloc o1).alloc (.cells c2 T2)).alloc (.cells #[] 3)).heap[k]? := fun k hk => hgrow.block k (by simp; omega) (by simp; omega)
  have hk : w1.heap[w.heap.size + 1]? = some (.cells c2 T2 (0, 0)) := by
    rw [hb _ rfl, Below.heap_alloc _ _ _ (by simp)]
    have := heap_alloc_new (w.alloc o1) (.cells c2 T2)
    simpa using this
  refine ⟨g, cap', rfl, (hlt g rfl).2, ?_, h0.frozenAt j, ?_, ?_, by omega, ?_, h0, ?_⟩
  · rw [h0.cellAt j (by omega)]
    simp [List.getD, List.getElem?_eq_getElem (show j < zs.length by omega)]
  · rw [cell_of_row w1 (w.heap.size + 1) 0 c2 T2 (0, 0) hk, hc2]
  · exact frozen_of_row w1 (w.heap.size + 1) 0 c2 T2 hk
  · intro hc
    subst hc
    rw [hk] at hh
    simp at hh
    obtain ⟨rfl, _⟩ := hh
    have he := h0.cellAt 0 (by omega)
    rw [cell_of_row w1 (w.heap.size + 1) 0 c2 T2 (0, 0) hk, hc2] at he
    have hz : 0 < zs.length := by omega
    simp [List.getElem?_eq_getElem hz] at he
  · exact ((((Below.refl w.heap.size w).alloc (Nat.le_refl _) _).alloc (by simp) _).alloc (by simp; omega) _).grown hgrow (by simp; omega) (by simp; omega)

end Go.Proofs.Ytaclnaedinfhmaa
