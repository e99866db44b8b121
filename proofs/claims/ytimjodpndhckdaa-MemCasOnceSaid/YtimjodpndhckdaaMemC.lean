
/-
  Layer 2: the reference's access of one cell.
-/
import Derived.Test.YtimjodpndhckdaaRows
import Derived.Test.YtimjodpndhckdaaBase
import Derived.Test.YtimjodpndhckdaaMemA
import Derived.Test.YtimjodpndhckdaaMemB
namespace Go.Proofs.Ytimjodpndhckdaa
open Go.ChangeShapes Go.WideShapes Go.ChangeAt Go.RowKit

theorem with_facts {w w1 : World} {L j : Nat} {zs : List Int} {v' : Value} {o1 : Obj} {c2 : Array Value} {T2 : TypeId} (hown : w1.ownsRow w.heap.size 3 1 v' (0 + L) ([] ++ zs.map (Value.int .i64))) (hL : L = zs.length) (hj : j < L)
    (hgrow : (((w.alloc o1).alloc (.cells c2 T2)).alloc (.cells #[] 3)).grownBy w1 (some (w.heap.size + 1 + 1))) (hc2 : c2[0]? = some (.slice none 0 0)) :
    ∃ g cap', v' = .slice (some ⟨g, 0, none⟩) L cap' ∧ g < w1.heap.size ∧ w1.cell? ⟨g, j, none⟩ = some (.int .i64 (zs.getD j 0)) ∧ w1.frozen? ⟨g, j, none⟩ = false ∧
      w1.cell? ⟨w.heap.size + 1, 0, none⟩ = some (.slice none 0 0) ∧ w1.frozen? ⟨w.heap.size + 1, 0, none⟩ = false ∧ w.heap.size + 1 + 1 + 1 ≤ w1.heap.size ∧ g ≠ w.heap.size + 1 ∧
      Hid (w1.ownsRow w.heap.size 3 1 (.slice (some ⟨g, 0, none⟩) L cap') L (zs.map (Value.int .i64))) ∧ Hid (Below w.heap.size w w1) := by
  rw [Nat.zero_add, List.nil_append] at hown
  have h0 := hown
  have hlt := hown.lt
  obtain ⟨_, ⟨_, h⟩ | ⟨g, cap', cur, rfl, hg, hh, hn, hcp, _, _⟩⟩ := hown
  · omega
  have hs := hgrow.size
  simp at hs
  have hb : ∀ k, k = w.heap.size + 1 → w1.heap[k]? = (((w.alloc o1).alloc (.cells c2 T2)).alloc (.cells #[] 3)).heap[k]? := fun k hk => hgrow.block k (by simp; omega) (by simp; omega)
  have hk : w1.heap[w.heap.size + 1]? = some (.cells c2 T2 (0, 0)) := by
    rw [hb _ rfl, Below.heap_alloc _ _ _ (by simp)]
    have := heap_alloc_new (w.alloc o1) (.cells c2 T2)
    simpa using this
  refine ⟨g, cap', rfl, (hlt g rfl).2, ?_, h0.frozenAt j, ?_, ?_, by omega, ?_, h0, ?_⟩
  · rw [h0.cellAt j (by omega)]
    simp [List.getD, List.getElem?_eq_getElem (show j < zs.length by omega)]
  · rw [cell_of_row w1 (w.heap.size + 1) 0 c2 T2 (0, 0) hk, hc2]
  · exact frozen_of_row w1 (w.heap.size + 1) 0 c2 T2 hk
  · intro hc
    subst hc
    rw [hk] at hh
    simp at hh
    obtain ⟨rfl, _⟩ := hh
    have he := h0.cellAt 0 (by omega)
    rw [cell_of_row w1 (w.heap.size + 1) 0 c2 T2 (0, 0) hk, hc2] at he
    have hz : 0 < zs.length := by omega
    simp [List.getElem?_eq_getElem hz] at he
  · exact ((((Below.refl w.heap.size w).alloc (Nat.le_refl _) _).alloc (by simp) _).alloc (by simp; omega) _).grown hgrow (by simp; omega) (by simp; omega)

set_option maxHeartbeats 800000 in
theorem with_any (v : Value) (zs : List Int) (j : Nat) (x : Int) (w : World) (hv : HasInts w v zs) (hj : j < zs.length) (hlen : zs.length ≤ 17592186044416) :
    Calls Try.prog 76 #[.agg #[v], .int .i64 j, .int .i64 x] w fun e w' =>
    ∃ u, e = .returned (.agg #[u]) ∧ w'.ownsRow w.heap.size 3 1 u zs.length ((zs.set j x).map (Value.int .i64)) ∧ Below w.heap.size w w' := by
  obtain ⟨i0, hi, hz0, hz1, hz2⟩ := info_parts info_int
  obtain ⟨a, cap, rfl, hl, hc⟩ := hv
  rcases hc with hc | ⟨bb, oo, rfl, hc⟩
  · omega
  have hbw : bb < w.heap.size := World.block_lt_of_cell? w ⟨bb, oo + 0, none⟩ (hc 0 (by omega))
  have HC : Hid (∀ o1 o2 o3, ∀ t u, (zs.map (Value.int .i64))[t]? = some u → (((w.alloc o1).alloc o2).alloc o3).cell? ((⟨bb, oo, none⟩ : Addr).add t) = some u) := Lib.hid (by
    intro o1 o2 o3 t u ht
    have htl : t < zs.length := by have := (List.getElem?_eq_some_iff.1 ht).1; simpa using this
    rw [show (⟨bb, oo, none⟩ : Addr).add t = ⟨bb, oo + t, none⟩ by simp [Addr.add], cell_alloc o3 (cell_alloc o2 (cell_alloc o1 (hc t htl))), ← ht]
    simp [List.getD, List.getElem?_eq_getElem htl])
  obtain ⟨L, hL⟩ : ∃ L, L = zs.length := ⟨_, rfl⟩
  rw [← hL] at hj hlen ⊢
  have HL := Lib.hid hL
  have HLn : Hid ((zs.map (Value.int .i64)).length = L * 1) := Lib.hid (by simp [hL])
  have HO : Hid (∀ o1 o2, (((w.alloc o1).alloc o2).alloc (.cells #[] 3)).ownsRow w.heap.size 3 1 (.slice (some ⟨w.heap.size + 1 + 1, 0, none⟩) 0 0) 0 []) := Lib.hid (by
    intro o1 o2
    have := World.ownsRow_lit (base := w.heap.size) (e := 3) (size := 1) ((w.alloc o1).alloc o2) #[] 0 (by simp; omega) (by unfold maxLen; omega) rfl
    simpa using this)
  clear hL hl hc
  go_enter Try.func76, Try.ntmps76
  go_wp2_with (first
    | (at_builtin; refine wpList_append_own _ rfl _ _ 22 rfl w.heap.size 3 i0 (.int .i64 0) 1 8 Try.underlying22 hi hz0 hz1 hz2 rfl (by decide) _ _ _ rfl (HO.out _ _) ⟨bb, oo, none⟩ L cap (zs.map (Value.int .i64)) rfl HLn.out (HC.out _ _ _) (ints_oneCell _ _) (by unfold maxLen; omega) (by omega) (by simp; omega) ?_; intro v' w1 hown hgrow _; obtain ⟨g, cap', rfl, hgl, hcell, hfz, hbc, hbf, hsz, hne, HW, HB⟩ := with_facts (j := j) hown HL.out hj hgrow rfl; clear hown hgrow))
  have HS := Lib.hid (HW.out.stored j (.int .i64 x)).1
  refine bodyPost_ret (v := .agg #[.slice (some ⟨g, 0, none⟩) L cap']) (by simp [results, Try.results76, go_sem, hbc]) rfl ?_
  have hg := (HW.out.lt g rfl).1
  refine ⟨_, rfl, ?_, ?_⟩
  · rw [List.map_set]
    exact owns_setCell_other HS.out (by simp [Value.ownBlock]; omega) _
  · exact (HB.out.setCell hg _).setCell (by simp) _

end Go.Proofs.Ytimjodpndhckdaa
