
/-
  Layer 3: the reference's encoding of a number; equal lists.
-/
import Derived.Test.YtimjodpndhckdaaRows
import Derived.Test.YtimjodpndhckdaaBase
import Derived.Test.YtimjodpndhckdaaWirePlain
import Derived.Test.YtimjodpndhckdaaWireA
import Derived.Outline
import Derived.Deep.QuietTactic
import Derived.BigQuiet
namespace Go.Proofs.Ytimjodpndhckdaa
open Go.ChangeShapes Go.WideShapes Go.ChangeAt Go.RowKit

/-- The slice value v reads as these bytes. -/
def HasB (w : World) (v : Value) (l : List Nat) : Prop :=
  ∃ a cap, v = .slice a l.length cap ∧ (l.length ≤ 9223372036854775807 ∧ l.length ≤ cap ∧ cap ≤ 9223372036854775807 ∧ (a = none → cap = 0)) ∧ (l.length = 0 ∨ ∃ b o, a = some ⟨b, o, none⟩ ∧ ∀ j, j < l.length → w.cell? ⟨b, o + j, none⟩ = some (.int .u8 ((l.getD j 0 : Nat) : Int)))

theorem hasB_of_owns {w : World} {B : Nat} {v : Value} {l : List Nat} (h : OwnB w B v l) : HasB w v l := by
  have h0 : w.ownsRow B 5 1 v l.length (l.map bV) := h
  obtain ⟨_, h | ⟨g, cap, cur, rfl, _, _, hn, hc, _, _⟩⟩ := h
  · obtain ⟨rfl, hz⟩ := h
    exact ⟨none, 0, by rw [hz], ⟨by omega, by omega, by omega, fun _ => rfl⟩, Or.inl hz⟩
  · refine ⟨some ⟨g, 0, none⟩, cap, rfl, ⟨by unfold maxLen at hc; omega, by omega, by unfold maxLen at hc; omega, fun h => by cases h⟩, Or.inr ⟨g, 0, rfl, fun j hj => ?_⟩⟩
    rw [Nat.zero_add, h0.cellAt j (by omega)]
    simp [List.getD, List.getElem?_eq_getElem hj]

theorem hasB_take {w : World} {a : Option Addr} {n cap : Nat} {l : List Nat} (h : HasB w (.slice a n cap) l) {j : Nat} (hj : j ≤ n) : HasB w (.slice a j cap) (l.take j) := by
  obtain ⟨a', cap', he, hl, h⟩ := h
  simp only [Value.slice.injEq] at he
  obtain ⟨rfl, rfl, rfl⟩ := he
  have hjl : (l.take j).length = j := by rw [List.length_take]; omega
  refine ⟨a, cap, by rw [hjl], by rw [hjl]; exact ⟨by omega, by omega, by omega, hl.2.2.2⟩, ?_⟩
  rw [hjl]
  rcases h with h | ⟨b, o, rfl, h⟩
  · exact Or.inl (by omega)
  · refine Or.inr ⟨b, o, rfl, fun i hi => ?_⟩
    rw [h i (by omega)]
    simp [List.getD, hi]
theorem hasB_drewN {w : World} {v : Value} {l : List Nat} (h : HasB w v l) (n : Nat) : HasB (w.drewN n) v l := h
theorem hasB_drop {w : World} {a : Option Addr} {n cap : Nat} {l : List Nat} (h : HasB w (.slice a n cap) l) {j : Nat} (hj : j ≤ n) : HasB w (.slice (if cap = j then a else a.map (·.add j)) (n - j) (cap - j)) (l.drop j) := by
  obtain ⟨a', cap', he, hl, h⟩ := h
  simp only [Value.slice.injEq] at he
  obtain ⟨rfl, rfl, rfl⟩ := he
  have hjl : (l.drop j).length = l.length - j := by rw [List.length_drop]
  refine ⟨_, _, by rw [hjl], by rw [hjl]; refine ⟨by omega, by omega, by omega, fun h => ?_⟩; (have := hl.2.2.2; cases a with | none => (have := this rfl; omega) | some x => (split at h <;> simp_all)), ?_⟩
  rw [hjl]
  by_cases h0 : l.length - j = 0
  · exact Or.inl h0
  rcases h with h | ⟨b, o, rfl, h⟩
  · exact Or.inl (by omega)
  · refine Or.inr ⟨b, o + j, ?_, fun i hi => ?_⟩
    · rw [if_neg (by omega)]
      simp only [Option.map_some, Addr.add]
      split <;> simp_all
    · rw [Nat.add_assoc, h (j + i) (by omega)]
      simp [List.getD, List.getElem?_drop]

theorem hasB_keep {w w' : World} {v : Value} {l : List Nat} (h : HasB w v l) (hb : Below w.heap.size w w') : HasB w' v l := by
  obtain ⟨a, cap, rfl, hl, h⟩ := h
  refine ⟨a, cap, rfl, hl, ?_⟩
  rcases h with h | ⟨b, o, rfl, h⟩
  · exact Or.inl h
  · refine Or.inr ⟨b, o, rfl, fun j hj => ?_⟩
    have hc := h j hj
    have hlt : b < w.heap.size := World.block_lt_of_cell? w ⟨b, o + j, none⟩ hc
    exact (hb.cell (p := ⟨b, o + j, none⟩) hlt).trans hc

theorem take_succ_eqB {zs ys : List Nat} {k : Nat} (h : zs.take k = ys.take k) (hz : k < zs.length) (hy : k < ys.length) (he : zs.getD k 0 = ys.getD k 0) : zs.take (k + 1) = ys.take (k + 1) := by
  rw [List.take_succ_eq_append_getElem hz, List.take_succ_eq_append_getElem hy, h]
  simp [List.getD, List.getElem?_eq_getElem hz, List.getElem?_eq_getElem hy] at he
  rw [he]


set_option maxRecDepth 100000 in
theorem rsameB_any (v u : Value) (zs ys : List Nat) (w : World) (hv : HasB w v zs) (hu : HasB w u ys) : Calls Try.prog 51 #[v, u] w fun e w' => e = .returned (.bool (decide (zs = ys))) ∧ ∃ n, w' = w.drewN n := by
  obtain ⟨a, cap, rfl, hlz, hca⟩ := hv
  obtain ⟨a', cap', rfl, hly, hcb⟩ := hu
  by_cases hl : zs.length = ys.length
  · have hle : ((zs.length : Int) != (ys.length : Int)) = false := by simp [hl]
    have HL := Lib.hid hl
    clear hl
    go_enter Try.func51, Try.ntmps51
    go_wp2
    go_loopw [5] (fun i wr => ∃ k n : Nat, k ≤ zs.length ∧ i = .int .i64 k ∧ wr = w.drewN n ∧ Hid (zs.take k = ys.take k)) (fun i _ => zs.length - (intOf i).toNat)
    case atStart => exact ⟨0, 0, Nat.zero_le _, rfl, rfl, Lib.hid (by simp)⟩
    case round =>
      obtain ⟨k, n, hk, rfl, rfl, ht⟩ := hrel
      by_cases hlt : k < zs.length
      · rcases hca with hca | ⟨b, o, rfl, hc⟩
        · omega
        rcases hcb with hcb | ⟨b', o', rfl, hc'⟩
        · have := HL.out; omega
        have hlt' : k < ys.length := by have := HL.out; omega
        have h1 := hc k hlt
        have h2 := hc' k hlt'
        clear hc hc'
        obtain ⟨x, hx⟩ : ∃ x, x = zs.getD k 0 := ⟨_, rfl⟩
        obtain ⟨y, hy⟩ : ∃ y, y = ys.getD k 0 := ⟨_, rfl⟩
        rw [← hx] at h1
        rw [← hy] at h2
        have HX := Lib.hid hx
        have HY := Lib.hid hy
        clear hx hy
        by_cases he : x = y
        · have he' : ((x : Int) != (y : Int)) = false := by simp [he]
          have HE := Lib.hid he
          clear he
          go_wp2
          go_quiet (fail)
          go_wp2
          go_roundw
          case rel => exact ⟨k + 1, n + nq, by omega, by go_num, rfl, Lib.hid (take_succ_eqB ht.out hlt hlt' (by rw [← HX.out, ← HY.out]; exact HE.out))⟩
          case measure => simp [intOf]; omega
        · have he' : ((x : Int) != (y : Int)) = true := by simp; omega
          have HE : Hid (decide (zs = ys) = false) := Lib.hid (by
            simp only [decide_eq_false_iff_not]; intro hc; apply he; rw [HX.out, HY.out, hc])
          clear he
          go_wp2
          go_quiet (fail)
          go_wp2
          go_ret
          exact ⟨ret_bool HE.out.symm, n + nq, by rw [World.drewN_drewN]⟩
      · obtain rfl : k = zs.length := by omega
        have HE : Hid (decide (zs = ys) = true) := Lib.hid (by
          have := ht.out
          rw [List.take_length, HL.out, List.take_length] at this
          simpa using this)
        go_wp2
        go_ret
        exact ⟨ret_bool HE.out.symm, n, rfl⟩
  · have hle : ((zs.length : Int) != (ys.length : Int)) = true := by simp; omega
    have HN : Hid (decide (zs = ys) = false) := Lib.hid (by simp; intro hc; exact hl (by rw [hc]))
    clear hl
    go_enter Try.func51, Try.ntmps51
    go_wp2
    go_ret
    exact ⟨ret_bool HN.out.symm, 0, rfl⟩


set_option maxRecDepth 100000 in
theorem rints_any (v u : Value) (zs ys : List Int) (w : World) (hv : HasInts w v zs) (hu : HasInts w u ys) : Calls Try.prog 52 #[v, u] w fun e w' => e = .returned (.bool (decide (zs = ys))) ∧ ∃ n, w' = w.drewN n := by
  obtain ⟨a, cap, rfl, hlz, hca⟩ := hv
  obtain ⟨a', cap', rfl, hly, hcb⟩ := hu
  by_cases hl : zs.length = ys.length
  · have hle : ((zs.length : Int) != (ys.length : Int)) = false := by simp [hl]
    have HL := Lib.hid hl
    clear hl
    go_enter Try.func52, Try.ntmps52
    go_wp2
    go_loopw [5] (fun i wr => ∃ k n : Nat, k ≤ zs.length ∧ i = .int .i64 k ∧ wr = w.drewN n ∧ Hid (zs.take k = ys.take k)) (fun i _ => zs.length - (intOf i).toNat)
    case atStart => exact ⟨0, 0, Nat.zero_le _, rfl, rfl, Lib.hid (by simp)⟩
    case round =>
      obtain ⟨k, n, hk, rfl, rfl, ht⟩ := hrel
      by_cases hlt : k < zs.length
      · rcases hca with hca | ⟨b, o, rfl, hc⟩
        · omega
        rcases hcb with hcb | ⟨b', o', rfl, hc'⟩
        · have := HL.out; omega
        have hlt' : k < ys.length := by have := HL.out; omega
        have h1 := hc k hlt
        have h2 := hc' k hlt'
        clear hc hc'
        obtain ⟨x, hx⟩ : ∃ x, x = zs.getD k 0 := ⟨_, rfl⟩
        obtain ⟨y, hy⟩ : ∃ y, y = ys.getD k 0 := ⟨_, rfl⟩
        rw [← hx] at h1
        rw [← hy] at h2
        have HX := Lib.hid hx
        have HY := Lib.hid hy
        clear hx hy
        by_cases he : x = y
        · have he' : (x != y) = false := by simp [he]
          have HE := Lib.hid he
          clear he
          go_wp2
          go_quiet (fail)
          go_wp2
          go_roundw
          case rel => exact ⟨k + 1, n + nq, by omega, by go_num, rfl, Lib.hid (take_succ_eq ht.out hlt hlt' (by rw [← HX.out, ← HY.out]; exact HE.out))⟩
          case measure => simp [intOf]; omega
        · have he' : (x != y) = true := by simp [he]
          have HE : Hid (decide (zs = ys) = false) := Lib.hid (by
            simp only [decide_eq_false_iff_not]; intro hc; apply he; rw [HX.out, HY.out, hc])
          clear he
          go_wp2
          go_quiet (fail)
          go_wp2
          go_ret
          exact ⟨ret_bool HE.out.symm, n + nq, by rw [World.drewN_drewN]⟩
      · obtain rfl : k = zs.length := by omega
        have HE : Hid (decide (zs = ys) = true) := Lib.hid (by
          have := ht.out
          rw [List.take_length, HL.out, List.take_length] at this
          simpa using this)
        go_wp2
        go_ret
        exact ⟨ret_bool HE.out.symm, n, rfl⟩
  · have hle : ((zs.length : Int) != (ys.length : Int)) = true := by simp; omega
    have HN : Hid (decide (zs = ys) = false) := Lib.hid (by simp; intro hc; exact hl (by rw [hc]))
    clear hl
    go_enter Try.func52, Try.ntmps52
    go_wp2
    go_ret
    exact ⟨ret_bool HN.out.symm, 0, rfl⟩

end Go.Proofs.Ytimjodpndhckdaa
