
/-
  What each function of the reference of layer 1 returns: the same values as the program's own functions.
-/
import Derived.Test.YtlgfkodllacfdabRows
import Derived.Test.YtlgfkodllacfdabWordPlain
import Derived.Test.YtlgfkodllacfdabWordWalks
import Derived.WalkKit
import Derived.ProofKit
import Derived.OpenShut
import Derived.Lib.Hide
import Derived.Deep.QuietTactic
import Derived.BigQuiet
namespace Go.Proofs.Ytlgfkodllacfdab
open Go.ChangeShapes Go.WideShapes Go.ChangeAt Go.RowKit

theorem down_lo {a : Int} (h : I64 a) {n : Nat} (hn : n ≤ 61) : -9223372036854775808 ≤ a - a % 2 ^ n := by
  obtain ⟨h1, h2⟩ := h
  have hp := pow_pos' n
  have e : (-9223372036854775808 : Int) = 2 ^ n * (-(2 ^ (63 - n))) := by
    have h2 : (2 : Int) ^ n * (-(2 ^ (63 - n))) = - 2 ^ (n + (63 - n)) := by rw [Int.pow_add, Int.mul_neg]
    have : n + (63 - n) = 63 := by omega
    rw [h2, this]; decide
  have hq : -(2 ^ (63 - n)) ≤ a / 2 ^ n := by
    have : (-9223372036854775808) / 2 ^ n ≤ a / 2 ^ n := Int.ediv_le_ediv hp h1
    have e2 : (-9223372036854775808 : Int) / 2 ^ n = -(2 ^ (63 - n)) := by
      rw [e, Int.mul_ediv_cancel_left _ (by omega)]
    omega
  have hm := Int.mul_ediv_add_emod a (2 ^ n)
  have hmul : 2 ^ n * (-(2 ^ (63 - n))) ≤ 2 ^ n * (a / 2 ^ n) := Int.mul_le_mul_of_nonneg_left hq (by omega)
  omega

/-- The slice value v holds these integers. -/
def HasInts (w : World) (v : Value) (zs : List Int) : Prop :=
  ∃ a cap, v = .slice a zs.length cap ∧ zs.length ≤ 9223372036854775807 ∧ (zs.length = 0 ∨ ∃ b o, a = some ⟨b, o, none⟩ ∧ ∀ j, j < zs.length → w.cell? ⟨b, o + j, none⟩ = some (.int .i64 (zs.getD j 0)))

theorem take_succ_eq {zs ys : List Int} {k : Nat} (h : zs.take k = ys.take k) (hz : k < zs.length) (hy : k < ys.length) (he : zs.getD k 0 = ys.getD k 0) : zs.take (k + 1) = ys.take (k + 1) := by
  rw [List.take_succ_eq_append_getElem hz, List.take_succ_eq_append_getElem hy, h]
  simp [List.getD, List.getElem?_eq_getElem hz, List.getElem?_eq_getElem hy] at he
  rw [he]

set_option maxRecDepth 100000 in
theorem ints_any (v u : Value) (zs ys : List Int) (w : World) (hv : HasInts w v zs) (hu : HasInts w u ys) : Calls Try.prog 18 #[v, u] w fun e w' => e = .returned (.bool (decide (zs = ys))) ∧ ∃ n, w' = w.drewN n := by
  obtain ⟨a, cap, rfl, hlz, hca⟩ := hv
  obtain ⟨a', cap', rfl, hly, hcb⟩ := hu
  by_cases hl : zs.length = ys.length
  · have hle : ((zs.length : Int) != (ys.length : Int)) = false := by simp [hl]
    have HL := Lib.hid hl
    clear hl
    go_enter Try.func18, Try.ntmps18
    go_wp2
    go_loopw [5] (fun i wr => ∃ k n : Nat, k ≤ zs.length ∧ i = .int .i64 k ∧ wr = w.drewN n ∧ Hid (zs.take k = ys.take k)) (fun i _ => zs.length - (intOf i).toNat)
    case atStart => exact ⟨0, 0, Nat.zero_le _, rfl, rfl, Lib.hid (by simp)⟩
    case round =>
      obtain ⟨k, n, hk, rfl, rfl, ht⟩ := hrel
      by_cases hlt : k < zs.length
      · rcases hca with hca | ⟨b, o, rfl, hc⟩
        · omega
        rcases hcb with hcb | ⟨b', o', rfl, hc'⟩
        · have := HL.out; omega
        have hlt' : k < ys.length := by have := HL.out; omega
        have h1 := hc k hlt
        have h2 := hc' k hlt'
        clear hc hc'
        obtain ⟨x, hx⟩ : ∃ x, x = zs.getD k 0 := ⟨_, rfl⟩
        obtain ⟨y, hy⟩ : ∃ y, y = ys.getD k 0 := ⟨_, rfl⟩
        rw [← hx] at h1
        rw [← hy] at h2
        have HX := Lib.hid hx
        have HY := Lib.hid hy
        clear hx hy
        by_cases he : x = y
        · have he' : (x != y) = false := by simp [he]
          have HE := Lib.hid he
          clear he
          go_wp2
          go_quiet (fail)
          go_wp2
          go_roundw
          case rel => exact ⟨k + 1, n + nq, by omega, by go_num, rfl, Lib.hid (take_succ_eq ht.out hlt hlt' (by rw [← HX.out, ← HY.out]; exact HE.out))⟩
          case measure => simp [intOf]; omega
        · have he' : (x != y) = true := by simp [he]
          have HE : Hid (decide (zs = ys) = false) := Lib.hid (by
            simp only [decide_eq_false_iff_not]; intro hc; apply he; rw [HX.out, HY.out, hc])
          clear he
          go_wp2
          go_quiet (fail)
          go_wp2
          go_ret
          exact ⟨ret_bool HE.out.symm, n + nq, World.drewN_drewN ..⟩
      · obtain rfl : k = zs.length := by omega
        have HE : Hid (decide (zs = ys) = true) := Lib.hid (by
          have := ht.out
          rw [List.take_length, HL.out, List.take_length] at this
          simpa using this)
        go_wp2
        go_ret
        exact ⟨ret_bool HE.out.symm, _, rfl⟩
  · have hle : ((zs.length : Int) != (ys.length : Int)) = true := by simp; omega
    have HN : Hid (decide (zs = ys) = false) := Lib.hid (by simp; intro hc; exact hl (by rw [hc]))
    clear hl
    go_enter Try.func18, Try.ntmps18
    go_wp2
    go_ret
    exact ⟨ret_bool HN.out.symm, 0, rfl⟩

theorem info_int : (Try.prog.info? 3).map (fun i => (i.zero, i.size, i.bytes)) = some (some (.int .i64 0), 1, 8) := by kernel_rfl

theorem hasInts_of_owns {w : World} {B : Nat} {v : Value} {zs : List Int} (h : w.ownsRow B 3 1 v zs.length (zs.map (Value.int .i64))) : HasInts w v zs := by
  have h0 := h
  obtain ⟨_, h | ⟨g, cap, cur, rfl, _, _, hn, hc, _, _⟩⟩ := h
  · obtain ⟨rfl, hz⟩ := h
    exact ⟨none, 0, by rw [hz], by omega, Or.inl hz⟩
  · refine ⟨some ⟨g, 0, none⟩, cap, rfl, by unfold maxLen at hc; omega, Or.inr ⟨g, 0, rfl, fun j hj => ?_⟩⟩
    rw [Nat.zero_add, h0.cellAt j (by omega)]
    simp [List.getD, List.getElem?_eq_getElem hj]

/-- The threads below k in a mask. -/
def bitsL (m : Int) (k : Nat) : List Int := ((List.range k).filter (fun t : Nat => isIn m (t : Int))).map (fun t : Nat => (t : Int))
theorem bitsL_zero (m : Int) : bitsL m 0 = [] := rfl
theorem bitsL_hit {m : Int} {k : Nat} (h : isIn m k = true) : bitsL m (k + 1) = bitsL m k ++ [(k : Int)] := by
  simp [bitsL, List.range_succ, List.filter_append, h]
theorem bitsL_miss {m : Int} {k : Nat} (h : isIn m k = false) : bitsL m (k + 1) = bitsL m k := by
  simp [bitsL, List.range_succ, List.filter_append, h]
theorem bitsL_le (m : Int) (k : Nat) : (bitsL m k).length ≤ k := by
  unfold bitsL; rw [List.length_map]; exact Nat.le_trans (List.length_filter_le _ _) (by simp)

theorem append_cell {w : World} {v : Value} {T : TypeId} (j : Nat) (u : Value) (hj : [v][j]? = some u) : (w.alloc (.cells #[v] T)).cell? ((⟨w.heap.size, 0, none⟩ : Addr).add j) = some u := by
  match j, hj with
  | 0, hj =>
    simp at hj; subst hj
    simp [Addr.add, World.cell?_alloc_at]

set_option maxRecDepth 100000 in
theorem bits_any (m : Int) (w : World) : Calls Try.prog 5 #[.int .i64 m] w fun e w' => ∃ v, e = .returned v ∧ w'.ownsRow w.heap.size 3 1 v (bitsL m 62).length ((bitsL m 62).map (Value.int .i64)) ∧ Below w.heap.size w w' := by
  obtain ⟨i0, hi, hz0, hz1, hz2⟩ := info_parts info_int
  obtain ⟨B, hB⟩ : ∃ B, B = w.heap.size := ⟨_, rfl⟩
  rw [← hB]
  have HB := Lib.hid hB
  clear hB
  go_enter Try.func5, Try.ntmps5
  go_wp2
  go_loopw [3, 4] (fun v i wr => ∃ k : Nat, k ≤ 62 ∧ i = .int .i64 k ∧ wr.ownsRow B 3 1 v (bitsL m k).length ((bitsL m k).map (Value.int .i64)) ∧ Below B w wr) (fun _ i _ => 62 - (intOf i).toNat)
  case atStart => exact ⟨0, Nat.zero_le _, rfl, World.ownsRow_nil _ _ _ _, Below.refl _ _⟩
  case round =>
    obtain ⟨k, hk, rfl, hown, hb⟩ := hrel
    have hBr : B ≤ wr.heap.size := by have := hb.size; have := HB.out; omega
    by_cases hlt : k ≤ 61
    · cases hin : isIn m k
      · have HI := Lib.hid hin
        go_wp2_with (first | (go_at_call 6; refine (in_any _ _ _).mono ?_; rintro e w' ⟨rfl, rfl⟩))
        go_roundw
        case rel => exact ⟨k + 1, by omega, by go_num, by rw [bitsL_miss HI.out]; exact hown, hb⟩
        case measure => simp [intOf]; omega
      · have HI := Lib.hid hin
        have hle := bitsL_le m k
        go_wp2_with (first
          | (go_at_call 6; refine (in_any _ _ _).mono ?_; rintro e w' ⟨rfl, rfl⟩)
          | (at_builtin; refine wpList_append_own _ rfl _ _ 24 rfl B 3 i0 (.int .i64 0) 1 8 Try.underlying24 hi hz0 hz1 hz2 rfl (by decide) _ _ _ rfl (hown.alloc _) ⟨wr.heap.size, 0, none⟩ 1 1 [.int .i64 k] rfl rfl (fun j u hj => append_cell j u hj) (by intro u hu; simp at hu; subst hu; rfl) (by unfold maxLen; omega) (by omega) (by simp; omega) ?_; intro v' w1 hown' hgrow _))
        have R : w1.ownsRow B 3 1 v' (bitsL m (k + 1)).length ((bitsL m (k + 1)).map (Value.int .i64)) := by
          rw [bitsL_hit HI.out]; simpa using hown'
        have R2 : Below B w w1 := (hb.alloc hBr _).grown hgrow (by simp; omega) (fun j hj => (hown.lt j hj).1)
        clear hown' hgrow
        go_roundw
        case rel => exact ⟨k + 1, by omega, by go_num, R, R2⟩
        case measure => simp [intOf]; omega
    · obtain rfl : k = 62 := by omega
      go_wp2
      go_ret
      exact ⟨_, rfl, hown, hb⟩

end Go.Proofs.Ytlgfkodllacfdab
