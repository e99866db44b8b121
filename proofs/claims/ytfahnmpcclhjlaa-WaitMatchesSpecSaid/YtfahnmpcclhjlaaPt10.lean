/-
  Merged: RouA
-/
import Derived.Test.YtfahnmpcclhjlaaPt1
import Derived.LoopN
import Derived.Lib.Zigzag

/-
  Layer 21: the threads in a mask.
-/
namespace Go.Proofs.Ytfahnmpcclhjlaa
set_option linter.unusedVariables false
open Go.ChangeShapes Go.WideShapes Go.ChangeAt Go.RowKit
theorem has_any (m t : Int) (w : World) : Calls Try.prog 110 #[.int .i64 m, .int .i64 t] w fun e w' => e = .returned (.bool (isIn m t)) ∧ w = w' := by
  have HE := Lib.hid (and_pw m t)
  go_enter Try.func110, Try.ntmps110
  go_wp2_with (first | (go_at_call 119; refine (single_any _ _).mono ?_; rintro e w' ⟨rfl, rfl⟩))
  go_ret
  exact ⟨ret_bool HE.out, rfl⟩
theorem in_any (m t : Int) (w : World) : Calls Try.prog 98 #[.int .i64 m, .int .i64 t] w fun e w' => e = .returned (.bool (isIn m t)) ∧ w = w' := by
  go_enter Try.func98, Try.ntmps98
  go_wp2_with (first | (go_at_call 110; refine (has_any _ _ _).mono ?_; rintro e w' ⟨rfl, rfl⟩) | go_in)
  go_ret
  exact ⟨rfl, rfl⟩
/-- The threads below k in a mask. -/
def bitsL (m : Int) (k : Nat) : List Int := ((List.range k).filter (fun t : Nat => isIn m (t : Int))).map (fun t : Nat => (t : Int))
theorem bitsL_zero (m : Int) : bitsL m 0 = [] := rfl
theorem bitsL_hit {m : Int} {k : Nat} (h : isIn m k = true) : bitsL m (k + 1) = bitsL m k ++ [(k : Int)] := by
  simp [bitsL, List.range_succ, List.filter_append, h]
theorem bitsL_miss {m : Int} {k : Nat} (h : isIn m k = false) : bitsL m (k + 1) = bitsL m k := by
  simp [bitsL, List.range_succ, List.filter_append, h]
theorem bitsL_le (m : Int) (k : Nat) : (bitsL m k).length ≤ k := by
  unfold bitsL; rw [List.length_map]; exact Nat.le_trans (List.length_filter_le _ _) (by simp)

set_option maxRecDepth 100000 in
theorem bits_any (m : Int) (w : World) : Calls Try.prog 84 #[.int .i64 m] w fun e w' => ∃ v, e = .returned v ∧ w'.ownsRow w.heap.size 3 1 v (bitsL m 62).length ((bitsL m 62).map (Value.int .i64)) ∧ Below w.heap.size w w' := by
  obtain ⟨i0, hi, hz0, hz1, hz2⟩ := info_parts info_int
  obtain ⟨B, hB⟩ : ∃ B, B = w.heap.size := ⟨_, rfl⟩
  rw [← hB]
  have HB := Lib.hid hB
  clear hB
  go_enter Try.func84, Try.ntmps84
  go_wp2
  go_loopw [3, 4] (fun v i wr => ∃ k : Nat, k ≤ 62 ∧ i = .int .i64 k ∧ wr.ownsRow B 3 1 v (bitsL m k).length ((bitsL m k).map (Value.int .i64)) ∧ Below B w wr) (fun _ i _ => 62 - (intOf i).toNat)
  case atStart => exact ⟨0, Nat.zero_le _, rfl, World.ownsRow_nil _ _ _ _, Below.refl _ _⟩
  case round =>
    obtain ⟨k, hk, rfl, hown, hb⟩ := hrel
    have hBr : B ≤ wr.heap.size := by have := hb.size; have := HB.out; omega
    by_cases hlt : k ≤ 61
    · cases hin : isIn m k
      · have HI := Lib.hid hin
        go_wp2_with (first | (go_at_call 98; refine (in_any _ _ _).mono ?_; rintro e w' ⟨rfl, rfl⟩))
        go_roundw
        case rel => exact ⟨k + 1, by omega, by go_num, by rw [bitsL_miss HI.out]; exact hown, hb⟩
        case measure => simp [intOf]; omega
      · have HI := Lib.hid hin
        have hle := bitsL_le m k
        go_wp2_with (first
          | (go_at_call 98; refine (in_any _ _ _).mono ?_; rintro e w' ⟨rfl, rfl⟩)
          | (at_builtin; refine wpList_append_own _ rfl _ _ 30 rfl B 3 i0 (.int .i64 0) 1 8 Try.underlying30 hi hz0 hz1 hz2 rfl (by decide) _ _ _ rfl (hown.alloc _) ⟨wr.heap.size, 0, none⟩ 1 1 [.int .i64 k] rfl rfl (fun j u hj => append_cell j u hj) (by intro u hu; simp at hu; subst hu; rfl) (by unfold maxLen; omega) (by omega) (by simp; omega) ?_; intro v' w1 hown' hgrow _))
        have R : w1.ownsRow B 3 1 v' (bitsL m (k + 1)).length ((bitsL m (k + 1)).map (Value.int .i64)) := by
          rw [bitsL_hit HI.out]; simpa using hown'
        have R2 : Below B w w1 := (hb.alloc hBr _).grown hgrow (by simp; omega) (fun j hj => (hown.lt j hj).1)
        clear hown' hgrow
        go_roundw
        case rel => exact ⟨k + 1, by omega, by go_num, R, R2⟩
        case measure => simp [intOf]; omega
    · obtain rfl : k = 62 := by omega
      go_wp2
      go_ret
      exact ⟨_, rfl, hown, hb⟩

end Go.Proofs.Ytfahnmpcclhjlaa
