
/-
  Layer 2: when two memories, and two lists of results, are the same.
-/
import Derived.Test.YtaclnaedinfhmaaRows
import Derived.Test.YtaclnaedinfhmaaBase
namespace Go.Proofs.Ytaclnaedinfhmaa
open Go.ChangeShapes Go.WideShapes Go.ChangeAt Go.RowKit

set_option maxRecDepth 100000 in
theorem equal_any (v u : Value) (zs ys : List Int) (w : World) (hv : HasInts w v zs) (hu : HasInts w u ys) : Calls Try.prog 53 #[v, u] w fun e w' => e = .returned (.bool (decide (zs = ys))) ∧ ∃ n, w' = w.drewN n := by
  obtain ⟨a, cap, rfl, hlz, hca⟩ := hv
  obtain ⟨a', cap', rfl, hly, hcb⟩ := hu
  by_cases hl : zs.length = ys.length
  · have hle : ((zs.length : Int) != (ys.length : Int)) = false := by simp [hl]
    have HL := Lib.hid hl
    clear hl
    go_enter Try.func53, Try.ntmps53
    go_wp2
    go_loopw [13] (fun i wr => ∃ k n : Nat, k ≤ zs.length ∧ i = .int .i64 k ∧ wr = w.drewN n ∧ Hid (zs.take k = ys.take k)) (fun i _ => zs.length - (intOf i).toNat)
    case atStart => exact ⟨0, 0, Nat.zero_le _, rfl, rfl, Lib.hid (by simp)⟩
    case round =>
      obtain ⟨k, n, hk, rfl, rfl, ht⟩ := hrel
      by_cases hlt : k < zs.length
      · rcases hca with hca | ⟨b, o, rfl, hc⟩
        · omega
        rcases hcb with hcb | ⟨b', o', rfl, hc'⟩
        · have := HL.out; omega
        have hlt' : k < ys.length := by have := HL.out; omega
        have h1 := hc k hlt
        have h2 := hc' k hlt'
        clear hc hc'
        obtain ⟨x, hx⟩ : ∃ x, x = zs.getD k 0 := ⟨_, rfl⟩
        obtain ⟨y, hy⟩ : ∃ y, y = ys.getD k 0 := ⟨_, rfl⟩
        rw [← hx] at h1
        rw [← hy] at h2
        have HX := Lib.hid hx
        have HY := Lib.hid hy
        clear hx hy
        by_cases he : x = y
        · have he' : (x != y) = false := by simp [he]
          have HE := Lib.hid he
          clear he
          go_wp2
          go_quiet (fail)
          go_wp2
          go_roundw
          case rel => exact ⟨k + 1, n + nq, by omega, by go_num, rfl, Lib.hid (take_succ_eq ht.out hlt hlt' (by rw [← HX.out, ← HY.out]; exact HE.out))⟩
          case measure => simp [intOf]; omega
        · have he' : (x != y) = true := by simp [he]
          have HE : Hid (decide (zs = ys) = false) := Lib.hid (by
            simp only [decide_eq_false_iff_not]; intro hc; apply he; rw [HX.out, HY.out, hc])
          clear he
          go_wp2
          go_quiet (fail)
          go_wp2
          go_ret
          exact ⟨ret_bool HE.out.symm, n + nq, World.drewN_drewN ..⟩
      · obtain rfl : k = zs.length := by omega
        have HE : Hid (decide (zs = ys) = true) := Lib.hid (by
          have := ht.out
          rw [List.take_length, HL.out, List.take_length] at this
          simpa using this)
        go_wp2
        go_ret
        exact ⟨ret_bool HE.out.symm, _, rfl⟩
  · have hle : ((zs.length : Int) != (ys.length : Int)) = true := by simp; omega
    have HN : Hid (decide (zs = ys) = false) := Lib.hid (by simp; intro hc; exact hl (by rw [hc]))
    clear hl
    go_enter Try.func53, Try.ntmps53
    go_wp2
    go_ret
    exact ⟨ret_bool HN.out.symm, 0, rfl⟩

theorem same_any (v u : Value) (zs ys : List Int) (w : World) (hv : HasInts w v zs) (hu : HasInts w u ys) : Calls Try.prog 26 #[.agg #[v], .agg #[u]] w fun e w' => e = .returned (.bool (decide (zs = ys))) ∧ Below w.heap.size w w' := by
  have HV := Lib.hid hv
  have HU := Lib.hid hu
  obtain ⟨a, cap, rfl, _, _⟩ := hv
  obtain ⟨a', cap', rfl, _, _⟩ := hu
  go_enter Try.func26, Try.ntmps26
  go_wp2_with (first
    | (go_at_call 53; refine (equal_any _ _ zs ys _ (hasInts_keep HV.out (by repeat (first | with_reducible exact Below.refl _ _ | with_reducible refine Below.alloc ?_ (by first | omega | (simp; omega) | simp) _))) (hasInts_keep HU.out (by repeat (first | with_reducible exact Below.refl _ _ | with_reducible refine Below.alloc ?_ (by first | omega | (simp; omega) | simp) _)))).mono ?_; rintro e w' ⟨rfl, n, rfl⟩))
  go_ret
  exact ⟨rfl, below_drewN (((Below.refl _ _).alloc (Nat.le_refl _) _).alloc (by simp) _) n⟩

theorem res_struct : Try.prog.underlying 85 = some (.struct (Try.prog.fieldsOf 85)) := by kernel_rfl
theorem res_held : Try.prog.stoodInHeld 85 = false := by kernel_rfl
theorem res_guard : Try.prog.eqGuardType Try.prog.depth 85 = false := by kernel_rfl
theorem res_neq (a b : Int) (p q : Bool) (w : World) : (binOp .neq 85 (.agg #[.int .i64 a, .bool p]) (.agg #[.int .i64 b, .bool q])).run Try.prog w = .ok (.bool (!((a == b) && (p == q)))) w := by
  rw [run_neq_struct, show (10000 : Nat) = 9999 + 1 from rfl, run_equalIn_agg w 9999 85 _ _ res_struct res_held]
  have u3 := Try.underlying3
  have a3 := Try.isAgg3
  have z3 := Try.sizeOf3
  have u4 := Try.underlying4
  have a4 := Try.isAgg4
  have z4 := Try.sizeOf4
  simp only [Program.fieldsOf, Try.underlying85]
  go_simp
  by_cases h1 : a = b <;> cases p <;> cases q <;> simp [h1]
theorem res_eql (a b : Int) (p q : Bool) (w : World) : (binOp .eql 85 (.agg #[.int .i64 a, .bool p]) (.agg #[.int .i64 b, .bool q])).run Try.prog w = .ok (.bool ((a == b) && (p == q))) w := by
  rw [run_eql_struct, show (10000 : Nat) = 9999 + 1 from rfl, run_equalIn_agg w 9999 85 _ _ res_struct res_held]
  have u3 := Try.underlying3
  have a3 := Try.isAgg3
  have z3 := Try.sizeOf3
  have u4 := Try.underlying4
  have a4 := Try.isAgg4
  have z4 := Try.sizeOf4
  simp only [Program.fieldsOf, Try.underlying85]
  go_simp
  by_cases h1 : a = b <;> cases p <;> cases q <;> simp [h1]

/-- The slice value v holds these results, two cells each. -/
def HasRes (w : World) (v : Value) (rs : List (Int × Bool)) : Prop :=
  ∃ a cap, v = .slice a rs.length cap ∧ rs.length ≤ 9223372036854775807 ∧ (rs.length = 0 ∨ ∃ b o, a = some ⟨b, o, none⟩ ∧ ∀ j, j < rs.length → w.cell? ⟨b, o + j * 2, none⟩ = some (.int .i64 (rs.getD j (0, false)).1) ∧ w.cell? ⟨b, o + j * 2 + 1, none⟩ = some (.bool (rs.getD j (0, false)).2))

theorem take_succ_res {zs ys : List (Int × Bool)} {k : Nat} (h : zs.take k = ys.take k) (hz : k < zs.length) (hy : k < ys.length) (he : zs.getD k (0, false) = ys.getD k (0, false)) : zs.take (k + 1) = ys.take (k + 1) := by
  rw [List.take_succ_eq_append_getElem hz, List.take_succ_eq_append_getElem hy, h]
  simp [List.getD, List.getElem?_eq_getElem hz, List.getElem?_eq_getElem hy] at he
  rw [he]

end Go.Proofs.Ytaclnaedinfhmaa
