/-
  What each function of the reference of layer 1 returns: the same values as the program's own functions.
-/
import Derived.Test.YtlgfkodllacfdaaRows
import Derived.Test.YtlgfkodllacfdaaWordPlain
import Derived.Test.YtlgfkodllacfdaaWordWalks
import Derived.WalkKit
import Derived.ProofKit
import Derived.OpenShut
import Derived.Lib.Hide
import Derived.Deep.QuietTactic
import Derived.BigQuiet
namespace Go.Proofs.Ytlgfkodllacfdaa
open Go.ChangeShapes Go.WideShapes Go.ChangeAt Go.RowKit

theorem down_lo {a : Int} (h : I64 a) {n : Nat} (hn : n ≤ 61) : -9223372036854775808 ≤ a - a % 2 ^ n := by
  obtain ⟨h1, h2⟩ := h
  have hp := pow_pos' n
  have e : (-9223372036854775808 : Int) = 2 ^ n * (-(2 ^ (63 - n))) := by
    have h2 : (2 : Int) ^ n * (-(2 ^ (63 - n))) = - 2 ^ (n + (63 - n)) := by rw [Int.pow_add, Int.mul_neg]
    have : n + (63 - n) = 63 := by omega
    rw [h2, this]; decide
  have hq : -(2 ^ (63 - n)) ≤ a / 2 ^ n := by
    have : (-9223372036854775808) / 2 ^ n ≤ a / 2 ^ n := Int.ediv_le_ediv hp h1
    have e2 : (-9223372036854775808 : Int) / 2 ^ n = -(2 ^ (63 - n)) := by
      rw [e, Int.mul_ediv_cancel_left _ (by omega)]
    omega
  have hm := Int.mul_ediv_add_emod a (2 ^ n)
  have hmul : 2 ^ n * (-(2 ^ (63 - n))) ≤ 2 ^ n * (a / 2 ^ n) := Int.mul_le_mul_of_nonneg_left hq (by omega)
  omega

theorem down_any (a n : Int) (ha : I64 a) (hn : 0 < n) (h : n ≤ 2305843009213693952) (hlo : -9223372036854775808 ≤ a - a % n) (w : World) : Calls Try.prog 39 #[.int .i64 a, .int .i64 n] w fun e w' => e = .returned (.int .i64 (a / n)) ∧ w = w' := by
  obtain ⟨h1, h2⟩ := ha
  have hz : (n == 0) = false := by simp; omega
  have hm0 := Int.emod_nonneg a (show n ≠ 0 by omega)
  have hd : (a - a % n).tdiv n = a / n := by
    rw [Int.tdiv_eq_ediv_of_dvd (Int.dvd_self_sub_emod)]
    have hm := Int.mul_ediv_add_emod a n
    have : a - a % n = n * (a / n) := by omega
    rw [this, Int.mul_ediv_cancel_left _ (by omega)]
  have HD : Hid ((a - a % n).tdiv n = a / n) := Lib.hid hd
  have hb1 : a - a % n ≤ 9223372036854775807 := by omega
  have hr : n ≠ -1 := by omega
  have HW : Hid (wrap64 ((a - a % n).tdiv n) = a / n) := Lib.hid (by
    rw [hd]
    refine wrap64_id ⟨?_, ?_⟩
    · have h3 : a / n ≥ 0 ∨ a / n < 0 := by omega
      rcases h3 with h3 | h3
      · omega
      · have : n * (a / n) ≤ 1 * (a / n) := Int.mul_le_mul_of_nonpos_right (by omega) (by omega)
        have hm := Int.mul_ediv_add_emod a n
        omega
    · have h3 : a / n ≤ 0 ∨ 0 < a / n := by omega
      rcases h3 with h3 | h3
      · omega
      · have : 1 * (a / n) ≤ n * (a / n) := Int.mul_le_mul_of_nonneg_right (by omega) (by omega)
        have hm := Int.mul_ediv_add_emod a n
        omega)
  clear hd
  go_enter Try.func39, Try.ntmps39
  go_wp2_with (first | (go_at_call 37; refine (mod_any _ _ hn h _).mono ?_; rintro e w' ⟨rfl, rfl⟩))
  go_ret
  first | exact ⟨ret_int HD.out, rfl⟩ | exact ⟨ret_int HW.out, rfl⟩

theorem rfree_any (a : Int) (w : World) : Calls Try.prog 11 #[.int .i64 a] w fun e w' => e = .returned (.int .i64 (wrap64 (2 * a))) ∧ w = w' := by
  go_enter Try.func11, Try.ntmps11
  go_wp2
  go_ret
  exact ⟨rfl, rfl⟩
theorem rheld_any (a : Int) (w : World) : Calls Try.prog 13 #[.int .i64 a] w fun e w' => e = .returned (.int .i64 (wrap64 (2 * a + 1))) ∧ w = w' := by
  go_enter Try.func13, Try.ntmps13
  go_wp2
  go_ret
  refine ⟨ret_int ?_, rfl⟩
  unfold wrap64; omega
theorem rlocked_any (a : Int) (w : World) : Calls Try.prog 15 #[.int .i64 a] w fun e w' => e = .returned (.bool (decide (a % 2 = 1))) ∧ w = w' := by
  go_enter Try.func15, Try.ntmps15
  go_wp2_with (first | (go_at_call 37; refine (mod_any _ _ (by decide) (by decide) _).mono ?_; rintro e w' ⟨rfl, rfl⟩))
  go_ret
  exact ⟨ret_bool (by rfl), rfl⟩
theorem rver_any (a : Int) (ha : I64 a) (w : World) : Calls Try.prog 17 #[.int .i64 a] w fun e w' => e = .returned (.int .i64 (a / 2)) ∧ w = w' := by
  have hl := Lib.hid (show -9223372036854775808 ≤ a - a % 2 by unfold I64 at ha; omega)
  have HA := Lib.hid ha
  clear ha
  go_enter Try.func17, Try.ntmps17
  go_wp2_with (first | (go_at_call 39; refine (down_any _ _ HA.out (by decide) (by decide) hl.out _).mono ?_; rintro e w' ⟨rfl, rfl⟩))
  go_ret
  exact ⟨rfl, rfl⟩
theorem rwho_any (a : Int) (ha : I64 a) (w : World) : Calls Try.prog 19 #[.int .i64 a] w fun e w' => e = .returned (.int .i64 (a / 2)) ∧ w = w' := by
  have hl := Lib.hid (show -9223372036854775808 ≤ a - a % 2 by unfold I64 at ha; omega)
  have HA := Lib.hid ha
  clear ha
  go_enter Try.func19, Try.ntmps19
  go_wp2_with (first | (go_at_call 39; refine (down_any _ _ HA.out (by decide) (by decide) hl.out _).mono ?_; rintro e w' ⟨rfl, rfl⟩))
  go_ret
  exact ⟨rfl, rfl⟩
theorem rstatus_any (t k : Int) (w : World) : Calls Try.prog 21 #[.int .i64 t, .int .i64 k] w fun e w' => e = .returned (.int .i64 (wrap64 (4 * t + k % 4))) ∧ w = w' := by
  go_enter Try.func21, Try.ntmps21
  go_wp2_with (first | (go_at_call 37; refine (mod_any _ _ (by decide) (by decide) _).mono ?_; rintro e w' ⟨rfl, rfl⟩))
  go_ret
  refine ⟨ret_int ?_, rfl⟩
  unfold wrap64; omega
theorem rtry_any (a : Int) (ha : I64 a) (w : World) : Calls Try.prog 23 #[.int .i64 a] w fun e w' => e = .returned (.int .i64 (a / 4)) ∧ w = w' := by
  have hl := Lib.hid (show -9223372036854775808 ≤ a - a % 4 by unfold I64 at ha; omega)
  have HA := Lib.hid ha
  clear ha
  go_enter Try.func23, Try.ntmps23
  go_wp2_with (first | (go_at_call 39; refine (down_any _ _ HA.out (by decide) (by decide) hl.out _).mono ?_; rintro e w' ⟨rfl, rfl⟩))
  go_ret
  exact ⟨rfl, rfl⟩
theorem rkind_any (a : Int) (w : World) : Calls Try.prog 25 #[.int .i64 a] w fun e w' => e = .returned (.int .i64 (a % 4)) ∧ w = w' := by
  go_enter Try.func25, Try.ntmps25
  go_wp2_with (first | (go_at_call 37; refine (mod_any _ _ (by decide) (by decide) _).mono ?_; rintro e w' ⟨rfl, rfl⟩))
  go_ret
  exact ⟨rfl, rfl⟩

theorem rbit_any (t : Int) (w : World) : Calls Try.prog 27 #[.int .i64 t] w fun e w' => e = .returned (.int .i64 (pw t)) ∧ w = w' := by
  by_cases h : 0 ≤ t ∧ t ≤ 61
  · obtain ⟨n, rfl⟩ := Int.eq_ofNat_of_zero_le h.1
    have ht : n ≤ 61 := by omega
    have HE := Lib.hid (pw_in ht)
    clear h
    go_enter Try.func27, Try.ntmps27
    go_wp2
    go_loop [3, 4] (fun p i => ∃ k : Nat, k ≤ n ∧ i = .int .i64 k ∧ p = .int .i64 (2 ^ k)) (fun _ i => n - (intOf i).toNat)
    case atStart => exact ⟨0, Nat.zero_le _, rfl, rfl⟩
    case round =>
      obtain ⟨k, hk, rfl, rfl⟩ := hrel
      have hp := pow_le61 (show k ≤ 61 by omega)
      have hp0 := pow_pos' k
      by_cases hlt : k < n
      · go_wp2
        go_round
        case rel => exact ⟨k + 1, by omega, by go_num, by rw [Int.pow_succ, Int.mul_comm]⟩
        case measure => simp [intOf]; omega
      · obtain rfl : k = n := by omega
        go_wp2
        go_ret
        exact ⟨ret_int HE.out.symm, rfl⟩
  · have HE := Lib.hid (pw_out h)
    by_cases h0 : t < 0
    · go_enter Try.func27, Try.ntmps27
      go_wp2
      go_ret
      exact ⟨ret_int HE.out.symm, rfl⟩
    · have h1 : 61 < t := by omega
      have h2 : 0 ≤ t := by omega
      clear h h0
      go_enter Try.func27, Try.ntmps27
      go_wp2
      go_ret
      exact ⟨ret_int HE.out.symm, rfl⟩

theorem rin_any (m t : Int) (hm : I64 m) (w : World) : Calls Try.prog 29 #[.int .i64 m, .int .i64 t] w fun e w' => e = .returned (.bool (isIn m t)) ∧ w = w' := by
  by_cases h : 0 ≤ t ∧ t ≤ 61
  · obtain ⟨n, rfl⟩ := Int.eq_ofNat_of_zero_le h.1
    have ht : n ≤ 61 := by omega
    have HE := Lib.hid (isIn_in m ht)
    have hp := pow_le61 ht
    have hp0 := pow_pos' n
    have HP := Lib.hid (pw_in ht)
    have hpp : 0 < pw n := by rw [pw_in ht]; exact hp0
    have hpl : pw n ≤ 2305843009213693952 := by rw [pw_in ht]; exact hp
    have HL : Hid (-9223372036854775808 ≤ m - m % pw n) := Lib.hid (by rw [pw_in ht]; exact down_lo hm ht)
    have HM := Lib.hid hm
    clear h hm
    go_enter Try.func29, Try.ntmps29
    go_wp2_with (first | (go_at_call 27; refine (rbit_any _ _).mono ?_; rintro e w' ⟨rfl, rfl⟩) | (go_at_call 39; refine (down_any _ _ HM.out hpp hpl HL.out _).mono ?_; rintro e w' ⟨rfl, rfl⟩) | (go_at_call 37; refine (mod_any _ _ (by decide) (by decide) _).mono ?_; rintro e w' ⟨rfl, rfl⟩))
    go_ret
    refine ⟨ret_bool ?_, rfl⟩
    rw [HE.out, HP.out]
    rfl
  · have HE := Lib.hid (isIn_out m h)
    have HP := Lib.hid (pw_out h)
    clear h
    go_enter Try.func29, Try.ntmps29
    go_wp2_with (first | (go_at_call 27; refine (rbit_any _ _).mono ?_; rw [HP.out]; rintro e w' ⟨rfl, rfl⟩))
    go_ret
    exact ⟨ret_bool HE.out.symm, rfl⟩

theorem rwith_any (m t : Int) (hm : I64 m) (w : World) : Calls Try.prog 31 #[.int .i64 m, .int .i64 t] w fun e w' => e = .returned (.int .i64 (withT m t)) ∧ w = w' := by
  have HM := Lib.hid hm
  have HV : Hid (I64 (withT m t)) := Lib.hid (by rw [← or_pw hm t, bits_i64]; exact i64_wrap64 _)
  clear hm
  cases hb : isIn m t
  · have HW : Hid (withT m t = m + pw t) := Lib.hid (by unfold withT; rw [hb]; rfl)
    have hb1 : -9223372036854775808 ≤ m + pw t := by have := HV.out; rw [HW.out] at this; exact this.1
    have hb2 : m + pw t ≤ 9223372036854775807 := by have := HV.out; rw [HW.out] at this; exact this.2
    go_enter Try.func31, Try.ntmps31
    go_wp2_with (first | (go_at_call 29; refine (rin_any _ _ HM.out _).mono ?_; rintro e w' ⟨rfl, rfl⟩) | (go_at_call 27; refine (rbit_any _ _).mono ?_; rintro e w' ⟨rfl, rfl⟩))
    go_ret
    exact ⟨ret_int HW.out.symm, rfl⟩
  · have HW : Hid (withT m t = m) := Lib.hid (by unfold withT; rw [hb]; rfl)
    go_enter Try.func31, Try.ntmps31
    go_wp2_with (first | (go_at_call 29; refine (rin_any _ _ HM.out _).mono ?_; rintro e w' ⟨rfl, rfl⟩) | (go_at_call 27; refine (rbit_any _ _).mono ?_; rintro e w' ⟨rfl, rfl⟩))
    go_ret
    exact ⟨ret_int HW.out.symm, rfl⟩

theorem rwithout_any (m t : Int) (hm : I64 m) (w : World) : Calls Try.prog 33 #[.int .i64 m, .int .i64 t] w fun e w' => e = .returned (.int .i64 (sansT m t)) ∧ w = w' := by
  have HM := Lib.hid hm
  have HV : Hid (I64 (sansT m t)) := Lib.hid (by rw [← andNot_pw hm t, bits_i64]; exact i64_wrap64 _)
  clear hm
  cases hb : isIn m t
  · have HW : Hid (sansT m t = m) := Lib.hid (by unfold sansT; rw [hb]; rfl)
    go_enter Try.func33, Try.ntmps33
    go_wp2_with (first | (go_at_call 29; refine (rin_any _ _ HM.out _).mono ?_; rintro e w' ⟨rfl, rfl⟩) | (go_at_call 27; refine (rbit_any _ _).mono ?_; rintro e w' ⟨rfl, rfl⟩))
    go_ret
    exact ⟨ret_int HW.out.symm, rfl⟩
  · have HW : Hid (sansT m t = m - pw t) := Lib.hid (by unfold sansT; rw [hb]; rfl)
    have hb1 : -9223372036854775808 ≤ m - pw t := by have := HV.out; rw [HW.out] at this; exact this.1
    have hb2 : m - pw t ≤ 9223372036854775807 := by have := HV.out; rw [HW.out] at this; exact this.2
    go_enter Try.func33, Try.ntmps33
    go_wp2_with (first | (go_at_call 29; refine (rin_any _ _ HM.out _).mono ?_; rintro e w' ⟨rfl, rfl⟩) | (go_at_call 27; refine (rbit_any _ _).mono ?_; rintro e w' ⟨rfl, rfl⟩))
    go_ret
    exact ⟨ret_int HW.out.symm, rfl⟩

/-- The slice value v holds these integers. -/
def HasInts (w : World) (v : Value) (zs : List Int) : Prop :=
  ∃ a cap, v = .slice a zs.length cap ∧ zs.length ≤ 9223372036854775807 ∧ (zs.length = 0 ∨ ∃ b o, a = some ⟨b, o, none⟩ ∧ ∀ j, j < zs.length → w.cell? ⟨b, o + j, none⟩ = some (.int .i64 (zs.getD j 0)))

theorem take_succ_eq {zs ys : List Int} {k : Nat} (h : zs.take k = ys.take k) (hz : k < zs.length) (hy : k < ys.length) (he : zs.getD k 0 = ys.getD k 0) : zs.take (k + 1) = ys.take (k + 1) := by
  rw [List.take_succ_eq_append_getElem hz, List.take_succ_eq_append_getElem hy, h]
  simp [List.getD, List.getElem?_eq_getElem hz, List.getElem?_eq_getElem hy] at he
  rw [he]

set_option maxRecDepth 100000 in
theorem ints_any (v u : Value) (zs ys : List Int) (w : World) (hv : HasInts w v zs) (hu : HasInts w u ys) : Calls Try.prog 34 #[v, u] w fun e w' => e = .returned (.bool (decide (zs = ys))) ∧ ∃ n, w' = w.drewN n := by
  obtain ⟨a, cap, rfl, hlz, hca⟩ := hv
  obtain ⟨a', cap', rfl, hly, hcb⟩ := hu
  by_cases hl : zs.length = ys.length
  · have hle : ((zs.length : Int) != (ys.length : Int)) = false := by simp [hl]
    have HL := Lib.hid hl
    clear hl
    go_enter Try.func34, Try.ntmps34
    go_wp2
    go_loopw [5] (fun i wr => ∃ k n : Nat, k ≤ zs.length ∧ i = .int .i64 k ∧ wr = w.drewN n ∧ Hid (zs.take k = ys.take k)) (fun i _ => zs.length - (intOf i).toNat)
    case atStart => exact ⟨0, 0, Nat.zero_le _, rfl, rfl, Lib.hid (by simp)⟩
    case round =>
      obtain ⟨k, n, hk, rfl, rfl, ht⟩ := hrel
      by_cases hlt : k < zs.length
      · rcases hca with hca | ⟨b, o, rfl, hc⟩
        · omega
        rcases hcb with hcb | ⟨b', o', rfl, hc'⟩
        · have := HL.out; omega
        have hlt' : k < ys.length := by have := HL.out; omega
        have h1 := hc k hlt
        have h2 := hc' k hlt'
        clear hc hc'
        obtain ⟨x, hx⟩ : ∃ x, x = zs.getD k 0 := ⟨_, rfl⟩
        obtain ⟨y, hy⟩ : ∃ y, y = ys.getD k 0 := ⟨_, rfl⟩
        rw [← hx] at h1
        rw [← hy] at h2
        have HX := Lib.hid hx
        have HY := Lib.hid hy
        clear hx hy
        by_cases he : x = y
        · have he' : (x != y) = false := by simp [he]
          have HE := Lib.hid he
          clear he
          go_wp2
          go_quiet (fail)
          go_wp2
          go_roundw
          case rel => exact ⟨k + 1, n + nq, by omega, by go_num, rfl, Lib.hid (take_succ_eq ht.out hlt hlt' (by rw [← HX.out, ← HY.out]; exact HE.out))⟩
          case measure => simp [intOf]; omega
        · have he' : (x != y) = true := by simp [he]
          have HE : Hid (decide (zs = ys) = false) := Lib.hid (by
            simp only [decide_eq_false_iff_not]; intro hc; apply he; rw [HX.out, HY.out, hc])
          clear he
          go_wp2
          go_quiet (fail)
          go_wp2
          go_ret
          exact ⟨ret_bool HE.out.symm, n + nq, World.drewN_drewN ..⟩
      · obtain rfl : k = zs.length := by omega
        have HE : Hid (decide (zs = ys) = true) := Lib.hid (by
          have := ht.out
          rw [List.take_length, HL.out, List.take_length] at this
          simpa using this)
        go_wp2
        go_ret
        exact ⟨ret_bool HE.out.symm, _, rfl⟩
  · have hle : ((zs.length : Int) != (ys.length : Int)) = true := by simp; omega
    have HN : Hid (decide (zs = ys) = false) := Lib.hid (by simp; intro hc; exact hl (by rw [hc]))
    clear hl
    go_enter Try.func34, Try.ntmps34
    go_wp2
    go_ret
    exact ⟨ret_bool HN.out.symm, 0, rfl⟩

theorem info_int : (Try.prog.info? 3).map (fun i => (i.zero, i.size, i.bytes)) = some (some (.int .i64 0), 1, 8) := by kernel_rfl

theorem hasInts_of_owns {w : World} {B : Nat} {v : Value} {zs : List Int} (h : w.ownsRow B 3 1 v zs.length (zs.map (Value.int .i64))) : HasInts w v zs := by
  have h0 := h
  obtain ⟨_, h | ⟨g, cap, cur, rfl, _, _, hn, hc, _, _⟩⟩ := h
  · obtain ⟨rfl, hz⟩ := h
    exact ⟨none, 0, by rw [hz], by omega, Or.inl hz⟩
  · refine ⟨some ⟨g, 0, none⟩, cap, rfl, by unfold maxLen at hc; omega, Or.inr ⟨g, 0, rfl, fun j hj => ?_⟩⟩
    rw [Nat.zero_add, h0.cellAt j (by omega)]
    simp [List.getD, List.getElem?_eq_getElem hj]

/-- The threads below k in a mask. -/
def bitsL (m : Int) (k : Nat) : List Int := ((List.range k).filter (fun t : Nat => isIn m (t : Int))).map (fun t : Nat => (t : Int))
theorem bitsL_zero (m : Int) : bitsL m 0 = [] := rfl
theorem bitsL_hit {m : Int} {k : Nat} (h : isIn m k = true) : bitsL m (k + 1) = bitsL m k ++ [(k : Int)] := by
  simp [bitsL, List.range_succ, List.filter_append, h]
theorem bitsL_miss {m : Int} {k : Nat} (h : isIn m k = false) : bitsL m (k + 1) = bitsL m k := by
  simp [bitsL, List.range_succ, List.filter_append, h]
theorem bitsL_le (m : Int) (k : Nat) : (bitsL m k).length ≤ k := by
  unfold bitsL; rw [List.length_map]; exact Nat.le_trans (List.length_filter_le _ _) (by simp)

theorem append_cell {w : World} {v : Value} {T : TypeId} (j : Nat) (u : Value) (hj : [v][j]? = some u) : (w.alloc (.cells #[v] T)).cell? ((⟨w.heap.size, 0, none⟩ : Addr).add j) = some u := by
  match j, hj with
  | 0, hj =>
    simp at hj; subst hj
    simp [Addr.add, World.cell?_alloc_at]

set_option maxRecDepth 100000 in
theorem bits_any (m : Int) (w : World) : Calls Try.prog 35 #[.int .i64 m] w fun e w' => ∃ v, e = .returned v ∧ w'.ownsRow w.heap.size 3 1 v (bitsL m 62).length ((bitsL m 62).map (Value.int .i64)) ∧ Below w.heap.size w w' := by
  obtain ⟨i0, hi, hz0, hz1, hz2⟩ := info_parts info_int
  obtain ⟨B, hB⟩ : ∃ B, B = w.heap.size := ⟨_, rfl⟩
  rw [← hB]
  have HB := Lib.hid hB
  clear hB
  go_enter Try.func35, Try.ntmps35
  go_wp2
  go_loopw [3, 4] (fun v i wr => ∃ k : Nat, k ≤ 62 ∧ i = .int .i64 k ∧ wr.ownsRow B 3 1 v (bitsL m k).length ((bitsL m k).map (Value.int .i64)) ∧ Below B w wr) (fun _ i _ => 62 - (intOf i).toNat)
  case atStart => exact ⟨0, Nat.zero_le _, rfl, World.ownsRow_nil _ _ _ _, Below.refl _ _⟩
  case round =>
    obtain ⟨k, hk, rfl, hown, hb⟩ := hrel
    have hBr : B ≤ wr.heap.size := by have := hb.size; have := HB.out; omega
    by_cases hlt : k ≤ 61
    · cases hin : isIn m k
      · have HI := Lib.hid hin
        go_wp2_with (first | (go_at_call 28; refine (in_any _ _ _).mono ?_; rintro e w' ⟨rfl, rfl⟩))
        go_roundw
        case rel => exact ⟨k + 1, by omega, by go_num, by rw [bitsL_miss HI.out]; exact hown, hb⟩
        case measure => simp [intOf]; omega
      · have HI := Lib.hid hin
        have hle := bitsL_le m k
        go_wp2_with (first
          | (go_at_call 28; refine (in_any _ _ _).mono ?_; rintro e w' ⟨rfl, rfl⟩)
          | (at_builtin; refine wpList_append_own _ rfl _ _ 28 rfl B 3 i0 (.int .i64 0) 1 8 Try.underlying28 hi hz0 hz1 hz2 rfl (by decide) _ _ _ rfl (hown.alloc _) ⟨wr.heap.size, 0, none⟩ 1 1 [.int .i64 k] rfl rfl (fun j u hj => append_cell j u hj) (by intro u hu; simp at hu; subst hu; rfl) (by unfold maxLen; omega) (by omega) (by simp; omega) ?_; intro v' w1 hown' hgrow _))
        have R : w1.ownsRow B 3 1 v' (bitsL m (k + 1)).length ((bitsL m (k + 1)).map (Value.int .i64)) := by
          rw [bitsL_hit HI.out]; simpa using hown'
        have R2 : Below B w w1 := (hb.alloc hBr _).grown hgrow (by simp; omega) (fun j hj => (hown.lt j hj).1)
        clear hown' hgrow
        go_roundw
        case rel => exact ⟨k + 1, by omega, by go_num, R, R2⟩
        case measure => simp [intOf]; omega
    · obtain rfl : k = 62 := by omega
      go_wp2
      go_ret
      exact ⟨_, rfl, hown, hb⟩

set_option maxRecDepth 100000 in
theorem rbits_any (m : Int) (hm : I64 m) (w : World) : Calls Try.prog 36 #[.int .i64 m] w fun e w' => ∃ v, e = .returned v ∧ w'.ownsRow w.heap.size 3 1 v (bitsL m 62).length ((bitsL m 62).map (Value.int .i64)) ∧ Below w.heap.size w w' := by
  obtain ⟨i0, hi, hz0, hz1, hz2⟩ := info_parts info_int
  obtain ⟨B, hB⟩ : ∃ B, B = w.heap.size := ⟨_, rfl⟩
  rw [← hB]
  have HB := Lib.hid hB
  have HM := Lib.hid hm
  clear hB hm
  go_enter Try.func36, Try.ntmps36
  go_wp2
  go_loopw [3, 4] (fun v i wr => ∃ k : Nat, k ≤ 62 ∧ i = .int .i64 k ∧ wr.ownsRow B 3 1 v (bitsL m k).length ((bitsL m k).map (Value.int .i64)) ∧ Below B w wr) (fun _ i _ => 62 - (intOf i).toNat)
  case atStart => exact ⟨0, Nat.zero_le _, rfl, World.ownsRow_nil _ _ _ _, Below.refl _ _⟩
  case round =>
    obtain ⟨k, hk, rfl, hown, hb⟩ := hrel
    have hBr : B ≤ wr.heap.size := by have := hb.size; have := HB.out; omega
    by_cases hlt : k ≤ 61
    · cases hin : isIn m k
      · have HI := Lib.hid hin
        go_wp2_with (first | (go_at_call 29; refine (rin_any _ _ HM.out _).mono ?_; rintro e w' ⟨rfl, rfl⟩))
        go_roundw
        case rel => exact ⟨k + 1, by omega, by go_num, by rw [bitsL_miss HI.out]; exact hown, hb⟩
        case measure => simp [intOf]; omega
      · have HI := Lib.hid hin
        have hle := bitsL_le m k
        go_wp2_with (first
          | (go_at_call 29; refine (rin_any _ _ HM.out _).mono ?_; rintro e w' ⟨rfl, rfl⟩)
          | (at_builtin; refine wpList_append_own _ rfl _ _ 28 rfl B 3 i0 (.int .i64 0) 1 8 Try.underlying28 hi hz0 hz1 hz2 rfl (by decide) _ _ _ rfl (hown.alloc _) ⟨wr.heap.size, 0, none⟩ 1 1 [.int .i64 k] rfl rfl (fun j u hj => append_cell j u hj) (by intro u hu; simp at hu; subst hu; rfl) (by unfold maxLen; omega) (by omega) (by simp; omega) ?_; intro v' w1 hown' hgrow _))
        have R : w1.ownsRow B 3 1 v' (bitsL m (k + 1)).length ((bitsL m (k + 1)).map (Value.int .i64)) := by
          rw [bitsL_hit HI.out]; simpa using hown'
        have R2 : Below B w w1 := (hb.alloc hBr _).grown hgrow (by simp; omega) (fun j hj => (hown.lt j hj).1)
        clear hown' hgrow
        go_roundw
        case rel => exact ⟨k + 1, by omega, by go_num, R, R2⟩
        case measure => simp [intOf]; omega
    · obtain rfl : k = 62 := by omega
      go_wp2
      go_ret
      exact ⟨_, rfl, hown, hb⟩

end Go.Proofs.Ytlgfkodllacfdaa
