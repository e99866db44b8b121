
/-
  Layer 15: two comparisons; the initial accesses by the reference.
-/
import Derived.Test.YtimjodpndhckdaaRows
import Derived.Test.YtimjodpndhckdaaBase
import Derived.Test.YtimjodpndhckdaaAux
import Derived.Test.YtimjodpndhckdaaMemA
import Derived.Test.YtimjodpndhckdaaMemB
import Derived.Test.YtimjodpndhckdaaMemE
import Derived.Test.YtimjodpndhckdaaMemF
import Derived.Test.YtimjodpndhckdaaLayA
import Derived.Test.YtimjodpndhckdaaLayE
import Derived.Outline
import Derived.Deep.RegionHeld3
namespace Go.Proofs.Ytimjodpndhckdaa
set_option maxRecDepth 20000
open Go.ChangeShapes Go.WideShapes Go.ChangeAt Go.RowKit

set_option maxRecDepth 100000 in
theorem rints15_any (v u : Value) (zs ys : List Int) (w : World) (hv : HasInts w v zs) (hu : HasInts w u ys) : Calls Try.prog 28 #[v, u] w fun e w' => e = .returned (.bool (decide (zs = ys))) ∧ ∃ n, w' = w.drewN n := by
  obtain ⟨a, cap, rfl, hlz, hca⟩ := hv
  obtain ⟨a', cap', rfl, hly, hcb⟩ := hu
  by_cases hl : zs.length = ys.length
  · have hle : ((zs.length : Int) != (ys.length : Int)) = false := by simp [hl]
    have HL := Lib.hid hl
    clear hl
    go_enter Try.func28, Try.ntmps28
    go_wp2
    go_loopw [5] (fun i wr => ∃ k n : Nat, k ≤ zs.length ∧ i = .int .i64 k ∧ wr = w.drewN n ∧ Hid (zs.take k = ys.take k)) (fun i _ => zs.length - (intOf i).toNat)
    case atStart => exact ⟨0, 0, Nat.zero_le _, rfl, rfl, Lib.hid (by simp)⟩
    case round =>
      obtain ⟨k, n, hk, rfl, rfl, ht⟩ := hrel
      by_cases hlt : k < zs.length
      · rcases hca with hca | ⟨b, o, rfl, hc⟩
        · omega
        rcases hcb with hcb | ⟨b', o', rfl, hc'⟩
        · have := HL.out; omega
        have hlt' : k < ys.length := by have := HL.out; omega
        have h1 := hc k hlt
        have h2 := hc' k hlt'
        clear hc hc'
        obtain ⟨x, hx⟩ : ∃ x, x = zs.getD k 0 := ⟨_, rfl⟩
        obtain ⟨y, hy⟩ : ∃ y, y = ys.getD k 0 := ⟨_, rfl⟩
        rw [← hx] at h1
        rw [← hy] at h2
        have HX := Lib.hid hx
        have HY := Lib.hid hy
        clear hx hy
        by_cases he : x = y
        · have he' : (x != y) = false := by simp [he]
          have HE := Lib.hid he
          clear he
          go_wp2
          go_quiet (fail)
          go_wp2
          go_roundw
          case rel => exact ⟨k + 1, n + nq, by omega, by go_num, rfl, Lib.hid (take_succ_eq ht.out hlt hlt' (by rw [← HX.out, ← HY.out]; exact HE.out))⟩
          case measure => simp [intOf]; omega
        · have he' : (x != y) = true := by simp [he]
          have HE : Hid (decide (zs = ys) = false) := Lib.hid (by
            simp only [decide_eq_false_iff_not]; intro hc; apply he; rw [HX.out, HY.out, hc])
          clear he
          go_wp2
          go_quiet (fail)
          go_wp2
          go_ret
          exact ⟨ret_bool HE.out.symm, n + nq, by rw [World.drewN_drewN]⟩
      · obtain rfl : k = zs.length := by omega
        have HE : Hid (decide (zs = ys) = true) := Lib.hid (by
          have := ht.out
          rw [List.take_length, HL.out, List.take_length] at this
          simpa using this)
        go_wp2
        go_ret
        exact ⟨ret_bool HE.out.symm, n, rfl⟩
  · have hle : ((zs.length : Int) != (ys.length : Int)) = true := by simp; omega
    have HN : Hid (decide (zs = ys) = false) := Lib.hid (by simp; intro hc; exact hl (by rw [hc]))
    clear hl
    go_enter Try.func28, Try.ntmps28
    go_wp2
    go_ret
    exact ⟨ret_bool HN.out.symm, 0, rfl⟩

theorem acc_struct : Try.prog.underlying 40 = some (.struct (Try.prog.fieldsOf 40)) := by kernel_rfl
theorem acc_held : Try.prog.stoodInHeld 40 = false := by kernel_rfl
theorem acc_guard : Try.prog.eqGuardType Try.prog.depth 40 = false := by kernel_rfl
theorem acc_neq_self (k c o n : Int) (s : ByteArray) (w : World) : (binOp .neq 40 (.agg #[.int .i64 k, .int .i64 c, .int .i64 o, .int .i64 n, .string s]) (.agg #[.int .i64 k, .int .i64 c, .int .i64 o, .int .i64 n, .string s])).run Try.prog w = .ok (.bool false) w := by
  rw [run_neq_struct, show (10000 : Nat) = 9999 + 1 from rfl, run_equalIn_agg w 9999 40 _ _ acc_struct acc_held]
  have u3 := Try.underlying3
  have a3 := Try.isAgg3
  have z3 := Try.sizeOf3
  have u4 := Try.underlying9
  have a4 := Try.isAgg9
  have z4 := Try.sizeOf9
  simp only [Program.fieldsOf, Try.underlying40]
  go_simp

set_option maxHeartbeats 800000 in
set_option maxRecDepth 100000 in
theorem raccs_same (v u : Value) (zs : List AccD) (w : World) (hv : HasAccs w v zs) (hu : HasAccs w u zs) : Calls Try.prog 31 #[v, u] w fun e w' => e = .returned (.bool true) ∧ ∃ n, w' = w.drewN n := by
  obtain ⟨a, cap, rfl, hlz, hca⟩ := hv
  obtain ⟨a', cap', rfl, hly, hcb⟩ := hu
  obtain ⟨L, hL⟩ : ∃ L, L = zs.length := ⟨_, rfl⟩
  rw [← hL] at hca hcb hlz ⊢
  clear hL
  go_enter Try.func31, Try.ntmps31
  go_wp2
  go_loopw [5] (fun i wr => ∃ k n : Nat, k ≤ L ∧ i = .int .i64 k ∧ wr = w.drewN n) (fun i _ => L - (intOf i).toNat)
  case atStart => exact ⟨0, 0, Nat.zero_le _, rfl, rfl⟩
  case round =>
    obtain ⟨k, n, hk, rfl, rfl⟩ := hrel
    by_cases hlt : k < L
    · rcases hca with hca | ⟨b, o, rfl, hc⟩
      · omega
      rcases hcb with hcb | ⟨b', o', rfl, hc'⟩
      · omega
      obtain ⟨h1, h1b, h1c, h1d, h1e⟩ := hc k hlt
      obtain ⟨h2, h2b, h2c, h2d, h2e⟩ := hc' k hlt
      clear hc hc'
      obtain ⟨x, hx⟩ : ∃ x, x = zs.getD k noAcc := ⟨_, rfl⟩
      rw [← hx] at h1 h1b h1c h1d h1e h2 h2b h2c h2d h2e
      clear hx
      obtain ⟨x1, x2, x3, x4, x5⟩ := x
      simp only at h1 h1b h1c h1d h1e h2 h2b h2c h2d h2e
      have hG := acc_guard
      have hN := acc_neq_self x1 x2 x3 x4 x5
      go_wp2
      go_quiet (fail)
      go_wp2
      go_roundw
      case rel => exact ⟨k + 1, n + nq, by omega, by go_num, rfl⟩
      case measure => simp [intOf]; omega
    · obtain rfl : k = L := by omega
      go_wp2
      go_ret
      exact ⟨rfl, n, rfl⟩

theorem initN_stop (l : Ly) (zs : List Int) (k d : Nat) (h : l.c.l ≤ (k : Int)) : initN l zs (k + d) = initN l zs k := by
  induction d with
  | zero => rfl
  | succ d ih => show initN l zs (k + d) ++ (if ((k + d : Nat) : Int) < l.c.l then _ else []) = _; rw [ih, if_neg (by omega)]; simp

set_option maxHeartbeats 4000000 in
set_option maxRecDepth 100000 in
theorem rinit_any (l : Ly) (v : Value) (zs : List Int) (w : World) (hok : l.ok) (hv : HasInts w v zs) (hlen : zs.length ≤ 1000000) :
    Calls Try.prog 33 #[l.v, v] w fun e w' => ∃ u, e = .returned u ∧ HasAccs w' u (initN l zs zs.length) ∧ Below w.heap.size w w' := by
  obtain ⟨i0, hi, hz0, hz1', hz2⟩ := info_parts info_acc
  obtain ⟨a, cap, rfl, _, hc⟩ := hv
  have HC := Lib.hid hc
  have HV := Lib.hid (fun n w => rval_any l n w hok)
  have HK := Lib.hid hok
  clear hc hok
  obtain ⟨M, hM⟩ : ∃ M, M = zs.length := ⟨_, rfl⟩
  rw [← hM] at hlen HC ⊢
  have HM := Lib.hid hM
  clear hM
  unfold Ly.v at HV ⊢
  go_enter Try.func33, Try.ntmps33
  go_wp2
  obtain ⟨W0, hW0⟩ : ∃ W0, W0 = (w.alloc (.cells #[.int .i64 l.c.t, .int .i64 l.c.l, .int .i64 l.c.k, .int .i64 l.c.s, .int .i64 l.c.m, .int .i64 l.clock, .int .i64 l.stamps, .int .i64 l.log, .int .i64 l.fin, .int .i64 l.thread, .int .i64 l.lock, .int .i64 l.loc, .int .i64 l.size] 53)).alloc (.cells #[.int .i64 2, .int .i64 l.stamps, .int .i64 0, .int .i64 1, .string ⟨#[]⟩] 40) := ⟨_, rfl⟩
  rw [← hW0]
  have HS0 : Hid (w.heap.size + 2 = W0.heap.size) := Lib.hid (by rw [hW0]; simp)
  have HB0 : Hid (Below w.heap.size w W0) := Lib.hid (by rw [hW0]; exact ((Below.refl _ _).alloc (Nat.le_refl _) _).alloc (by simp) _)
  have HO0 : Hid (W0.ownsRow (w.heap.size + 1) 40 5 (.slice (some ⟨w.heap.size + 1, 0, none⟩) 1 1) 1 (accCells [setAcc l.stamps 1])) := Lib.hid (by
    rw [hW0]
    have := World.ownsRow_lit (base := w.heap.size + 1) (e := 40) (size := 5) (w.alloc (.cells #[.int .i64 l.c.t, .int .i64 l.c.l, .int .i64 l.c.k, .int .i64 l.c.s, .int .i64 l.c.m, .int .i64 l.clock, .int .i64 l.stamps, .int .i64 l.log, .int .i64 l.fin, .int .i64 l.thread, .int .i64 l.lock, .int .i64 l.loc, .int .i64 l.size] 53)) #[.int .i64 2, .int .i64 l.stamps, .int .i64 0, .int .i64 1, .string ⟨#[]⟩] 1 (by simp) (by unfold maxLen; omega) rfl
    rw [show accCells [setAcc l.stamps 1] = [.int .i64 2, .int .i64 l.stamps, .int .i64 0, .int .i64 1, .string ⟨#[]⟩] from rfl]
    simpa using this)
  have q0 : Hid (W0.cell? ⟨w.heap.size, 0, none⟩ = some (.int .i64 l.c.t)) := Lib.hid (by rw [hW0]; go_simp)
  have q1 : Hid (W0.cell? ⟨w.heap.size, 1, none⟩ = some (.int .i64 l.c.l)) := Lib.hid (by rw [hW0]; go_simp)
  have q2 : Hid (W0.cell? ⟨w.heap.size, 2, none⟩ = some (.int .i64 l.c.k)) := Lib.hid (by rw [hW0]; go_simp)
  have q3 : Hid (W0.cell? ⟨w.heap.size, 3, none⟩ = some (.int .i64 l.c.s)) := Lib.hid (by rw [hW0]; go_simp)
  have q4 : Hid (W0.cell? ⟨w.heap.size, 4, none⟩ = some (.int .i64 l.c.m)) := Lib.hid (by rw [hW0]; go_simp)
  have q5 : Hid (W0.cell? ⟨w.heap.size, 5, none⟩ = some (.int .i64 l.clock)) := Lib.hid (by rw [hW0]; go_simp)
  have q6 : Hid (W0.cell? ⟨w.heap.size, 6, none⟩ = some (.int .i64 l.stamps)) := Lib.hid (by rw [hW0]; go_simp)
  have q7 : Hid (W0.cell? ⟨w.heap.size, 7, none⟩ = some (.int .i64 l.log)) := Lib.hid (by rw [hW0]; go_simp)
  have q8 : Hid (W0.cell? ⟨w.heap.size, 8, none⟩ = some (.int .i64 l.fin)) := Lib.hid (by rw [hW0]; go_simp)
  have q9 : Hid (W0.cell? ⟨w.heap.size, 9, none⟩ = some (.int .i64 l.thread)) := Lib.hid (by rw [hW0]; go_simp)
  have q10 : Hid (W0.cell? ⟨w.heap.size, 10, none⟩ = some (.int .i64 l.lock)) := Lib.hid (by rw [hW0]; go_simp)
  have q11 : Hid (W0.cell? ⟨w.heap.size, 11, none⟩ = some (.int .i64 l.loc)) := Lib.hid (by rw [hW0]; go_simp)
  have q12 : Hid (W0.cell? ⟨w.heap.size, 12, none⟩ = some (.int .i64 l.size)) := Lib.hid (by rw [hW0]; go_simp)
  clear hW0
  obtain ⟨B, hB⟩ : ∃ B, B = w.heap.size + 1 := ⟨_, rfl⟩
  have HB := Lib.hid hB
  rw [← hB] at HO0 ⊢
  clear hB
  go_loopw [5, 6] (fun v i wr => ∃ k : Nat, k ≤ M ∧ i = .int .i64 k ∧ wr.ownsRow B 40 5 v (initN l zs k).length (accCells (initN l zs k)) ∧ Below B W0 wr) (fun _ i _ => M - (intOf i).toNat)
  case atStart => exact ⟨0, Nat.zero_le _, rfl, HO0.out, Below.refl _ _⟩
  case round =>
    obtain ⟨k, hk, rfl, hor, hbr⟩ := hrel
    have hwB : w.heap.size < wr.heap.size := by have := HB.out; have := HS0.out; have := hbr.size; omega
    have p0 : wr.cell? ⟨w.heap.size, 0, none⟩ = some (.int .i64 l.c.t) := (hbr.cell (p := ⟨w.heap.size, 0, none⟩) (by have := HB.out; show w.heap.size < B; omega)).trans q0.out
    have p1 : wr.cell? ⟨w.heap.size, 1, none⟩ = some (.int .i64 l.c.l) := (hbr.cell (p := ⟨w.heap.size, 1, none⟩) (by have := HB.out; show w.heap.size < B; omega)).trans q1.out
    have p2 : wr.cell? ⟨w.heap.size, 2, none⟩ = some (.int .i64 l.c.k) := (hbr.cell (p := ⟨w.heap.size, 2, none⟩) (by have := HB.out; show w.heap.size < B; omega)).trans q2.out
    have p3 : wr.cell? ⟨w.heap.size, 3, none⟩ = some (.int .i64 l.c.s) := (hbr.cell (p := ⟨w.heap.size, 3, none⟩) (by have := HB.out; show w.heap.size < B; omega)).trans q3.out
    have p4 : wr.cell? ⟨w.heap.size, 4, none⟩ = some (.int .i64 l.c.m) := (hbr.cell (p := ⟨w.heap.size, 4, none⟩) (by have := HB.out; show w.heap.size < B; omega)).trans q4.out
    have p5 : wr.cell? ⟨w.heap.size, 5, none⟩ = some (.int .i64 l.clock) := (hbr.cell (p := ⟨w.heap.size, 5, none⟩) (by have := HB.out; show w.heap.size < B; omega)).trans q5.out
    have p6 : wr.cell? ⟨w.heap.size, 6, none⟩ = some (.int .i64 l.stamps) := (hbr.cell (p := ⟨w.heap.size, 6, none⟩) (by have := HB.out; show w.heap.size < B; omega)).trans q6.out
    have p7 : wr.cell? ⟨w.heap.size, 7, none⟩ = some (.int .i64 l.log) := (hbr.cell (p := ⟨w.heap.size, 7, none⟩) (by have := HB.out; show w.heap.size < B; omega)).trans q7.out
    have p8 : wr.cell? ⟨w.heap.size, 8, none⟩ = some (.int .i64 l.fin) := (hbr.cell (p := ⟨w.heap.size, 8, none⟩) (by have := HB.out; show w.heap.size < B; omega)).trans q8.out
    have p9 : wr.cell? ⟨w.heap.size, 9, none⟩ = some (.int .i64 l.thread) := (hbr.cell (p := ⟨w.heap.size, 9, none⟩) (by have := HB.out; show w.heap.size < B; omega)).trans q9.out
    have p10 : wr.cell? ⟨w.heap.size, 10, none⟩ = some (.int .i64 l.lock) := (hbr.cell (p := ⟨w.heap.size, 10, none⟩) (by have := HB.out; show w.heap.size < B; omega)).trans q10.out
    have p11 : wr.cell? ⟨w.heap.size, 11, none⟩ = some (.int .i64 l.loc) := (hbr.cell (p := ⟨w.heap.size, 11, none⟩) (by have := HB.out; show w.heap.size < B; omega)).trans q11.out
    have p12 : wr.cell? ⟨w.heap.size, 12, none⟩ = some (.int .i64 l.size) := (hbr.cell (p := ⟨w.heap.size, 12, none⟩) (by have := HB.out; show w.heap.size < B; omega)).trans q12.out
    have HBw : Hid (Below w.heap.size w wr) := Lib.hid (HB0.out.trans (hbr.mono (by have := HB.out; omega)))
    have HOR := Lib.hid hor
    have HBR := Lib.hid hbr
    have HLn := Lib.hid (initN_length l zs k)
    clear hor hbr
    by_cases hlt : k < M
    · rcases HC.out with hx | ⟨bx, ox, rfl, hx⟩
      · omega
      obtain ⟨x, hxx⟩ : ∃ x, x = zs.getD k 0 := ⟨_, rfl⟩
      have hcx := cel_below HBw.out (hx k hlt)
      rw [← hxx] at hcx
      have HX := Lib.hid hxx
      clear hx hxx
      by_cases hloc : (k : Int) < l.c.l
      · have HN : Hid (initN l zs (k + 1) = initN l zs k ++ [setAcc (atVal l k) x]) := Lib.hid (by rw [HX.out]; show _ ++ _ = _; rw [if_pos hloc])
        obtain ⟨c, hc⟩ : ∃ c, c = atVal l k := ⟨_, rfl⟩
        have HVk : Hid (∀ w, Calls Try.prog 41 #[.agg #[.int .i64 l.c.t, .int .i64 l.c.l, .int .i64 l.c.k, .int .i64 l.c.s, .int .i64 l.c.m, .int .i64 l.clock, .int .i64 l.stamps, .int .i64 l.log, .int .i64 l.fin, .int .i64 l.thread, .int .i64 l.lock, .int .i64 l.loc, .int .i64 l.size], .int .i64 k] w fun e' w' => e' = .returned (.int .i64 c) ∧ Below w.heap.size w w') := Lib.hid (fun w => by rw [hc]; exact HV.out k w)
        rw [← hc] at HN
        have hlt2 : (k : Int) < M := by omega
        have HBB : Hid (B ≤ wr.heap.size) := Lib.hid (by have := HBR.out.size; have := HS0.out; have := HB.out; omega)
        have HLen : Hid (M ≤ 1000000 ∧ k < M) := Lib.hid ⟨hlen, hlt⟩
        have HW := Lib.hid (Below.refl wr.heap.size wr)
        have hbxw : bx < w.heap.size := World.block_lt_of_cell? w ⟨bx, ox + k, none⟩ ((HC.out.resolve_left (by omega)).elim fun b h => by obtain ⟨o, he, h⟩ := h; cases he; exact h k hlt)
        have HBx : Hid (w.heap.size < B ∧ bx < B) := Lib.hid ⟨by have := HB.out; omega, by have := HB.out; omega⟩
        clear hbxw
        clear hc
        go_wp2_with fail
        refine wp_region_held_drew (S := fun W => W.cell? ⟨w.heap.size, 0, none⟩ = some (.int .i64 l.c.t) ∧ W.cell? ⟨w.heap.size, 1, none⟩ = some (.int .i64 l.c.l) ∧ W.cell? ⟨w.heap.size, 2, none⟩ = some (.int .i64 l.c.k) ∧ W.cell? ⟨w.heap.size, 3, none⟩ = some (.int .i64 l.c.s) ∧ W.cell? ⟨w.heap.size, 4, none⟩ = some (.int .i64 l.c.m) ∧ W.cell? ⟨w.heap.size, 5, none⟩ = some (.int .i64 l.clock) ∧ W.cell? ⟨w.heap.size, 6, none⟩ = some (.int .i64 l.stamps) ∧ W.cell? ⟨w.heap.size, 7, none⟩ = some (.int .i64 l.log) ∧ W.cell? ⟨w.heap.size, 8, none⟩ = some (.int .i64 l.fin) ∧ W.cell? ⟨w.heap.size, 9, none⟩ = some (.int .i64 l.thread) ∧ W.cell? ⟨w.heap.size, 10, none⟩ = some (.int .i64 l.lock) ∧ W.cell? ⟨w.heap.size, 11, none⟩ = some (.int .i64 l.loc) ∧ W.cell? ⟨w.heap.size, 12, none⟩ = some (.int .i64 l.size) ∧ W.cell? ⟨bx, ox + k, none⟩ = some (.int .i64 x)) (by kernel_rfl) ?_ (fun hHeld => ?_)
        · (try dsimp only); exact ⟨by first | assumption | go_simp, by first | assumption | go_simp, by first | assumption | go_simp, by first | assumption | go_simp, by first | assumption | go_simp, by first | assumption | go_simp, by first | assumption | go_simp, by first | assumption | go_simp, by first | assumption | go_simp, by first | assumption | go_simp, by first | assumption | go_simp, by first | assumption | go_simp, by first | assumption | go_simp, by first | assumption | go_simp⟩
        replace HW := Lib.hid (below_drews HW.out 1)
        first | (refine wpAnyH_take (i := 0) (oi := ?oi1) (v := ?v1) ?hi1 (by kernel_rfl) (by kernel_rfl) (by kernel_rfl) ?hQ1 (Or.inl ⟨?hw1, ?hy1⟩) (by assumption) ?rest1; (case hi1 => (simp only [List.getElem?_toArray, List.getElem?_cons_zero]; rfl)); (case hQ1 => exact fun _ _ _ h => h); (case hw1 => rfl); (case hy1 => ((intro w hSw); (try dsimp only at hSw); go_simp; (try with_reducible rfl)))) | (refine wpAnyH_take (i := 0) (oi := ?oi2) (v := undef) ?hi2 (by kernel_rfl) (by kernel_rfl) (by kernel_rfl) ?hQ2 (Or.inr ⟨?hw2, rfl⟩) (by assumption) ?rest2; (case hi2 => (simp only [List.getElem?_toArray, List.getElem?_cons_zero]; rfl)); (case hQ2 => exact fun _ _ _ h => h); (case hw2 => rfl))
        (try simp only [Act.put, List.setIfInBounds_toArray, List.set_cons_zero, List.set_cons_succ])
        first | (refine wpAnyH_take (i := 1) (oi := ?oi3) (v := ?v3) ?hi3 (by kernel_rfl) (by kernel_rfl) (by kernel_rfl) ?hQ3 (Or.inl ⟨?hw3, ?hy3⟩) (by assumption) ?rest3; (case hi3 => (simp only [List.getElem?_toArray, List.getElem?_cons_succ, List.getElem?_cons_zero]; rfl)); (case hQ3 => exact fun _ _ _ h => h); (case hw3 => rfl); (case hy3 => ((intro w hSw); (try dsimp only at hSw); go_simp; (try with_reducible rfl)))) | (refine wpAnyH_take (i := 1) (oi := ?oi4) (v := undef) ?hi4 (by kernel_rfl) (by kernel_rfl) (by kernel_rfl) ?hQ4 (Or.inr ⟨?hw4, rfl⟩) (by assumption) ?rest4; (case hi4 => (simp only [List.getElem?_toArray, List.getElem?_cons_succ, List.getElem?_cons_zero]; rfl)); (case hQ4 => exact fun _ _ _ h => h); (case hw4 => rfl))
        (try simp only [Act.put, List.setIfInBounds_toArray, List.set_cons_zero, List.set_cons_succ])
        first | (refine wpAnyH_take (i := 2) (oi := ?oi5) (v := ?v5) ?hi5 (by kernel_rfl) (by kernel_rfl) (by kernel_rfl) ?hQ5 (Or.inl ⟨?hw5, ?hy5⟩) (by assumption) ?rest5; (case hi5 => (simp only [List.getElem?_toArray, List.getElem?_cons_succ, List.getElem?_cons_zero]; rfl)); (case hQ5 => exact fun _ _ _ h => h); (case hw5 => rfl); (case hy5 => ((intro w hSw); (try dsimp only at hSw); go_simp; (try with_reducible rfl)))) | (refine wpAnyH_take (i := 2) (oi := ?oi6) (v := undef) ?hi6 (by kernel_rfl) (by kernel_rfl) (by kernel_rfl) ?hQ6 (Or.inr ⟨?hw6, rfl⟩) (by assumption) ?rest6; (case hi6 => (simp only [List.getElem?_toArray, List.getElem?_cons_succ, List.getElem?_cons_zero]; rfl)); (case hQ6 => exact fun _ _ _ h => h); (case hw6 => rfl))
        (try simp only [Act.put, List.setIfInBounds_toArray, List.set_cons_zero, List.set_cons_succ])
        first | (refine wpAnyH_take (i := 4) (oi := ?oi7) (v := ?v7) ?hi7 (by kernel_rfl) (by kernel_rfl) (by kernel_rfl) ?hQ7 (Or.inl ⟨?hw7, ?hy7⟩) (by assumption) ?rest7; (case hi7 => (simp only [List.getElem?_toArray, List.getElem?_cons_succ, List.getElem?_cons_zero]; rfl)); (case hQ7 => exact fun _ _ _ h => h); (case hw7 => rfl); (case hy7 => ((intro w hSw); (try dsimp only at hSw); go_simp; (try with_reducible rfl)))) | (refine wpAnyH_take (i := 4) (oi := ?oi8) (v := undef) ?hi8 (by kernel_rfl) (by kernel_rfl) (by kernel_rfl) ?hQ8 (Or.inr ⟨?hw8, rfl⟩) (by assumption) ?rest8; (case hi8 => (simp only [List.getElem?_toArray, List.getElem?_cons_succ, List.getElem?_cons_zero]; rfl)); (case hQ8 => exact fun _ _ _ h => h); (case hw8 => rfl))
        (try simp only [Act.put, List.setIfInBounds_toArray, List.set_cons_zero, List.set_cons_succ])
        first | (refine wpAnyH_take (i := 5) (oi := ?oi9) (v := ?v9) ?hi9 (by kernel_rfl) (by kernel_rfl) (by kernel_rfl) ?hQ9 (Or.inl ⟨?hw9, ?hy9⟩) (by assumption) ?rest9; (case hi9 => (simp only [List.getElem?_toArray, List.getElem?_cons_succ, List.getElem?_cons_zero]; rfl)); (case hQ9 => exact fun _ _ _ h => h); (case hw9 => rfl); (case hy9 => ((intro w hSw); (try dsimp only at hSw); go_simp; (try with_reducible rfl)))) | (refine wpAnyH_take (i := 5) (oi := ?oi10) (v := undef) ?hi10 (by kernel_rfl) (by kernel_rfl) (by kernel_rfl) ?hQ10 (Or.inr ⟨?hw10, rfl⟩) (by assumption) ?rest10; (case hi10 => (simp only [List.getElem?_toArray, List.getElem?_cons_succ, List.getElem?_cons_zero]; rfl)); (case hQ10 => exact fun _ _ _ h => h); (case hw10 => rfl))
        (try simp only [Act.put, List.setIfInBounds_toArray, List.set_cons_zero, List.set_cons_succ])
        first | (refine wpAnyH_take (i := 6) (oi := ?oi11) (v := ?v11) ?hi11 (by kernel_rfl) (by kernel_rfl) (by kernel_rfl) ?hQ11 (Or.inl ⟨?hw11, ?hy11⟩) (by assumption) ?rest11; (case hi11 => (simp only [List.getElem?_toArray, List.getElem?_cons_succ, List.getElem?_cons_zero]; rfl)); (case hQ11 => exact fun _ _ _ h => h); (case hw11 => rfl); (case hy11 => ((intro w hSw); (try dsimp only at hSw); go_simp; (try with_reducible rfl)))) | (refine wpAnyH_take (i := 6) (oi := ?oi12) (v := undef) ?hi12 (by kernel_rfl) (by kernel_rfl) (by kernel_rfl) ?hQ12 (Or.inr ⟨?hw12, rfl⟩) (by assumption) ?rest12; (case hi12 => (simp only [List.getElem?_toArray, List.getElem?_cons_succ, List.getElem?_cons_zero]; rfl)); (case hQ12 => exact fun _ _ _ h => h); (case hw12 => rfl))
        (try simp only [Act.put, List.setIfInBounds_toArray, List.set_cons_zero, List.set_cons_succ])
        first | (refine wpAnyH_take (i := 7) (oi := ?oi13) (v := ?v13) ?hi13 (by kernel_rfl) (by kernel_rfl) (by kernel_rfl) ?hQ13 (Or.inl ⟨?hw13, ?hy13⟩) (by assumption) ?rest13; (case hi13 => (simp only [List.getElem?_toArray, List.getElem?_cons_succ, List.getElem?_cons_zero]; rfl)); (case hQ13 => exact fun _ _ _ h => h); (case hw13 => rfl); (case hy13 => ((intro w hSw); (try dsimp only at hSw); go_simp; (try with_reducible rfl)))) | (refine wpAnyH_take (i := 7) (oi := ?oi14) (v := undef) ?hi14 (by kernel_rfl) (by kernel_rfl) (by kernel_rfl) ?hQ14 (Or.inr ⟨?hw14, rfl⟩) (by assumption) ?rest14; (case hi14 => (simp only [List.getElem?_toArray, List.getElem?_cons_succ, List.getElem?_cons_zero]; rfl)); (case hQ14 => exact fun _ _ _ h => h); (case hw14 => rfl))
        (try simp only [Act.put, List.setIfInBounds_toArray, List.set_cons_zero, List.set_cons_succ])
        refine wpAnyH_ready (rs := [3]) (by kernel_rfl) (by simp) ?_
        refine AllReadyH.cons (o := ?oi15) ?hi15 (fun K hK => ?rest15) AllReadyH.nil
        (case hi15 => (simp only [List.getElem?_toArray, List.getElem?_cons_succ, List.getElem?_cons_zero]; rfl))
        obtain ⟨s0, s1, s2, s3, s4, s5, s6, s7, s8, s9, s10, s11, s12, s13⟩ := hHeld
        go_simp
        ((with_reducible refine (HVk.out _).mono ?_); rintro e wx1 ⟨rfl, hb⟩)
        replace HW := Lib.hid (below_step HW.out hb)
        have HB1 := Lib.hid hb
        have HO1 := Lib.hid (owns_below (owns_below HOR.out (show Below wr.heap.size wr wr.drew from below_drews (Below.refl _ _) 1)) hb)
        have HZ1 := Lib.hid (show B ≤ wx1.heap.size from Nat.le_trans HBB.out HW.out.size)
        refine hK.out _ _ ?_ (fun hHeld => ?_)
        · (try dsimp only); exact ⟨cel_below hb s0, cel_below hb s1, cel_below hb s2, cel_below hb s3, cel_below hb s4, cel_below hb s5, cel_below hb s6, cel_below hb s7, cel_below hb s8, cel_below hb s9, cel_below hb s10, cel_below hb s11, cel_below hb s12, cel_below hb s13⟩
        clear hK K s0 s1 s2 s3 s4 s5 s6 s7 s8 s9 s10 s11 s12 s13 hb
        (try simp only [Act.put, List.setIfInBounds_toArray, List.set_cons_zero, List.set_cons_succ])
        first | (refine wpAnyH_take (i := 8) (oi := ?oi16) (v := ?v16) ?hi16 (by kernel_rfl) (by kernel_rfl) (by kernel_rfl) ?hQ16 (Or.inl ⟨?hw16, ?hy16⟩) (by assumption) ?rest16; (case hi16 => (simp only [List.getElem?_toArray, List.getElem?_cons_succ, List.getElem?_cons_zero]; rfl)); (case hQ16 => exact fun _ _ _ h => h); (case hw16 => rfl); (case hy16 => ((intro w hSw); (try dsimp only at hSw); go_simp; (try with_reducible rfl)))) | (refine wpAnyH_take (i := 8) (oi := ?oi17) (v := undef) ?hi17 (by kernel_rfl) (by kernel_rfl) (by kernel_rfl) ?hQ17 (Or.inr ⟨?hw17, rfl⟩) (by assumption) ?rest17; (case hi17 => (simp only [List.getElem?_toArray, List.getElem?_cons_succ, List.getElem?_cons_zero]; rfl)); (case hQ17 => exact fun _ _ _ h => h); (case hw17 => rfl))
        (try simp only [Act.put, List.setIfInBounds_toArray, List.set_cons_zero, List.set_cons_succ])
        refine wpAnyH_ready (rs := [9]) (by kernel_rfl) (by simp) ?_
        refine AllReadyH.cons (o := ?oi18) ?hi18 (fun K hK => ?rest18) AllReadyH.nil
        (case hi18 => (simp only [List.getElem?_toArray, List.getElem?_cons_succ, List.getElem?_cons_zero]; rfl))
        obtain ⟨s0, s1, s2, s3, s4, s5, s6, s7, s8, s9, s10, s11, s12, s13⟩ := hHeld
        go_simp
        replace HW := Lib.hid (below_step HW.out (below_new1 _ (.cells #[.int .i64 2, .int .i64 c, .int .i64 0, .int .i64 x, .string ⟨#[]⟩] 40)))
        refine hK.out _ _ ?_ (fun hHeld => ?_)
        · (try dsimp only); exact ⟨cell_alloc _ s0, cell_alloc _ s1, cell_alloc _ s2, cell_alloc _ s3, cell_alloc _ s4, cell_alloc _ s5, cell_alloc _ s6, cell_alloc _ s7, cell_alloc _ s8, cell_alloc _ s9, cell_alloc _ s10, cell_alloc _ s11, cell_alloc _ s12, cell_alloc _ s13⟩
        clear hK K s0 s1 s2 s3 s4 s5 s6 s7 s8 s9 s10 s11 s12 s13
        (try simp only [Act.put, List.setIfInBounds_toArray, List.set_cons_zero, List.set_cons_succ])
        refine wpAnyH_ready (rs := [10]) (by kernel_rfl) (by simp) ?_
        refine AllReadyH.cons (o := ?oi19) ?hi19 (fun K hK => ?rest19) AllReadyH.nil
        (case hi19 => (simp only [List.getElem?_toArray, List.getElem?_cons_succ, List.getElem?_cons_zero]; rfl))
        obtain ⟨s0, s1, s2, s3, s4, s5, s6, s7, s8, s9, s10, s11, s12, s13⟩ := hHeld
        rw [if_pos (by rfl)]
        refine wp_append_own _ _ _ 25 rfl B 40 i0 (.agg #[.int .i64 0, .int .i64 0, .int .i64 0, .int .i64 0, .string ByteArray.empty]) 5 48 Try.underlying25 hi hz0 hz1' hz2 rfl (by decide) _ _ _ rfl (World.ownsRow.alloc HO1.out _) ⟨wx1.heap.size, 0, none⟩ 1 1 [.int .i64 2, .int .i64 c, .int .i64 0, .int .i64 x, .string ⟨#[]⟩] rfl rfl (fun j u hj => acc_cell j u hj) (by intro u hu; simp at hu; rcases hu with rfl | rfl | rfl | rfl | rfl <;> rfl) (by have := HLn.out; have := HLen.out; unfold maxLen; omega) (by have := HLn.out; have := HLen.out; omega) (by have := HZ1.out; simp; omega) ?_
        intro v' w4 hown' hgrow' _
        have hgc : ∀ (b o : Nat) (u : Value), b < B → (wx1.alloc (.cells #[.int .i64 2, .int .i64 c, .int .i64 0, .int .i64 x, .string ⟨#[]⟩] 40)).cell? ⟨b, o, none⟩ = some u → w4.cell? ⟨b, o, none⟩ = some u := fun b o u hb h => gb_cell hgrow' h (fun j hj hc => by have := (HO1.out.lt j hj).1; omega)
        refine hK.out _ _ ?_ (fun hHeld => ?_)
        · (try dsimp only); exact ⟨hgc _ _ _ (by first | exact HBx.out.1 | exact HBx.out.2) s0, hgc _ _ _ (by first | exact HBx.out.1 | exact HBx.out.2) s1, hgc _ _ _ (by first | exact HBx.out.1 | exact HBx.out.2) s2, hgc _ _ _ (by first | exact HBx.out.1 | exact HBx.out.2) s3, hgc _ _ _ (by first | exact HBx.out.1 | exact HBx.out.2) s4, hgc _ _ _ (by first | exact HBx.out.1 | exact HBx.out.2) s5, hgc _ _ _ (by first | exact HBx.out.1 | exact HBx.out.2) s6, hgc _ _ _ (by first | exact HBx.out.1 | exact HBx.out.2) s7, hgc _ _ _ (by first | exact HBx.out.1 | exact HBx.out.2) s8, hgc _ _ _ (by first | exact HBx.out.1 | exact HBx.out.2) s9, hgc _ _ _ (by first | exact HBx.out.1 | exact HBx.out.2) s10, hgc _ _ _ (by first | exact HBx.out.1 | exact HBx.out.2) s11, hgc _ _ _ (by first | exact HBx.out.1 | exact HBx.out.2) s12, hgc _ _ _ (by first | exact HBx.out.1 | exact HBx.out.2) s13⟩
        clear hK K s0 s1 s2 s3 s4 s5 s6 s7 s8 s9 s10 s11 s12 s13
        (try simp only [Act.put, List.setIfInBounds_toArray, List.set_cons_zero, List.set_cons_succ])
        first | (refine wpAnyH_take (i := 11) (oi := ?oi20) (v := ?v20) ?hi20 (by kernel_rfl) (by kernel_rfl) (by kernel_rfl) ?hQ20 (Or.inl ⟨?hw20, ?hy20⟩) (by assumption) ?rest20; (case hi20 => (simp only [List.getElem?_toArray, List.getElem?_cons_succ, List.getElem?_cons_zero]; rfl)); (case hQ20 => exact fun _ _ _ h => h); (case hw20 => rfl); (case hy20 => ((intro w hSw); (try dsimp only at hSw); go_simp; (try with_reducible rfl)))) | (refine wpAnyH_take (i := 11) (oi := ?oi21) (v := undef) ?hi21 (by kernel_rfl) (by kernel_rfl) (by kernel_rfl) ?hQ21 (Or.inr ⟨?hw21, rfl⟩) (by assumption) ?rest21; (case hi21 => (simp only [List.getElem?_toArray, List.getElem?_cons_succ, List.getElem?_cons_zero]; rfl)); (case hQ21 => exact fun _ _ _ h => h); (case hw21 => rfl))
        (try simp only [Act.put, List.setIfInBounds_toArray, List.set_cons_zero, List.set_cons_succ])
        refine wpAnyH_done (by kernel_rfl) ?_ _
        obtain ⟨s0, s1, s2, s3, s4, s5, s6, s7, s8, s9, s10, s11, s12, s13⟩ := hHeld
        have hor4 : w4.ownsRow B 40 5 v' (initN l zs (k + 1)).length (accCells (initN l zs (k + 1))) := by
          rw [HN.out, accCells_append, List.length_append]; exact hown'
        have hbl4 : Below B W0 w4 := (HBR.out.trans (HW.out.mono HBB.out)).grown hgrow' (by have := HZ1.out; simp; omega) (fun j hj => (HO1.out.lt j hj).1)
        clear hown' hgrow' hgc
        go_wp2
        go_roundw
        case rel => exact ⟨k + 1, by omega, by go_num, hor4, hbl4⟩
        case measure => simp [intOf]; omega
      · have HN : Hid (initN l zs k = initN l zs zs.length) := Lib.hid (by
          have := initN_stop l zs k (zs.length - k) (by omega)
          rw [show k + (zs.length - k) = zs.length by have := HM.out; omega] at this
          exact this.symm)
        have hlt2 : (k : Int) < M := by omega
        go_wp2
        go_ret
        exact ⟨_, rfl, by rw [HM.out, ← HN.out]; exact hasAccs_of_owns HOR.out, HBw.out⟩
    · obtain rfl : k = M := by omega
      go_wp2
      go_ret
      exact ⟨_, rfl, hasAccs_of_owns HOR.out, HBw.out⟩

end Go.Proofs.Ytimjodpndhckdaa
