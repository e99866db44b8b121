/- MemCasOnce: of a list of at most 20 compare-and-swap accesses from a cell's value to numbers that differ from it, exactly the first one succeeds. No condition. -/
import Derived.Test.YtimjodpndhckdaaRows
import Derived.Test.YtimjodpndhckdaaAux
import Derived.Test.YtimjodpndhckdaaTag
import Derived.Test.YtimjodpndhckdaaMemB
import Derived.Test.YtimjodpndhckdaaMemE
import Derived.Test.YtimjodpndhckdaaMemS
import Derived.Test.YtimjodpndhckdaaMemO
import Derived.Test.YtimjodpndhckdaaMemT
import Derived.Test.YtimjodpndhckdaaMemP
import Derived.Outline
import Derived.Deep.RegionHeld3
import Derived.Deep.DeepCutAuto
import Derived.WalkKit
import Derived.ProofKit
import Derived.OpenShut
import Derived.Lib.Hide
import Derived.Carry
namespace Go.Proofs.Ytimjodpndhckdaa.memCasOnce
open Go.ChangeShapes Go.WideShapes Go.ChangeAt Go.RowKit
set_option linter.unusedVariables false

theorem cas_right (n x : Int) : rightB 3 0 n x ByteArray.empty = true := by unfold rightB; simp
theorem cas_chk (n x y : Int) : chk ([y] : List Int).length 3 0 n x ByteArray.empty = 0 := by unfold chk; rw [cas_right]; simp
/-- One compare-and-swap from n on a memory of one cell that holds y. -/
theorem cas_do (n x y : Int) (v : Value) (w : World) (hv : HasInts w v [y]) : Calls Try.prog 17 #[.agg #[v], .agg #[.int .i64 3, .int .i64 0, .int .i64 n, .int .i64 x, .string ⟨#[]⟩]] w fun e w' =>
    ∃ a c, e = .returned (.tuple #[.agg #[.slice a 1 c], .agg #[.int .i64 y, .bool (y == n)], .int .i64 0]) ∧ HasInts w' (.slice a 1 c) [if y = n then x else y] ∧ Below w.heap.size w w' ∧ FromO w' w.heap.size v (.slice a 1 c) [if y = n then x else y] := by
  refine (do_anyF v [y] 3 0 n x ByteArray.empty w hv (by simp)).mono ?_
  rintro e w' ⟨u, rfl, hu, hb, hF⟩
  have hz : doZ 3 0 n x ByteArray.empty [y] = [if y = n then x else y] := by
    unfold doZ; rw [if_pos (cas_chk n x y)]; unfold appZ
    by_cases h : y = n
    · rw [if_pos (Or.inr ⟨rfl, by simpa using h⟩), if_pos h]; rfl
    · rw [if_neg (by simp; exact h), if_neg (by decide), if_neg h]
  rw [hz] at hu hF
  have hu' := hu
  obtain ⟨a, c, rfl, _, _⟩ := hu'
  refine ⟨a, c, ?_, hu, hb, hF⟩
  rw [show doR 3 0 n x ByteArray.empty [y] = y by unfold doR; rw [if_pos (cas_chk n x y)]; rfl, show doOk 3 0 n x ByteArray.empty [y] = (y == n) by unfold doOk; rw [if_pos (cas_chk n x y)]; unfold appOk; simp, cas_chk n x y]
  rfl
theorem rsame_s {v u : Value} {w : World} (zs : List Int) (hv : HasInts w v zs) (hu : HasInts w u zs) : Calls Try.prog 15 #[.agg #[v], .agg #[u]] w fun e w' => e = .returned (.bool true) ∧ Below w.heap.size w w' :=
  (rsame_any v u zs zs w hv hu).mono fun e w' ⟨he, hb⟩ => ⟨by rw [he]; simp, hb⟩

theorem cas_end (wr : World) (am : Option Addr) (cm g : Nat) (y : Int) (h : HasInts wr (.slice am 1 cm) [y]) (hg : g = wr.heap.size) : Calls Try.prog 15 #[.agg #[.slice am 1 cm], .agg #[.slice (some ⟨g, 0, none⟩) 1 1]] ((wr.alloc (.cells #[.int .i64 y] 3)).drew) fun e w' => e = .returned (.bool true) ∧ Below ((wr.alloc (.cells #[.int .i64 y] 3)).drew).heap.size ((wr.alloc (.cells #[.int .i64 y] 3)).drew) w' := by
  subst hg
  have h2 : Below wr.heap.size wr wr.drew := ⟨rfl, rfl, rfl, Nat.le_refl _, fun _ _ => rfl⟩
  exact rsame_s [y] (hasInts_keep (hasInts_keep h h2) (below_new1 wr.drew _)) (hasInts_newA (w := wr.drew) [y] rfl rfl (by simp) rfl)

set_option maxHeartbeats 8000000 in
set_option maxRecDepth 100000 in
theorem walk_big (w : World) (n : Int) (b : Option Addr) (M cp : Nat) (h : 20 < M) : Calls Try.prog 5 #[.int .i64 n, .slice b M cp] w fun e w' => e = .returned (.bool true) ∧ Below w.heap.size w w' := by
  have h1 : decide ((20 : Int) < M) = true := by simp; omega
  go_enter Try.func5, Try.ntmps5
  go_wp2_with fail
  ((with_reducible refine (sane_any _).mono ?_); rintro e w1 ⟨rfl, hb⟩)
  have HW := Lib.hid (hb)
  have zz : w.heap.size + 0 ≤ w1.heap.size := by have := hb.size; (try simp at this); omega
  clear hb zz
  go_wp2
  go_ret
  exact ⟨rfl, HW.out⟩
set_option maxHeartbeats 8000000 in
set_option maxRecDepth 100000 in
theorem walk_nil (w : World) (n : Int) (b : Option Addr) (M cp : Nat) (h : M = 0) : Calls Try.prog 5 #[.int .i64 n, .slice b M cp] w fun e w' => e = .returned (.bool true) ∧ Below w.heap.size w w' := by
  subst h
  go_enter Try.func5, Try.ntmps5
  go_wp2_with fail
  ((with_reducible refine (sane_any _).mono ?_); rintro e w1 ⟨rfl, hb⟩)
  have HW := Lib.hid (hb)
  have zz : w.heap.size + 0 ≤ w1.heap.size := by have := hb.size; (try simp at this); omega
  clear hb zz
  go_wp2
  go_ret
  exact ⟨rfl, HW.out⟩
set_option maxHeartbeats 8000000 in
set_option maxRecDepth 100000 in
theorem walk_sm (w : World) (n : Int) (b : Option Addr) (M cp : Nat) (zs : List Int) (hM : M = zs.length) (hx : HasInts w (.slice b M cp) zs) (h : M ≤ 20) (h0 : 0 < M) : Calls Try.prog 5 #[.int .i64 n, .slice b M cp] w fun e w' => e = .returned (.bool true) ∧ Below w.heap.size w w' := by
  have h1 : decide ((20 : Int) < M) = false := by simp; omega
  have h2 : ((M : Int) == 0) = false := by simp; omega
  have HM := Lib.hid hM
  obtain ⟨bb, oo, rfl, hc⟩ : ∃ bb oo, b = some ⟨bb, oo, none⟩ ∧ ∀ j, j < M → w.cell? ⟨bb, oo + j, none⟩ = some (.int .i64 (zs.getD j 0)) := by
    obtain ⟨a', c', he, _, k⟩ := hx
    simp only [Value.slice.injEq] at he
    obtain ⟨rfl, _, _⟩ := he
    rcases k with k | ⟨b, o, rfl, k⟩
    · omega
    · exact ⟨b, o, rfl, fun j hj => k j (by omega)⟩
  have hbw : bb < w.heap.size := World.block_lt_of_cell? w _ (hc 0 h0)
  have HC := Lib.hid hc
  obtain ⟨z0, hz0⟩ : ∃ z, z = zs.getD 0 0 := ⟨_, rfl⟩
  have HZ0 := Lib.hid hz0
  clear hc hx hM hz0
  go_enter Try.func5, Try.ntmps5
  go_wp2_with fail
  ((with_reducible refine (sane_any _).mono ?_); rintro e w1 ⟨rfl, hb⟩)
  have HW := Lib.hid (hb)
  have zz : w.heap.size + 0 ≤ w1.heap.size := by have := hb.size; (try simp at this); omega
  clear hb zz
  have hbw1 : bb < w1.heap.size := Nat.lt_of_lt_of_le hbw HW.out.size
  go_wp2_with fail
  obtain ⟨W0, hW0⟩ : ∃ W, W = (w1.alloc (.cells #[.int .i64 n] 3)).alloc (.cells #[.slice (some ⟨w1.heap.size, 0, none⟩) 1 1] 24) := ⟨_, rfl⟩
  rw [← hW0]
  obtain ⟨X, hX⟩ : ∃ X, X = w1.heap.size + 1 := ⟨_, rfl⟩
  have B0 : Hid (Below w1.heap.size w1 W0) := Lib.hid (by rw [hW0]; exact ((Below.refl _ _).alloc (Nat.le_refl _) _).alloc (by simp) _)
  have c2 : Hid (W0.cell? ⟨X, 0, none⟩ = some (.slice (some ⟨w1.heap.size, 0, none⟩) 1 1)) := Lib.hid (by rw [hW0, hX]; go_simp)
  have f2 : Hid (W0.frozen? ⟨X, 0, none⟩ = false) := Lib.hid (by rw [hW0, hX]; go_simp)
  have T2 : Hid (Tag W0 X 24) := Lib.hid (by
    rw [hW0, hX]
    have := tag_new (w1.alloc (.cells #[.int .i64 n] 3)) #[.slice (some ⟨w1.heap.size, 0, none⟩) 1 1] 24
    simpa using this)
  have R0 : Hid (RowOk w w1.heap.size (.slice none 0 0) W0 (.slice (some ⟨w1.heap.size, 0, none⟩) 1 1) [n]) := Lib.hid (by
    rw [hW0]
    refine rowOk_keep (rowOk_own ?_) (below_new1 _ _)
    have := World.ownsRow_lit (base := w1.heap.size) (e := 3) (size := 1) w1 #[.int .i64 n] 1 (Nat.le_refl _) (by unfold maxLen; omega) rfl
    simpa using this)
  have HX := Lib.hid hX
  have hXw : w1.heap.size < X := by omega
  have H0 : Hid (HasInts w (.slice none 0 0) []) := Lib.hid ⟨none, 0, rfl, by simp, Or.inl rfl⟩
  rw [← hX]
  clear hW0 hX
  go_loopw [7, 8] (fun went i wr => ∃ (k : Nat) (am : Option Addr) (cm : Nat) (y : Int), k ≤ M ∧ i = .int .i64 k ∧ (k = 0 ∧ y = n ∧ went = .int .i64 0 ∨ 0 < k ∧ y = z0 ∧ y ≠ n ∧ went = .int .i64 1) ∧ wr.cell? ⟨X, 0, none⟩ = some (.slice am 1 cm) ∧ wr.frozen? ⟨X, 0, none⟩ = false ∧ RowOk w w1.heap.size (.slice none 0 0) wr (.slice am 1 cm) [y] ∧ Tag wr X 24 ∧ Below w1.heap.size w1 wr) (fun _ i _ => M - (intOf i).toNat)
  case atStart => exact ⟨0, _, _, n, Nat.zero_le _, rfl, Or.inl ⟨rfl, rfl, rfl⟩, c2.out, f2.out, R0.out, T2.out, B0.out⟩
  case round =>
    obtain ⟨k, am, cm, y, hk, rfl, hst, hxb, hxf, hrow, htag, hbr⟩ := hrel
    have HROW := Lib.hid hrow
    have HTAG := Lib.hid htag
    have HBR := Lib.hid hbr
    have hXs : X < wr.heap.size := tag_lt htag
    have HWr : Hid (Below w.heap.size w wr) := Lib.hid (HW.out.trans (hbr.mono HW.out.size))
    clear hrow htag hbr
    by_cases hlt : k < M
    · obtain ⟨x, hxx⟩ : ∃ x, x = zs.getD k 0 := ⟨_, rfl⟩
      have hcx := cel_below HWr.out (HC.out k hlt)
      rw [← hxx] at hcx
      have HXX := Lib.hid hxx
      clear hxx
      have hlt2 : (k : Int) < M := by omega
      by_cases hxn : x = n
      · have hxe : (x == n) = true := by simp [hxn]
        clear hxn hst
        go_wp2
        go_ret
        exact ⟨rfl, HWr.out⟩
      have hxe : (x == n) = false := by simp [hxn]
      have HXN := Lib.hid hxn
      have HST := Lib.hid hst
      have hwent : ∃ g, u7 = Value.int .i64 g ∧ 0 ≤ g ∧ g ≤ 1 := by
        rcases hst with ⟨_, _, h⟩ | ⟨_, _, _, h⟩
        · exact ⟨_, h, by omega, by omega⟩
        · exact ⟨_, h, by omega, by omega⟩
      obtain ⟨g, rfl, hg1, hg2⟩ := hwent
      clear hst hxn
      obtain ⟨y2, hy2⟩ : ∃ r, r = if y = n then x else y := ⟨_, rfl⟩
      obtain ⟨rq, hrq⟩ : ∃ r, r = (y == n) := ⟨_, rfl⟩
      have HQ : Hid (∀ w, HasInts w (.slice am 1 cm) [y] → Calls Try.prog 17 #[.agg #[.slice am 1 cm], .agg #[.int .i64 3, .int .i64 0, .int .i64 n, .int .i64 x, .string ⟨#[]⟩]] w fun e w' =>
          ∃ a c, e = .returned (.tuple #[.agg #[.slice a 1 c], .agg #[.int .i64 y, .bool rq], .int .i64 0]) ∧ HasInts w' (.slice a 1 c) [y2] ∧ Below w.heap.size w w' ∧ FromO w' w.heap.size (.slice am 1 cm) (.slice a 1 c) [y2]) := Lib.hid (fun w hw => by
        rw [hy2, hrq]; exact cas_do n x y _ w hw)
      have HY2 := Lib.hid hy2
      have HRQ := Lib.hid hrq
      clear hy2 hrq
      have HWrr := Lib.hid HWr.out
      go_upto_region 11 with fail
      go_cut [9, 10, 11] (fun s9 s10 s11 wx => ∃ (gn gr : Nat) (an' : Option Addr) (cn : Nat), s9 = .pointer (some ⟨gn, 0, none⟩) ∧ s10 = .pointer (some ⟨gr, 0, none⟩) ∧ s11 = .int .i64 0 ∧ wx.cell? ⟨gn, 0, none⟩ = some (.slice an' 1 cn) ∧ wx.cell? ⟨gr, 0, none⟩ = some (.int .i64 y) ∧ wx.cell? ⟨gr, 1, none⟩ = some (.bool rq) ∧ RowOk w w1.heap.size (.slice none 0 0) wx (.slice an' 1 cn) [y2] ∧ Below wr.heap.size wr wx)
      case first =>
        have HW := Lib.hid (Below.refl wr.heap.size wr)
        have HWS := Lib.hid (Nat.le_refl wr.heap.size)
        have HRX := Lib.hid HROW.out
        have hbwr : bb < wr.heap.size := Nat.lt_of_lt_of_le hbw HWr.out.size
        refine wp_region_held_drew (S := fun W => W.cell? ⟨X, 0, none⟩ = some (.slice am 1 cm) ∧ W.cell? ⟨bb, oo + k, none⟩ = some (.int .i64 x)) (by kernel_rfl) ?_ (fun hHeld => ?_)
        · (try dsimp only); exact ⟨by first | assumption | go_simp, by first | assumption | go_simp⟩
        replace HW := Lib.hid (show Below _ _ (World.drew wr) from below_drews HW.out 1)
        obtain ⟨wy0, hwy⟩ : ∃ W, W = World.drew wr := ⟨_, rfl⟩
        rw [← hwy] at HW ⊢
        have hHeld2 := hHeld
        rw [← hwy] at hHeld2
        clear hHeld
        have LO : wr.heap.size ≤ wy0.heap.size := by rw [hwy]; exact Nat.le_refl _
        have hb : Below wr.heap.size wr wy0 := by rw [hwy]; exact below_drews (Below.refl _ _) 1
        replace HRX := Lib.hid (rowOk_keep HRX.out hb)
        clear hb hwy
        obtain ⟨s0, s1⟩ := hHeld2
        have hHeld : (fun W => W.cell? ⟨X, 0, none⟩ = some (.slice am 1 cm) ∧ W.cell? ⟨bb, oo + k, none⟩ = some (.int .i64 x)) wy0 := ⟨s0, s1⟩
        first | (refine wpAnyH_take (i := 0) (oi := ?oi1) (v := ?v1) ?hi1 (by kernel_rfl) (by kernel_rfl) (by kernel_rfl) ?hQ1 (Or.inl ⟨?hw1, ?hy1⟩) (by assumption) ?rest1; (case hi1 => (simp only [List.getElem?_toArray, List.getElem?_cons_zero]; rfl)); (case hQ1 => exact fun _ _ _ h => h); (case hw1 => rfl); (case hy1 => ((intro w hSw); (try dsimp only at hSw); go_simp; (try with_reducible rfl)))) | (refine wpAnyH_take (i := 0) (oi := ?oi2) (v := undef) ?hi2 (by kernel_rfl) (by kernel_rfl) (by kernel_rfl) ?hQ2 (Or.inr ⟨?hw2, rfl⟩) (by assumption) ?rest2; (case hi2 => (simp only [List.getElem?_toArray, List.getElem?_cons_zero]; rfl)); (case hQ2 => exact fun _ _ _ h => h); (case hw2 => rfl))
        (try simp only [Act.put, List.setIfInBounds_toArray, List.set_cons_zero, List.set_cons_succ])
        first | (refine wpAnyH_take (i := 1) (oi := ?oi3) (v := ?v3) ?hi3 (by kernel_rfl) (by kernel_rfl) (by kernel_rfl) ?hQ3 (Or.inl ⟨?hw3, ?hy3⟩) (by assumption) ?rest3; (case hi3 => (simp only [List.getElem?_toArray, List.getElem?_cons_succ, List.getElem?_cons_zero]; rfl)); (case hQ3 => exact fun _ _ _ h => h); (case hw3 => rfl); (case hy3 => ((intro w hSw); (try dsimp only at hSw); go_simp; (try with_reducible rfl)))) | (refine wpAnyH_take (i := 1) (oi := ?oi4) (v := undef) ?hi4 (by kernel_rfl) (by kernel_rfl) (by kernel_rfl) ?hQ4 (Or.inr ⟨?hw4, rfl⟩) (by assumption) ?rest4; (case hi4 => (simp only [List.getElem?_toArray, List.getElem?_cons_succ, List.getElem?_cons_zero]; rfl)); (case hQ4 => exact fun _ _ _ h => h); (case hw4 => rfl))
        (try simp only [Act.put, List.setIfInBounds_toArray, List.set_cons_zero, List.set_cons_succ])
        first | (refine wpAnyH_take (i := 2) (oi := ?oi5) (v := ?v5) ?hi5 (by kernel_rfl) (by kernel_rfl) (by kernel_rfl) ?hQ5 (Or.inl ⟨?hw5, ?hy5⟩) (by assumption) ?rest5; (case hi5 => (simp only [List.getElem?_toArray, List.getElem?_cons_succ, List.getElem?_cons_zero]; rfl)); (case hQ5 => exact fun _ _ _ h => h); (case hw5 => rfl); (case hy5 => ((intro w hSw); (try dsimp only at hSw); go_simp; (try with_reducible rfl)))) | (refine wpAnyH_take (i := 2) (oi := ?oi6) (v := undef) ?hi6 (by kernel_rfl) (by kernel_rfl) (by kernel_rfl) ?hQ6 (Or.inr ⟨?hw6, rfl⟩) (by assumption) ?rest6; (case hi6 => (simp only [List.getElem?_toArray, List.getElem?_cons_succ, List.getElem?_cons_zero]; rfl)); (case hQ6 => exact fun _ _ _ h => h); (case hw6 => rfl))
        (try simp only [Act.put, List.setIfInBounds_toArray, List.set_cons_zero, List.set_cons_succ])
        first | (refine wpAnyH_take (i := 3) (oi := ?oi7) (v := ?v7) ?hi7 (by kernel_rfl) (by kernel_rfl) (by kernel_rfl) ?hQ7 (Or.inl ⟨?hw7, ?hy7⟩) (by assumption) ?rest7; (case hi7 => (simp only [List.getElem?_toArray, List.getElem?_cons_succ, List.getElem?_cons_zero]; rfl)); (case hQ7 => exact fun _ _ _ h => h); (case hw7 => rfl); (case hy7 => ((intro w hSw); (try dsimp only at hSw); go_simp; (try with_reducible rfl)))) | (refine wpAnyH_take (i := 3) (oi := ?oi8) (v := undef) ?hi8 (by kernel_rfl) (by kernel_rfl) (by kernel_rfl) ?hQ8 (Or.inr ⟨?hw8, rfl⟩) (by assumption) ?rest8; (case hi8 => (simp only [List.getElem?_toArray, List.getElem?_cons_succ, List.getElem?_cons_zero]; rfl)); (case hQ8 => exact fun _ _ _ h => h); (case hw8 => rfl))
        (try simp only [Act.put, List.setIfInBounds_toArray, List.set_cons_zero, List.set_cons_succ])
        first | (refine wpAnyH_take (i := 4) (oi := ?oi9) (v := ?v9) ?hi9 (by kernel_rfl) (by kernel_rfl) (by kernel_rfl) ?hQ9 (Or.inl ⟨?hw9, ?hy9⟩) (by assumption) ?rest9; (case hi9 => (simp only [List.getElem?_toArray, List.getElem?_cons_succ, List.getElem?_cons_zero]; rfl)); (case hQ9 => exact fun _ _ _ h => h); (case hw9 => rfl); (case hy9 => ((intro w hSw); (try dsimp only at hSw); go_simp; (try with_reducible rfl)))) | (refine wpAnyH_take (i := 4) (oi := ?oi10) (v := undef) ?hi10 (by kernel_rfl) (by kernel_rfl) (by kernel_rfl) ?hQ10 (Or.inr ⟨?hw10, rfl⟩) (by assumption) ?rest10; (case hi10 => (simp only [List.getElem?_toArray, List.getElem?_cons_succ, List.getElem?_cons_zero]; rfl)); (case hQ10 => exact fun _ _ _ h => h); (case hw10 => rfl))
        (try simp only [Act.put, List.setIfInBounds_toArray, List.set_cons_zero, List.set_cons_succ])
        first | (refine wpAnyH_take (i := 5) (oi := ?oi11) (v := ?v11) ?hi11 (by kernel_rfl) (by kernel_rfl) (by kernel_rfl) ?hQ11 (Or.inl ⟨?hw11, ?hy11⟩) (by assumption) ?rest11; (case hi11 => (simp only [List.getElem?_toArray, List.getElem?_cons_succ, List.getElem?_cons_zero]; rfl)); (case hQ11 => exact fun _ _ _ h => h); (case hw11 => rfl); (case hy11 => ((intro w hSw); (try dsimp only at hSw); go_simp; (try with_reducible rfl)))) | (refine wpAnyH_take (i := 5) (oi := ?oi12) (v := undef) ?hi12 (by kernel_rfl) (by kernel_rfl) (by kernel_rfl) ?hQ12 (Or.inr ⟨?hw12, rfl⟩) (by assumption) ?rest12; (case hi12 => (simp only [List.getElem?_toArray, List.getElem?_cons_succ, List.getElem?_cons_zero]; rfl)); (case hQ12 => exact fun _ _ _ h => h); (case hw12 => rfl))
        (try simp only [Act.put, List.setIfInBounds_toArray, List.set_cons_zero, List.set_cons_succ])
        first | (refine wpAnyH_take (i := 6) (oi := ?oi13) (v := ?v13) ?hi13 (by kernel_rfl) (by kernel_rfl) (by kernel_rfl) ?hQ13 (Or.inl ⟨?hw13, ?hy13⟩) (by assumption) ?rest13; (case hi13 => (simp only [List.getElem?_toArray, List.getElem?_cons_succ, List.getElem?_cons_zero]; rfl)); (case hQ13 => exact fun _ _ _ h => h); (case hw13 => rfl); (case hy13 => ((intro w hSw); (try dsimp only at hSw); go_simp; (try with_reducible rfl)))) | (refine wpAnyH_take (i := 6) (oi := ?oi14) (v := undef) ?hi14 (by kernel_rfl) (by kernel_rfl) (by kernel_rfl) ?hQ14 (Or.inr ⟨?hw14, rfl⟩) (by assumption) ?rest14; (case hi14 => (simp only [List.getElem?_toArray, List.getElem?_cons_succ, List.getElem?_cons_zero]; rfl)); (case hQ14 => exact fun _ _ _ h => h); (case hw14 => rfl))
        (try simp only [Act.put, List.setIfInBounds_toArray, List.set_cons_zero, List.set_cons_succ])
        clear hHeld
        refine wpAnyH_ready (rs := [7, 12, 13]) (by kernel_rfl) (by simp) ?_
        refine AllReadyH.cons (o := ?oi15) ?hi15 (fun K hK => ?rest15) (AllReadyH.cons (o := ?oi16) ?hi16 (fun K hK => ?rest16) (AllReadyH.cons (o := ?oi17) ?hi17 (fun K hK => ?rest17) AllReadyH.nil))
        (case hi15 => (simp only [List.getElem?_toArray, List.getElem?_cons_succ, List.getElem?_cons_zero]; rfl))
        (case hi16 => (simp only [List.getElem?_toArray, List.getElem?_cons_succ, List.getElem?_cons_zero]; rfl))
        (case hi17 => (simp only [List.getElem?_toArray, List.getElem?_cons_succ, List.getElem?_cons_zero]; rfl))
        case rest15 =>
          go_simp
          ((with_reducible refine (HQ.out _ (rowOk_has HRX.out)).mono ?_); rintro e wz18 ⟨an', cn, rfl, hu, hb, hF⟩)
          replace HW := Lib.hid (below_step HW.out hb)
          replace s0 := cel_below hb s0
          replace s1 := cel_below hb s1
          replace HRX := Lib.hid (rowOk_keep HRX.out hb)
          have HU := Lib.hid (rowOk_from HRX.out hu hF (by omega))
          clear hu hF HRX
          replace LO := Nat.le_trans LO hb.size
          clear hb
          refine hK.out _ _ ?_ (fun _ => ?_)
          · (try dsimp only); exact ⟨s0, s1⟩
          clear hK K
          (try simp only [Act.put, List.setIfInBounds_toArray, List.set_cons_zero, List.set_cons_succ])
          have hHeld : (fun W => W.cell? ⟨X, 0, none⟩ = some (.slice am 1 cm) ∧ W.cell? ⟨bb, oo + k, none⟩ = some (.int .i64 x)) wz18 := ⟨s0, s1⟩
          first | (refine wpAnyH_take (i := 8) (oi := ?oi19) (v := ?v19) ?hi19 (by kernel_rfl) (by kernel_rfl) (by kernel_rfl) ?hQ19 (Or.inl ⟨?hw19, ?hy19⟩) (by assumption) ?rest19; (case hi19 => (simp only [List.getElem?_toArray, List.getElem?_cons_succ, List.getElem?_cons_zero]; rfl)); (case hQ19 => exact fun _ _ _ h => h); (case hw19 => rfl); (case hy19 => ((intro w hSw); (try dsimp only at hSw); go_simp; (try with_reducible rfl)))) | (refine wpAnyH_take (i := 8) (oi := ?oi20) (v := undef) ?hi20 (by kernel_rfl) (by kernel_rfl) (by kernel_rfl) ?hQ20 (Or.inr ⟨?hw20, rfl⟩) (by assumption) ?rest20; (case hi20 => (simp only [List.getElem?_toArray, List.getElem?_cons_succ, List.getElem?_cons_zero]; rfl)); (case hQ20 => exact fun _ _ _ h => h); (case hw20 => rfl))
          (try simp only [Act.put, List.setIfInBounds_toArray, List.set_cons_zero, List.set_cons_succ])
          first | (refine wpAnyH_take (i := 9) (oi := ?oi21) (v := ?v21) ?hi21 (by kernel_rfl) (by kernel_rfl) (by kernel_rfl) ?hQ21 (Or.inl ⟨?hw21, ?hy21⟩) (by assumption) ?rest21; (case hi21 => (simp only [List.getElem?_toArray, List.getElem?_cons_succ, List.getElem?_cons_zero]; rfl)); (case hQ21 => exact fun _ _ _ h => h); (case hw21 => rfl); (case hy21 => ((intro w hSw); (try dsimp only at hSw); go_simp; (try with_reducible rfl)))) | (refine wpAnyH_take (i := 9) (oi := ?oi22) (v := undef) ?hi22 (by kernel_rfl) (by kernel_rfl) (by kernel_rfl) ?hQ22 (Or.inr ⟨?hw22, rfl⟩) (by assumption) ?rest22; (case hi22 => (simp only [List.getElem?_toArray, List.getElem?_cons_succ, List.getElem?_cons_zero]; rfl)); (case hQ22 => exact fun _ _ _ h => h); (case hw22 => rfl))
          (try simp only [Act.put, List.setIfInBounds_toArray, List.set_cons_zero, List.set_cons_succ])
          first | (refine wpAnyH_take (i := 10) (oi := ?oi23) (v := ?v23) ?hi23 (by kernel_rfl) (by kernel_rfl) (by kernel_rfl) ?hQ23 (Or.inl ⟨?hw23, ?hy23⟩) (by assumption) ?rest23; (case hi23 => (simp only [List.getElem?_toArray, List.getElem?_cons_succ, List.getElem?_cons_zero]; rfl)); (case hQ23 => exact fun _ _ _ h => h); (case hw23 => rfl); (case hy23 => ((intro w hSw); (try dsimp only at hSw); go_simp; (try with_reducible rfl)))) | (refine wpAnyH_take (i := 10) (oi := ?oi24) (v := undef) ?hi24 (by kernel_rfl) (by kernel_rfl) (by kernel_rfl) ?hQ24 (Or.inr ⟨?hw24, rfl⟩) (by assumption) ?rest24; (case hi24 => (simp only [List.getElem?_toArray, List.getElem?_cons_succ, List.getElem?_cons_zero]; rfl)); (case hQ24 => exact fun _ _ _ h => h); (case hw24 => rfl))
          (try simp only [Act.put, List.setIfInBounds_toArray, List.set_cons_zero, List.set_cons_succ])
          first | (refine wpAnyH_take (i := 11) (oi := ?oi25) (v := ?v25) ?hi25 (by kernel_rfl) (by kernel_rfl) (by kernel_rfl) ?hQ25 (Or.inl ⟨?hw25, ?hy25⟩) (by assumption) ?rest25; (case hi25 => (simp only [List.getElem?_toArray, List.getElem?_cons_succ, List.getElem?_cons_zero]; rfl)); (case hQ25 => exact fun _ _ _ h => h); (case hw25 => rfl); (case hy25 => ((intro w hSw); (try dsimp only at hSw); go_simp; (try with_reducible rfl)))) | (refine wpAnyH_take (i := 11) (oi := ?oi26) (v := undef) ?hi26 (by kernel_rfl) (by kernel_rfl) (by kernel_rfl) ?hQ26 (Or.inr ⟨?hw26, rfl⟩) (by assumption) ?rest26; (case hi26 => (simp only [List.getElem?_toArray, List.getElem?_cons_succ, List.getElem?_cons_zero]; rfl)); (case hQ26 => exact fun _ _ _ h => h); (case hw26 => rfl))
          (try simp only [Act.put, List.setIfInBounds_toArray, List.set_cons_zero, List.set_cons_succ])
          clear hHeld
          refine wpAnyH_ready (rs := [12, 13]) (by kernel_rfl) (by simp) ?_
          refine AllReadyH.cons (o := ?oi27) ?hi27 (fun K hK => ?rest27) (AllReadyH.cons (o := ?oi28) ?hi28 (fun K hK => ?rest28) AllReadyH.nil)
          (case hi27 => (simp only [List.getElem?_toArray, List.getElem?_cons_succ, List.getElem?_cons_zero]; rfl))
          (case hi28 => (simp only [List.getElem?_toArray, List.getElem?_cons_succ, List.getElem?_cons_zero]; rfl))
          case rest27 =>
            go_simp
            obtain ⟨wz29, hwy⟩ : ∃ W, W = wz18.alloc (.cells #[.slice none 0 0] 24) := ⟨_, rfl⟩
            rw [← hwy]
            have hb : Below wz18.heap.size wz18 wz29 := by rw [hwy]; exact below_new1 _ _
            have nc0 : wz29.cell? ⟨wz18.heap.size, 0, none⟩ = some (.slice none 0 0) := by rw [hwy, World.cell?_alloc_at _ _ _ _ rfl]; rfl
            have nf0 : wz29.frozen? ⟨wz18.heap.size, 0, none⟩ = false := by rw [hwy]; exact World.frozen?_alloc_at _ _ _ _ rfl
            have nt : Tag wz29 wz18.heap.size 24 := by rw [hwy]; exact tag_new _ _ _
            have nz : wz18.heap.size < wz29.heap.size := by rw [hwy]; simp
            have nl := LO
            replace HW := Lib.hid (below_step HW.out hb)
            replace s0 := cel_below hb s0
            replace s1 := cel_below hb s1
            replace HU := Lib.hid (rowOk_keep HU.out hb)
            replace LO := Nat.le_trans LO hb.size
            clear hb hwy
            refine hK.out _ _ ?_ (fun _ => ?_)
            · (try dsimp only); exact ⟨s0, s1⟩
            clear hK K
            (try simp only [Act.put, List.setIfInBounds_toArray, List.set_cons_zero, List.set_cons_succ])
            refine wpAnyH_ready (rs := [13]) (by kernel_rfl) (by simp) ?_
            refine AllReadyH.cons (o := ?oi30) ?hi30 (fun K hK => ?rest30) AllReadyH.nil
            (case hi30 => (simp only [List.getElem?_toArray, List.getElem?_cons_succ, List.getElem?_cons_zero]; rfl))
            go_simp
            obtain ⟨wz31, hwy⟩ : ∃ W, W = wz29.alloc (.cells #[.int .i64 0, .bool false] 36) := ⟨_, rfl⟩
            rw [← hwy]
            have hb : Below wz29.heap.size wz29 wz31 := by rw [hwy]; exact below_new1 _ _
            have rc0 : wz31.cell? ⟨wz29.heap.size, 0, none⟩ = some (.int .i64 0) := by rw [hwy, World.cell?_alloc_at _ _ _ _ rfl]; rfl
            have rf0 : wz31.frozen? ⟨wz29.heap.size, 0, none⟩ = false := by rw [hwy]; exact World.frozen?_alloc_at _ _ _ _ rfl
            have rc1 : wz31.cell? ⟨wz29.heap.size, 1, none⟩ = some (.bool false) := by rw [hwy, World.cell?_alloc_at _ _ _ _ rfl]; rfl
            have rf1 : wz31.frozen? ⟨wz29.heap.size, 1, none⟩ = false := by rw [hwy]; exact World.frozen?_alloc_at _ _ _ _ rfl
            have rt : Tag wz31 wz29.heap.size 36 := by rw [hwy]; exact tag_new _ _ _
            have rz : wz29.heap.size < wz31.heap.size := by rw [hwy]; simp
            have rl := LO
            replace HW := Lib.hid (below_step HW.out hb)
            replace s0 := cel_below hb s0
            replace s1 := cel_below hb s1
            replace nc0 := cel_below hb nc0
            replace nf0 := fro_below hb nz nf0
            replace nt := tag_below nt hb
            have nrn : wz18.heap.size ≠ wz29.heap.size := by omega
            replace nz := lt_below hb nz
            replace HU := Lib.hid (rowOk_keep HU.out hb)
            replace LO := Nat.le_trans LO hb.size
            clear hb hwy
            refine hK.out _ _ ?_ (fun _ => ?_)
            · (try dsimp only); exact ⟨s0, s1⟩
            clear hK K
            (try simp only [Act.put, List.setIfInBounds_toArray, List.set_cons_zero, List.set_cons_succ])
            refine wpAnyH_ready (rs := [14]) (by kernel_rfl) (by simp) ?_
            refine AllReadyH.cons (o := ?oi32) ?hi32 (fun K hK => ?rest32) AllReadyH.nil
            (case hi32 => (simp only [List.getElem?_toArray, List.getElem?_cons_succ, List.getElem?_cons_zero]; rfl))
            go_simp
            obtain ⟨wz33, hwy⟩ : ∃ W, W = (wz31.setCell ⟨wz18.heap.size, 0, none⟩ (.slice an' 1 cn)) := ⟨_, rfl⟩
            rw [← hwy]
            replace s0 : wz33.cell? ⟨X, 0, none⟩ = some (.slice am 1 cm) := by rw [hwy]; exact keepA_ (s0) (Or.inl (by omega))
            replace s1 : wz33.cell? ⟨bb, oo + k, none⟩ = some (.int .i64 x) := by rw [hwy]; exact keepA_ (s1) (Or.inl (by omega))
            replace rc0 : wz33.cell? ⟨wz29.heap.size, 0, none⟩ = some (.int .i64 0) := by rw [hwy]; exact keepA_ (rc0) (Or.inl (by omega))
            replace rf0 : wz33.frozen? ⟨wz29.heap.size, 0, none⟩ = false := by rw [hwy]; simpa using rf0
            replace rc1 : wz33.cell? ⟨wz29.heap.size, 1, none⟩ = some (.bool false) := by rw [hwy]; exact keepA_ (rc1) (Or.inl (by omega))
            replace rf1 : wz33.frozen? ⟨wz29.heap.size, 1, none⟩ = false := by rw [hwy]; simpa using rf1
            replace HU : Hid (RowOk w w1.heap.size (.slice none 0 0) wz33 (.slice an' 1 cn) [y2]) := Lib.hid (by rw [hwy]; exact (rowOk_set (H0.out) HU.out nt (by decide) (by have := HWrr.out.size; omega)))
            have nd0 : wz33.cell? ⟨wz18.heap.size, 0, none⟩ = some (.slice an' 1 cn) := by rw [hwy]; exact World.cell?_setCell_same _ _ _ nc0
            replace nt : Tag wz33 wz18.heap.size 24 := by rw [hwy]; exact (tag_set nt _ _)
            replace rt : Tag wz33 wz29.heap.size 36 := by rw [hwy]; exact (tag_set rt _ _)
            replace nf0 : wz33.frozen? ⟨wz18.heap.size, 0, none⟩ = false := by rw [hwy]; simpa using nf0
            replace HW := Lib.hid (Below.setCell (p := ⟨wz18.heap.size, 0, none⟩) HW.out (by have := HWS.out; dsimp only; omega) (.slice an' 1 cn))
            rw [← hwy] at HW
            have hsz : wz33.heap.size = wz31.heap.size := by rw [hwy]; simp
            replace nz : wz18.heap.size < wz33.heap.size := by omega
            replace rz : wz29.heap.size < wz33.heap.size := by omega
            replace LO : _ ≤ wz33.heap.size := Nat.le_trans LO (Nat.le_of_eq hsz.symm)
            clear hsz hwy nc0
            have nc0 := nd0
            clear nd0
            refine hK.out _ _ ?_ (fun _ => ?_)
            · (try dsimp only); exact ⟨s0, s1⟩
            clear hK K
            (try simp only [Act.put, List.setIfInBounds_toArray, List.set_cons_zero, List.set_cons_succ])
            refine wpAnyH_ready (rs := [15]) (by kernel_rfl) (by simp) ?_
            refine AllReadyH.cons (o := ?oi34) ?hi34 (fun K hK => ?rest34) AllReadyH.nil
            (case hi34 => (simp only [List.getElem?_toArray, List.getElem?_cons_succ, List.getElem?_cons_zero]; rfl))
            go_simp
            obtain ⟨wz35, hwy⟩ : ∃ W, W = ((wz33.setCell ⟨wz29.heap.size, 0, none⟩ (.int .i64 y)).setCell ⟨wz29.heap.size, 1, none⟩ (.bool rq)) := ⟨_, rfl⟩
            rw [← hwy]
            replace s0 : wz35.cell? ⟨X, 0, none⟩ = some (.slice am 1 cm) := by rw [hwy]; exact keepA_ (keepA_ (s0) (Or.inl (by omega))) (Or.inl (by omega))
            replace s1 : wz35.cell? ⟨bb, oo + k, none⟩ = some (.int .i64 x) := by rw [hwy]; exact keepA_ (keepA_ (s1) (Or.inl (by omega))) (Or.inl (by omega))
            replace nc0 : wz35.cell? ⟨wz18.heap.size, 0, none⟩ = some (.slice an' 1 cn) := by rw [hwy]; exact keepA_ (keepA_ (nc0) (Or.inl (by omega))) (Or.inl (by omega))
            replace nf0 : wz35.frozen? ⟨wz18.heap.size, 0, none⟩ = false := by rw [hwy]; simpa using nf0
            replace HU : Hid (RowOk w w1.heap.size (.slice none 0 0) wz35 (.slice an' 1 cn) [y2]) := Lib.hid (by rw [hwy]; exact (rowOk_set (H0.out) (rowOk_set (H0.out) HU.out rt (by decide) (by have := HWrr.out.size; omega)) (tag_set rt _ _) (by decide) (by have := HWrr.out.size; omega)))
            have rd0 : wz35.cell? ⟨wz29.heap.size, 0, none⟩ = some (.int .i64 y) := by rw [hwy]; exact keepA_ (World.cell?_setCell_same _ _ _ rc0) (Or.inr (by simp))
            have rd1 : wz35.cell? ⟨wz29.heap.size, 1, none⟩ = some (.bool rq) := by rw [hwy]; exact World.cell?_setCell_same _ _ _ (keepA_ rc1 (Or.inr (by simp)))
            replace nt : Tag wz35 wz18.heap.size 24 := by rw [hwy]; exact (tag_set (tag_set nt _ _) _ _)
            replace rt : Tag wz35 wz29.heap.size 36 := by rw [hwy]; exact (tag_set (tag_set rt _ _) _ _)
            replace rf0 : wz35.frozen? ⟨wz29.heap.size, 0, none⟩ = false := by rw [hwy]; simpa using rf0
            replace rf1 : wz35.frozen? ⟨wz29.heap.size, 1, none⟩ = false := by rw [hwy]; simpa using rf1
            replace HW := Lib.hid (Below.setCell (p := ⟨wz29.heap.size, 1, none⟩) (Below.setCell (p := ⟨wz29.heap.size, 0, none⟩) HW.out (by have := HWS.out; dsimp only; omega) (.int .i64 y)) (by have := HWS.out; dsimp only; omega) (.bool rq))
            rw [← hwy] at HW
            have hsz : wz35.heap.size = wz33.heap.size := by rw [hwy]; simp
            replace nz : wz18.heap.size < wz35.heap.size := by omega
            replace rz : wz29.heap.size < wz35.heap.size := by omega
            replace LO : _ ≤ wz35.heap.size := Nat.le_trans LO (Nat.le_of_eq hsz.symm)
            clear hsz hwy rc0 rc1
            have rc0 := rd0
            clear rd0
            have rc1 := rd1
            clear rd1
            refine hK.out _ _ ?_ (fun _ => ?_)
            · (try dsimp only); exact ⟨s0, s1⟩
            clear hK K
            (try simp only [Act.put, List.setIfInBounds_toArray, List.set_cons_zero, List.set_cons_succ])
            have hHeld : (fun W => W.cell? ⟨X, 0, none⟩ = some (.slice am 1 cm) ∧ W.cell? ⟨bb, oo + k, none⟩ = some (.int .i64 x)) wz35 := ⟨s0, s1⟩
            first | (refine wpAnyH_take (i := 16) (oi := ?oi36) (v := ?v36) ?hi36 (by kernel_rfl) (by kernel_rfl) (by kernel_rfl) ?hQ36 (Or.inl ⟨?hw36, ?hy36⟩) (by assumption) ?rest36; (case hi36 => (simp only [List.getElem?_toArray, List.getElem?_cons_succ, List.getElem?_cons_zero]; rfl)); (case hQ36 => exact fun _ _ _ h => h); (case hw36 => rfl); (case hy36 => ((intro w hSw); (try dsimp only at hSw); go_simp; (try with_reducible rfl)))) | (refine wpAnyH_take (i := 16) (oi := ?oi37) (v := undef) ?hi37 (by kernel_rfl) (by kernel_rfl) (by kernel_rfl) ?hQ37 (Or.inr ⟨?hw37, rfl⟩) (by assumption) ?rest37; (case hi37 => (simp only [List.getElem?_toArray, List.getElem?_cons_succ, List.getElem?_cons_zero]; rfl)); (case hQ37 => exact fun _ _ _ h => h); (case hw37 => rfl))
            (try simp only [Act.put, List.setIfInBounds_toArray, List.set_cons_zero, List.set_cons_succ])
            clear hHeld
            refine wpAnyH_done (by kernel_rfl) ?_ _
            go_wp2_with fail
            go_meet
            exact ⟨wz18.heap.size, wz29.heap.size, an', cn, rfl, rfl, rfl, nc0, rc0, rc1, HU.out, HW.out⟩
          case rest28 =>
            go_simp
            obtain ⟨wz38, hwy⟩ : ∃ W, W = wz18.alloc (.cells #[.int .i64 0, .bool false] 36) := ⟨_, rfl⟩
            rw [← hwy]
            have hb : Below wz18.heap.size wz18 wz38 := by rw [hwy]; exact below_new1 _ _
            have rc0 : wz38.cell? ⟨wz18.heap.size, 0, none⟩ = some (.int .i64 0) := by rw [hwy, World.cell?_alloc_at _ _ _ _ rfl]; rfl
            have rf0 : wz38.frozen? ⟨wz18.heap.size, 0, none⟩ = false := by rw [hwy]; exact World.frozen?_alloc_at _ _ _ _ rfl
            have rc1 : wz38.cell? ⟨wz18.heap.size, 1, none⟩ = some (.bool false) := by rw [hwy, World.cell?_alloc_at _ _ _ _ rfl]; rfl
            have rf1 : wz38.frozen? ⟨wz18.heap.size, 1, none⟩ = false := by rw [hwy]; exact World.frozen?_alloc_at _ _ _ _ rfl
            have rt : Tag wz38 wz18.heap.size 36 := by rw [hwy]; exact tag_new _ _ _
            have rz : wz18.heap.size < wz38.heap.size := by rw [hwy]; simp
            have rl := LO
            replace HW := Lib.hid (below_step HW.out hb)
            replace s0 := cel_below hb s0
            replace s1 := cel_below hb s1
            replace HU := Lib.hid (rowOk_keep HU.out hb)
            replace LO := Nat.le_trans LO hb.size
            clear hb hwy
            refine hK.out _ _ ?_ (fun _ => ?_)
            · (try dsimp only); exact ⟨s0, s1⟩
            clear hK K
            (try simp only [Act.put, List.setIfInBounds_toArray, List.set_cons_zero, List.set_cons_succ])
            refine wpAnyH_ready (rs := [12]) (by kernel_rfl) (by simp) ?_
            refine AllReadyH.cons (o := ?oi39) ?hi39 (fun K hK => ?rest39) AllReadyH.nil
            (case hi39 => (simp only [List.getElem?_toArray, List.getElem?_cons_succ, List.getElem?_cons_zero]; rfl))
            go_simp
            obtain ⟨wz40, hwy⟩ : ∃ W, W = wz38.alloc (.cells #[.slice none 0 0] 24) := ⟨_, rfl⟩
            rw [← hwy]
            have hb : Below wz38.heap.size wz38 wz40 := by rw [hwy]; exact below_new1 _ _
            have nc0 : wz40.cell? ⟨wz38.heap.size, 0, none⟩ = some (.slice none 0 0) := by rw [hwy, World.cell?_alloc_at _ _ _ _ rfl]; rfl
            have nf0 : wz40.frozen? ⟨wz38.heap.size, 0, none⟩ = false := by rw [hwy]; exact World.frozen?_alloc_at _ _ _ _ rfl
            have nt : Tag wz40 wz38.heap.size 24 := by rw [hwy]; exact tag_new _ _ _
            have nz : wz38.heap.size < wz40.heap.size := by rw [hwy]; simp
            have nl := LO
            replace HW := Lib.hid (below_step HW.out hb)
            replace s0 := cel_below hb s0
            replace s1 := cel_below hb s1
            replace rc0 := cel_below hb rc0
            replace rf0 := fro_below hb rz rf0
            replace rc1 := cel_below hb rc1
            replace rf1 := fro_below hb rz rf1
            replace rt := tag_below rt hb
            have rnn : wz18.heap.size ≠ wz38.heap.size := by omega
            replace rz := lt_below hb rz
            replace HU := Lib.hid (rowOk_keep HU.out hb)
            replace LO := Nat.le_trans LO hb.size
            clear hb hwy
            refine hK.out _ _ ?_ (fun _ => ?_)
            · (try dsimp only); exact ⟨s0, s1⟩
            clear hK K
            (try simp only [Act.put, List.setIfInBounds_toArray, List.set_cons_zero, List.set_cons_succ])
            refine wpAnyH_ready (rs := [14]) (by kernel_rfl) (by simp) ?_
            refine AllReadyH.cons (o := ?oi41) ?hi41 (fun K hK => ?rest41) AllReadyH.nil
            (case hi41 => (simp only [List.getElem?_toArray, List.getElem?_cons_succ, List.getElem?_cons_zero]; rfl))
            go_simp
            obtain ⟨wz42, hwy⟩ : ∃ W, W = (wz40.setCell ⟨wz38.heap.size, 0, none⟩ (.slice an' 1 cn)) := ⟨_, rfl⟩
            rw [← hwy]
            replace s0 : wz42.cell? ⟨X, 0, none⟩ = some (.slice am 1 cm) := by rw [hwy]; exact keepA_ (s0) (Or.inl (by omega))
            replace s1 : wz42.cell? ⟨bb, oo + k, none⟩ = some (.int .i64 x) := by rw [hwy]; exact keepA_ (s1) (Or.inl (by omega))
            replace rc0 : wz42.cell? ⟨wz18.heap.size, 0, none⟩ = some (.int .i64 0) := by rw [hwy]; exact keepA_ (rc0) (Or.inl (by omega))
            replace rf0 : wz42.frozen? ⟨wz18.heap.size, 0, none⟩ = false := by rw [hwy]; simpa using rf0
            replace rc1 : wz42.cell? ⟨wz18.heap.size, 1, none⟩ = some (.bool false) := by rw [hwy]; exact keepA_ (rc1) (Or.inl (by omega))
            replace rf1 : wz42.frozen? ⟨wz18.heap.size, 1, none⟩ = false := by rw [hwy]; simpa using rf1
            replace HU : Hid (RowOk w w1.heap.size (.slice none 0 0) wz42 (.slice an' 1 cn) [y2]) := Lib.hid (by rw [hwy]; exact (rowOk_set (H0.out) HU.out nt (by decide) (by have := HWrr.out.size; omega)))
            have nd0 : wz42.cell? ⟨wz38.heap.size, 0, none⟩ = some (.slice an' 1 cn) := by rw [hwy]; exact World.cell?_setCell_same _ _ _ nc0
            replace rt : Tag wz42 wz18.heap.size 36 := by rw [hwy]; exact (tag_set rt _ _)
            replace nt : Tag wz42 wz38.heap.size 24 := by rw [hwy]; exact (tag_set nt _ _)
            replace nf0 : wz42.frozen? ⟨wz38.heap.size, 0, none⟩ = false := by rw [hwy]; simpa using nf0
            replace HW := Lib.hid (Below.setCell (p := ⟨wz38.heap.size, 0, none⟩) HW.out (by have := HWS.out; dsimp only; omega) (.slice an' 1 cn))
            rw [← hwy] at HW
            have hsz : wz42.heap.size = wz40.heap.size := by rw [hwy]; simp
            replace rz : wz18.heap.size < wz42.heap.size := by omega
            replace nz : wz38.heap.size < wz42.heap.size := by omega
            replace LO : _ ≤ wz42.heap.size := Nat.le_trans LO (Nat.le_of_eq hsz.symm)
            clear hsz hwy nc0
            have nc0 := nd0
            clear nd0
            refine hK.out _ _ ?_ (fun _ => ?_)
            · (try dsimp only); exact ⟨s0, s1⟩
            clear hK K
            (try simp only [Act.put, List.setIfInBounds_toArray, List.set_cons_zero, List.set_cons_succ])
            refine wpAnyH_ready (rs := [15]) (by kernel_rfl) (by simp) ?_
            refine AllReadyH.cons (o := ?oi43) ?hi43 (fun K hK => ?rest43) AllReadyH.nil
            (case hi43 => (simp only [List.getElem?_toArray, List.getElem?_cons_succ, List.getElem?_cons_zero]; rfl))
            go_simp
            obtain ⟨wz44, hwy⟩ : ∃ W, W = ((wz42.setCell ⟨wz18.heap.size, 0, none⟩ (.int .i64 y)).setCell ⟨wz18.heap.size, 1, none⟩ (.bool rq)) := ⟨_, rfl⟩
            rw [← hwy]
            replace s0 : wz44.cell? ⟨X, 0, none⟩ = some (.slice am 1 cm) := by rw [hwy]; exact keepA_ (keepA_ (s0) (Or.inl (by omega))) (Or.inl (by omega))
            replace s1 : wz44.cell? ⟨bb, oo + k, none⟩ = some (.int .i64 x) := by rw [hwy]; exact keepA_ (keepA_ (s1) (Or.inl (by omega))) (Or.inl (by omega))
            replace nc0 : wz44.cell? ⟨wz38.heap.size, 0, none⟩ = some (.slice an' 1 cn) := by rw [hwy]; exact keepA_ (keepA_ (nc0) (Or.inl (by omega))) (Or.inl (by omega))
            replace nf0 : wz44.frozen? ⟨wz38.heap.size, 0, none⟩ = false := by rw [hwy]; simpa using nf0
            replace HU : Hid (RowOk w w1.heap.size (.slice none 0 0) wz44 (.slice an' 1 cn) [y2]) := Lib.hid (by rw [hwy]; exact (rowOk_set (H0.out) (rowOk_set (H0.out) HU.out rt (by decide) (by have := HWrr.out.size; omega)) (tag_set rt _ _) (by decide) (by have := HWrr.out.size; omega)))
            have rd0 : wz44.cell? ⟨wz18.heap.size, 0, none⟩ = some (.int .i64 y) := by rw [hwy]; exact keepA_ (World.cell?_setCell_same _ _ _ rc0) (Or.inr (by simp))
            have rd1 : wz44.cell? ⟨wz18.heap.size, 1, none⟩ = some (.bool rq) := by rw [hwy]; exact World.cell?_setCell_same _ _ _ (keepA_ rc1 (Or.inr (by simp)))
            replace rt : Tag wz44 wz18.heap.size 36 := by rw [hwy]; exact (tag_set (tag_set rt _ _) _ _)
            replace nt : Tag wz44 wz38.heap.size 24 := by rw [hwy]; exact (tag_set (tag_set nt _ _) _ _)
            replace rf0 : wz44.frozen? ⟨wz18.heap.size, 0, none⟩ = false := by rw [hwy]; simpa using rf0
            replace rf1 : wz44.frozen? ⟨wz18.heap.size, 1, none⟩ = false := by rw [hwy]; simpa using rf1
            replace HW := Lib.hid (Below.setCell (p := ⟨wz18.heap.size, 1, none⟩) (Below.setCell (p := ⟨wz18.heap.size, 0, none⟩) HW.out (by have := HWS.out; dsimp only; omega) (.int .i64 y)) (by have := HWS.out; dsimp only; omega) (.bool rq))
            rw [← hwy] at HW
            have hsz : wz44.heap.size = wz42.heap.size := by rw [hwy]; simp
            replace rz : wz18.heap.size < wz44.heap.size := by omega
            replace nz : wz38.heap.size < wz44.heap.size := by omega
            replace LO : _ ≤ wz44.heap.size := Nat.le_trans LO (Nat.le_of_eq hsz.symm)
            clear hsz hwy rc0 rc1
            have rc0 := rd0
            clear rd0
            have rc1 := rd1
            clear rd1
            refine hK.out _ _ ?_ (fun _ => ?_)
            · (try dsimp only); exact ⟨s0, s1⟩
            clear hK K
            (try simp only [Act.put, List.setIfInBounds_toArray, List.set_cons_zero, List.set_cons_succ])
            have hHeld : (fun W => W.cell? ⟨X, 0, none⟩ = some (.slice am 1 cm) ∧ W.cell? ⟨bb, oo + k, none⟩ = some (.int .i64 x)) wz44 := ⟨s0, s1⟩
            first | (refine wpAnyH_take (i := 16) (oi := ?oi45) (v := ?v45) ?hi45 (by kernel_rfl) (by kernel_rfl) (by kernel_rfl) ?hQ45 (Or.inl ⟨?hw45, ?hy45⟩) (by assumption) ?rest45; (case hi45 => (simp only [List.getElem?_toArray, List.getElem?_cons_succ, List.getElem?_cons_zero]; rfl)); (case hQ45 => exact fun _ _ _ h => h); (case hw45 => rfl); (case hy45 => ((intro w hSw); (try dsimp only at hSw); go_simp; (try with_reducible rfl)))) | (refine wpAnyH_take (i := 16) (oi := ?oi46) (v := undef) ?hi46 (by kernel_rfl) (by kernel_rfl) (by kernel_rfl) ?hQ46 (Or.inr ⟨?hw46, rfl⟩) (by assumption) ?rest46; (case hi46 => (simp only [List.getElem?_toArray, List.getElem?_cons_succ, List.getElem?_cons_zero]; rfl)); (case hQ46 => exact fun _ _ _ h => h); (case hw46 => rfl))
            (try simp only [Act.put, List.setIfInBounds_toArray, List.set_cons_zero, List.set_cons_succ])
            clear hHeld
            refine wpAnyH_done (by kernel_rfl) ?_ _
            go_wp2_with fail
            go_meet
            exact ⟨wz38.heap.size, wz18.heap.size, an', cn, rfl, rfl, rfl, nc0, rc0, rc1, HU.out, HW.out⟩
        case rest16 =>
          go_simp
          obtain ⟨wz47, hwy⟩ : ∃ W, W = wy0.alloc (.cells #[.slice none 0 0] 24) := ⟨_, rfl⟩
          rw [← hwy]
          have hb : Below wy0.heap.size wy0 wz47 := by rw [hwy]; exact below_new1 _ _
          have nc0 : wz47.cell? ⟨wy0.heap.size, 0, none⟩ = some (.slice none 0 0) := by rw [hwy, World.cell?_alloc_at _ _ _ _ rfl]; rfl
          have nf0 : wz47.frozen? ⟨wy0.heap.size, 0, none⟩ = false := by rw [hwy]; exact World.frozen?_alloc_at _ _ _ _ rfl
          have nt : Tag wz47 wy0.heap.size 24 := by rw [hwy]; exact tag_new _ _ _
          have nz : wy0.heap.size < wz47.heap.size := by rw [hwy]; simp
          have nl := LO
          replace HW := Lib.hid (below_step HW.out hb)
          replace s0 := cel_below hb s0
          replace s1 := cel_below hb s1
          replace HRX := Lib.hid (rowOk_keep HRX.out hb)
          replace LO := Nat.le_trans LO hb.size
          clear hb hwy
          refine hK.out _ _ ?_ (fun _ => ?_)
          · (try dsimp only); exact ⟨s0, s1⟩
          clear hK K
          (try simp only [Act.put, List.setIfInBounds_toArray, List.set_cons_zero, List.set_cons_succ])
          refine wpAnyH_ready (rs := [7, 13]) (by kernel_rfl) (by simp) ?_
          refine AllReadyH.cons (o := ?oi48) ?hi48 (fun K hK => ?rest48) (AllReadyH.cons (o := ?oi49) ?hi49 (fun K hK => ?rest49) AllReadyH.nil)
          (case hi48 => (simp only [List.getElem?_toArray, List.getElem?_cons_succ, List.getElem?_cons_zero]; rfl))
          (case hi49 => (simp only [List.getElem?_toArray, List.getElem?_cons_succ, List.getElem?_cons_zero]; rfl))
          case rest48 =>
            go_simp
            ((with_reducible refine (HQ.out _ (rowOk_has HRX.out)).mono ?_); rintro e wz50 ⟨an', cn, rfl, hu, hb, hF⟩)
            replace HW := Lib.hid (below_step HW.out hb)
            replace s0 := cel_below hb s0
            replace s1 := cel_below hb s1
            replace nc0 := cel_below hb nc0
            replace nf0 := fro_below hb nz nf0
            replace nz := lt_below hb nz
            replace nt := tag_below nt hb
            replace HRX := Lib.hid (rowOk_keep HRX.out hb)
            have HU := Lib.hid (rowOk_from HRX.out hu hF (by omega))
            clear hu hF HRX
            replace LO := Nat.le_trans LO hb.size
            clear hb
            refine hK.out _ _ ?_ (fun _ => ?_)
            · (try dsimp only); exact ⟨s0, s1⟩
            clear hK K
            (try simp only [Act.put, List.setIfInBounds_toArray, List.set_cons_zero, List.set_cons_succ])
            have hHeld : (fun W => W.cell? ⟨X, 0, none⟩ = some (.slice am 1 cm) ∧ W.cell? ⟨bb, oo + k, none⟩ = some (.int .i64 x)) wz50 := ⟨s0, s1⟩
            first | (refine wpAnyH_take (i := 8) (oi := ?oi51) (v := ?v51) ?hi51 (by kernel_rfl) (by kernel_rfl) (by kernel_rfl) ?hQ51 (Or.inl ⟨?hw51, ?hy51⟩) (by assumption) ?rest51; (case hi51 => (simp only [List.getElem?_toArray, List.getElem?_cons_succ, List.getElem?_cons_zero]; rfl)); (case hQ51 => exact fun _ _ _ h => h); (case hw51 => rfl); (case hy51 => ((intro w hSw); (try dsimp only at hSw); go_simp; (try with_reducible rfl)))) | (refine wpAnyH_take (i := 8) (oi := ?oi52) (v := undef) ?hi52 (by kernel_rfl) (by kernel_rfl) (by kernel_rfl) ?hQ52 (Or.inr ⟨?hw52, rfl⟩) (by assumption) ?rest52; (case hi52 => (simp only [List.getElem?_toArray, List.getElem?_cons_succ, List.getElem?_cons_zero]; rfl)); (case hQ52 => exact fun _ _ _ h => h); (case hw52 => rfl))
            (try simp only [Act.put, List.setIfInBounds_toArray, List.set_cons_zero, List.set_cons_succ])
            first | (refine wpAnyH_take (i := 9) (oi := ?oi53) (v := ?v53) ?hi53 (by kernel_rfl) (by kernel_rfl) (by kernel_rfl) ?hQ53 (Or.inl ⟨?hw53, ?hy53⟩) (by assumption) ?rest53; (case hi53 => (simp only [List.getElem?_toArray, List.getElem?_cons_succ, List.getElem?_cons_zero]; rfl)); (case hQ53 => exact fun _ _ _ h => h); (case hw53 => rfl); (case hy53 => ((intro w hSw); (try dsimp only at hSw); go_simp; (try with_reducible rfl)))) | (refine wpAnyH_take (i := 9) (oi := ?oi54) (v := undef) ?hi54 (by kernel_rfl) (by kernel_rfl) (by kernel_rfl) ?hQ54 (Or.inr ⟨?hw54, rfl⟩) (by assumption) ?rest54; (case hi54 => (simp only [List.getElem?_toArray, List.getElem?_cons_succ, List.getElem?_cons_zero]; rfl)); (case hQ54 => exact fun _ _ _ h => h); (case hw54 => rfl))
            (try simp only [Act.put, List.setIfInBounds_toArray, List.set_cons_zero, List.set_cons_succ])
            first | (refine wpAnyH_take (i := 10) (oi := ?oi55) (v := ?v55) ?hi55 (by kernel_rfl) (by kernel_rfl) (by kernel_rfl) ?hQ55 (Or.inl ⟨?hw55, ?hy55⟩) (by assumption) ?rest55; (case hi55 => (simp only [List.getElem?_toArray, List.getElem?_cons_succ, List.getElem?_cons_zero]; rfl)); (case hQ55 => exact fun _ _ _ h => h); (case hw55 => rfl); (case hy55 => ((intro w hSw); (try dsimp only at hSw); go_simp; (try with_reducible rfl)))) | (refine wpAnyH_take (i := 10) (oi := ?oi56) (v := undef) ?hi56 (by kernel_rfl) (by kernel_rfl) (by kernel_rfl) ?hQ56 (Or.inr ⟨?hw56, rfl⟩) (by assumption) ?rest56; (case hi56 => (simp only [List.getElem?_toArray, List.getElem?_cons_succ, List.getElem?_cons_zero]; rfl)); (case hQ56 => exact fun _ _ _ h => h); (case hw56 => rfl))
            (try simp only [Act.put, List.setIfInBounds_toArray, List.set_cons_zero, List.set_cons_succ])
            first | (refine wpAnyH_take (i := 11) (oi := ?oi57) (v := ?v57) ?hi57 (by kernel_rfl) (by kernel_rfl) (by kernel_rfl) ?hQ57 (Or.inl ⟨?hw57, ?hy57⟩) (by assumption) ?rest57; (case hi57 => (simp only [List.getElem?_toArray, List.getElem?_cons_succ, List.getElem?_cons_zero]; rfl)); (case hQ57 => exact fun _ _ _ h => h); (case hw57 => rfl); (case hy57 => ((intro w hSw); (try dsimp only at hSw); go_simp; (try with_reducible rfl)))) | (refine wpAnyH_take (i := 11) (oi := ?oi58) (v := undef) ?hi58 (by kernel_rfl) (by kernel_rfl) (by kernel_rfl) ?hQ58 (Or.inr ⟨?hw58, rfl⟩) (by assumption) ?rest58; (case hi58 => (simp only [List.getElem?_toArray, List.getElem?_cons_succ, List.getElem?_cons_zero]; rfl)); (case hQ58 => exact fun _ _ _ h => h); (case hw58 => rfl))
            (try simp only [Act.put, List.setIfInBounds_toArray, List.set_cons_zero, List.set_cons_succ])
            clear hHeld
            refine wpAnyH_ready (rs := [13]) (by kernel_rfl) (by simp) ?_
            refine AllReadyH.cons (o := ?oi59) ?hi59 (fun K hK => ?rest59) AllReadyH.nil
            (case hi59 => (simp only [List.getElem?_toArray, List.getElem?_cons_succ, List.getElem?_cons_zero]; rfl))
            go_simp
            obtain ⟨wz60, hwy⟩ : ∃ W, W = wz50.alloc (.cells #[.int .i64 0, .bool false] 36) := ⟨_, rfl⟩
            rw [← hwy]
            have hb : Below wz50.heap.size wz50 wz60 := by rw [hwy]; exact below_new1 _ _
            have rc0 : wz60.cell? ⟨wz50.heap.size, 0, none⟩ = some (.int .i64 0) := by rw [hwy, World.cell?_alloc_at _ _ _ _ rfl]; rfl
            have rf0 : wz60.frozen? ⟨wz50.heap.size, 0, none⟩ = false := by rw [hwy]; exact World.frozen?_alloc_at _ _ _ _ rfl
            have rc1 : wz60.cell? ⟨wz50.heap.size, 1, none⟩ = some (.bool false) := by rw [hwy, World.cell?_alloc_at _ _ _ _ rfl]; rfl
            have rf1 : wz60.frozen? ⟨wz50.heap.size, 1, none⟩ = false := by rw [hwy]; exact World.frozen?_alloc_at _ _ _ _ rfl
            have rt : Tag wz60 wz50.heap.size 36 := by rw [hwy]; exact tag_new _ _ _
            have rz : wz50.heap.size < wz60.heap.size := by rw [hwy]; simp
            have rl := LO
            replace HW := Lib.hid (below_step HW.out hb)
            replace s0 := cel_below hb s0
            replace s1 := cel_below hb s1
            replace nc0 := cel_below hb nc0
            replace nf0 := fro_below hb nz nf0
            replace nt := tag_below nt hb
            have nrn : wy0.heap.size ≠ wz50.heap.size := by omega
            replace nz := lt_below hb nz
            replace HU := Lib.hid (rowOk_keep HU.out hb)
            replace LO := Nat.le_trans LO hb.size
            clear hb hwy
            refine hK.out _ _ ?_ (fun _ => ?_)
            · (try dsimp only); exact ⟨s0, s1⟩
            clear hK K
            (try simp only [Act.put, List.setIfInBounds_toArray, List.set_cons_zero, List.set_cons_succ])
            refine wpAnyH_ready (rs := [14]) (by kernel_rfl) (by simp) ?_
            refine AllReadyH.cons (o := ?oi61) ?hi61 (fun K hK => ?rest61) AllReadyH.nil
            (case hi61 => (simp only [List.getElem?_toArray, List.getElem?_cons_succ, List.getElem?_cons_zero]; rfl))
            go_simp
            obtain ⟨wz62, hwy⟩ : ∃ W, W = (wz60.setCell ⟨wy0.heap.size, 0, none⟩ (.slice an' 1 cn)) := ⟨_, rfl⟩
            rw [← hwy]
            replace s0 : wz62.cell? ⟨X, 0, none⟩ = some (.slice am 1 cm) := by rw [hwy]; exact keepA_ (s0) (Or.inl (by omega))
            replace s1 : wz62.cell? ⟨bb, oo + k, none⟩ = some (.int .i64 x) := by rw [hwy]; exact keepA_ (s1) (Or.inl (by omega))
            replace rc0 : wz62.cell? ⟨wz50.heap.size, 0, none⟩ = some (.int .i64 0) := by rw [hwy]; exact keepA_ (rc0) (Or.inl (by omega))
            replace rf0 : wz62.frozen? ⟨wz50.heap.size, 0, none⟩ = false := by rw [hwy]; simpa using rf0
            replace rc1 : wz62.cell? ⟨wz50.heap.size, 1, none⟩ = some (.bool false) := by rw [hwy]; exact keepA_ (rc1) (Or.inl (by omega))
            replace rf1 : wz62.frozen? ⟨wz50.heap.size, 1, none⟩ = false := by rw [hwy]; simpa using rf1
            replace HU : Hid (RowOk w w1.heap.size (.slice none 0 0) wz62 (.slice an' 1 cn) [y2]) := Lib.hid (by rw [hwy]; exact (rowOk_set (H0.out) HU.out nt (by decide) (by have := HWrr.out.size; omega)))
            have nd0 : wz62.cell? ⟨wy0.heap.size, 0, none⟩ = some (.slice an' 1 cn) := by rw [hwy]; exact World.cell?_setCell_same _ _ _ nc0
            replace nt : Tag wz62 wy0.heap.size 24 := by rw [hwy]; exact (tag_set nt _ _)
            replace rt : Tag wz62 wz50.heap.size 36 := by rw [hwy]; exact (tag_set rt _ _)
            replace nf0 : wz62.frozen? ⟨wy0.heap.size, 0, none⟩ = false := by rw [hwy]; simpa using nf0
            replace HW := Lib.hid (Below.setCell (p := ⟨wy0.heap.size, 0, none⟩) HW.out (by have := HWS.out; dsimp only; omega) (.slice an' 1 cn))
            rw [← hwy] at HW
            have hsz : wz62.heap.size = wz60.heap.size := by rw [hwy]; simp
            replace nz : wy0.heap.size < wz62.heap.size := by omega
            replace rz : wz50.heap.size < wz62.heap.size := by omega
            replace LO : _ ≤ wz62.heap.size := Nat.le_trans LO (Nat.le_of_eq hsz.symm)
            clear hsz hwy nc0
            have nc0 := nd0
            clear nd0
            refine hK.out _ _ ?_ (fun _ => ?_)
            · (try dsimp only); exact ⟨s0, s1⟩
            clear hK K
            (try simp only [Act.put, List.setIfInBounds_toArray, List.set_cons_zero, List.set_cons_succ])
            refine wpAnyH_ready (rs := [15]) (by kernel_rfl) (by simp) ?_
            refine AllReadyH.cons (o := ?oi63) ?hi63 (fun K hK => ?rest63) AllReadyH.nil
            (case hi63 => (simp only [List.getElem?_toArray, List.getElem?_cons_succ, List.getElem?_cons_zero]; rfl))
            go_simp
            obtain ⟨wz64, hwy⟩ : ∃ W, W = ((wz62.setCell ⟨wz50.heap.size, 0, none⟩ (.int .i64 y)).setCell ⟨wz50.heap.size, 1, none⟩ (.bool rq)) := ⟨_, rfl⟩
            rw [← hwy]
            replace s0 : wz64.cell? ⟨X, 0, none⟩ = some (.slice am 1 cm) := by rw [hwy]; exact keepA_ (keepA_ (s0) (Or.inl (by omega))) (Or.inl (by omega))
            replace s1 : wz64.cell? ⟨bb, oo + k, none⟩ = some (.int .i64 x) := by rw [hwy]; exact keepA_ (keepA_ (s1) (Or.inl (by omega))) (Or.inl (by omega))
            replace nc0 : wz64.cell? ⟨wy0.heap.size, 0, none⟩ = some (.slice an' 1 cn) := by rw [hwy]; exact keepA_ (keepA_ (nc0) (Or.inl (by omega))) (Or.inl (by omega))
            replace nf0 : wz64.frozen? ⟨wy0.heap.size, 0, none⟩ = false := by rw [hwy]; simpa using nf0
            replace HU : Hid (RowOk w w1.heap.size (.slice none 0 0) wz64 (.slice an' 1 cn) [y2]) := Lib.hid (by rw [hwy]; exact (rowOk_set (H0.out) (rowOk_set (H0.out) HU.out rt (by decide) (by have := HWrr.out.size; omega)) (tag_set rt _ _) (by decide) (by have := HWrr.out.size; omega)))
            have rd0 : wz64.cell? ⟨wz50.heap.size, 0, none⟩ = some (.int .i64 y) := by rw [hwy]; exact keepA_ (World.cell?_setCell_same _ _ _ rc0) (Or.inr (by simp))
            have rd1 : wz64.cell? ⟨wz50.heap.size, 1, none⟩ = some (.bool rq) := by rw [hwy]; exact World.cell?_setCell_same _ _ _ (keepA_ rc1 (Or.inr (by simp)))
            replace nt : Tag wz64 wy0.heap.size 24 := by rw [hwy]; exact (tag_set (tag_set nt _ _) _ _)
            replace rt : Tag wz64 wz50.heap.size 36 := by rw [hwy]; exact (tag_set (tag_set rt _ _) _ _)
            replace rf0 : wz64.frozen? ⟨wz50.heap.size, 0, none⟩ = false := by rw [hwy]; simpa using rf0
            replace rf1 : wz64.frozen? ⟨wz50.heap.size, 1, none⟩ = false := by rw [hwy]; simpa using rf1
            replace HW := Lib.hid (Below.setCell (p := ⟨wz50.heap.size, 1, none⟩) (Below.setCell (p := ⟨wz50.heap.size, 0, none⟩) HW.out (by have := HWS.out; dsimp only; omega) (.int .i64 y)) (by have := HWS.out; dsimp only; omega) (.bool rq))
            rw [← hwy] at HW
            have hsz : wz64.heap.size = wz62.heap.size := by rw [hwy]; simp
            replace nz : wy0.heap.size < wz64.heap.size := by omega
            replace rz : wz50.heap.size < wz64.heap.size := by omega
            replace LO : _ ≤ wz64.heap.size := Nat.le_trans LO (Nat.le_of_eq hsz.symm)
            clear hsz hwy rc0 rc1
            have rc0 := rd0
            clear rd0
            have rc1 := rd1
            clear rd1
            refine hK.out _ _ ?_ (fun _ => ?_)
            · (try dsimp only); exact ⟨s0, s1⟩
            clear hK K
            (try simp only [Act.put, List.setIfInBounds_toArray, List.set_cons_zero, List.set_cons_succ])
            have hHeld : (fun W => W.cell? ⟨X, 0, none⟩ = some (.slice am 1 cm) ∧ W.cell? ⟨bb, oo + k, none⟩ = some (.int .i64 x)) wz64 := ⟨s0, s1⟩
            first | (refine wpAnyH_take (i := 16) (oi := ?oi65) (v := ?v65) ?hi65 (by kernel_rfl) (by kernel_rfl) (by kernel_rfl) ?hQ65 (Or.inl ⟨?hw65, ?hy65⟩) (by assumption) ?rest65; (case hi65 => (simp only [List.getElem?_toArray, List.getElem?_cons_succ, List.getElem?_cons_zero]; rfl)); (case hQ65 => exact fun _ _ _ h => h); (case hw65 => rfl); (case hy65 => ((intro w hSw); (try dsimp only at hSw); go_simp; (try with_reducible rfl)))) | (refine wpAnyH_take (i := 16) (oi := ?oi66) (v := undef) ?hi66 (by kernel_rfl) (by kernel_rfl) (by kernel_rfl) ?hQ66 (Or.inr ⟨?hw66, rfl⟩) (by assumption) ?rest66; (case hi66 => (simp only [List.getElem?_toArray, List.getElem?_cons_succ, List.getElem?_cons_zero]; rfl)); (case hQ66 => exact fun _ _ _ h => h); (case hw66 => rfl))
            (try simp only [Act.put, List.setIfInBounds_toArray, List.set_cons_zero, List.set_cons_succ])
            clear hHeld
            refine wpAnyH_done (by kernel_rfl) ?_ _
            go_wp2_with fail
            go_meet
            exact ⟨wy0.heap.size, wz50.heap.size, an', cn, rfl, rfl, rfl, nc0, rc0, rc1, HU.out, HW.out⟩
          case rest49 =>
            go_simp
            obtain ⟨wz67, hwy⟩ : ∃ W, W = wz47.alloc (.cells #[.int .i64 0, .bool false] 36) := ⟨_, rfl⟩
            rw [← hwy]
            have hb : Below wz47.heap.size wz47 wz67 := by rw [hwy]; exact below_new1 _ _
            have rc0 : wz67.cell? ⟨wz47.heap.size, 0, none⟩ = some (.int .i64 0) := by rw [hwy, World.cell?_alloc_at _ _ _ _ rfl]; rfl
            have rf0 : wz67.frozen? ⟨wz47.heap.size, 0, none⟩ = false := by rw [hwy]; exact World.frozen?_alloc_at _ _ _ _ rfl
            have rc1 : wz67.cell? ⟨wz47.heap.size, 1, none⟩ = some (.bool false) := by rw [hwy, World.cell?_alloc_at _ _ _ _ rfl]; rfl
            have rf1 : wz67.frozen? ⟨wz47.heap.size, 1, none⟩ = false := by rw [hwy]; exact World.frozen?_alloc_at _ _ _ _ rfl
            have rt : Tag wz67 wz47.heap.size 36 := by rw [hwy]; exact tag_new _ _ _
            have rz : wz47.heap.size < wz67.heap.size := by rw [hwy]; simp
            have rl := LO
            replace HW := Lib.hid (below_step HW.out hb)
            replace s0 := cel_below hb s0
            replace s1 := cel_below hb s1
            replace nc0 := cel_below hb nc0
            replace nf0 := fro_below hb nz nf0
            replace nt := tag_below nt hb
            have nrn : wy0.heap.size ≠ wz47.heap.size := by omega
            replace nz := lt_below hb nz
            replace HRX := Lib.hid (rowOk_keep HRX.out hb)
            replace LO := Nat.le_trans LO hb.size
            clear hb hwy
            refine hK.out _ _ ?_ (fun _ => ?_)
            · (try dsimp only); exact ⟨s0, s1⟩
            clear hK K
            (try simp only [Act.put, List.setIfInBounds_toArray, List.set_cons_zero, List.set_cons_succ])
            refine wpAnyH_ready (rs := [7]) (by kernel_rfl) (by simp) ?_
            refine AllReadyH.cons (o := ?oi68) ?hi68 (fun K hK => ?rest68) AllReadyH.nil
            (case hi68 => (simp only [List.getElem?_toArray, List.getElem?_cons_succ, List.getElem?_cons_zero]; rfl))
            go_simp
            ((with_reducible refine (HQ.out _ (rowOk_has HRX.out)).mono ?_); rintro e wz69 ⟨an', cn, rfl, hu, hb, hF⟩)
            replace HW := Lib.hid (below_step HW.out hb)
            replace s0 := cel_below hb s0
            replace s1 := cel_below hb s1
            replace nc0 := cel_below hb nc0
            replace nf0 := fro_below hb nz nf0
            replace nz := lt_below hb nz
            replace nt := tag_below nt hb
            replace rc0 := cel_below hb rc0
            replace rf0 := fro_below hb rz rf0
            replace rc1 := cel_below hb rc1
            replace rf1 := fro_below hb rz rf1
            replace rz := lt_below hb rz
            replace rt := tag_below rt hb
            replace HRX := Lib.hid (rowOk_keep HRX.out hb)
            have HU := Lib.hid (rowOk_from HRX.out hu hF (by omega))
            clear hu hF HRX
            replace LO := Nat.le_trans LO hb.size
            clear hb
            refine hK.out _ _ ?_ (fun _ => ?_)
            · (try dsimp only); exact ⟨s0, s1⟩
            clear hK K
            (try simp only [Act.put, List.setIfInBounds_toArray, List.set_cons_zero, List.set_cons_succ])
            have hHeld : (fun W => W.cell? ⟨X, 0, none⟩ = some (.slice am 1 cm) ∧ W.cell? ⟨bb, oo + k, none⟩ = some (.int .i64 x)) wz69 := ⟨s0, s1⟩
            first | (refine wpAnyH_take (i := 8) (oi := ?oi70) (v := ?v70) ?hi70 (by kernel_rfl) (by kernel_rfl) (by kernel_rfl) ?hQ70 (Or.inl ⟨?hw70, ?hy70⟩) (by assumption) ?rest70; (case hi70 => (simp only [List.getElem?_toArray, List.getElem?_cons_succ, List.getElem?_cons_zero]; rfl)); (case hQ70 => exact fun _ _ _ h => h); (case hw70 => rfl); (case hy70 => ((intro w hSw); (try dsimp only at hSw); go_simp; (try with_reducible rfl)))) | (refine wpAnyH_take (i := 8) (oi := ?oi71) (v := undef) ?hi71 (by kernel_rfl) (by kernel_rfl) (by kernel_rfl) ?hQ71 (Or.inr ⟨?hw71, rfl⟩) (by assumption) ?rest71; (case hi71 => (simp only [List.getElem?_toArray, List.getElem?_cons_succ, List.getElem?_cons_zero]; rfl)); (case hQ71 => exact fun _ _ _ h => h); (case hw71 => rfl))
            (try simp only [Act.put, List.setIfInBounds_toArray, List.set_cons_zero, List.set_cons_succ])
            first | (refine wpAnyH_take (i := 9) (oi := ?oi72) (v := ?v72) ?hi72 (by kernel_rfl) (by kernel_rfl) (by kernel_rfl) ?hQ72 (Or.inl ⟨?hw72, ?hy72⟩) (by assumption) ?rest72; (case hi72 => (simp only [List.getElem?_toArray, List.getElem?_cons_succ, List.getElem?_cons_zero]; rfl)); (case hQ72 => exact fun _ _ _ h => h); (case hw72 => rfl); (case hy72 => ((intro w hSw); (try dsimp only at hSw); go_simp; (try with_reducible rfl)))) | (refine wpAnyH_take (i := 9) (oi := ?oi73) (v := undef) ?hi73 (by kernel_rfl) (by kernel_rfl) (by kernel_rfl) ?hQ73 (Or.inr ⟨?hw73, rfl⟩) (by assumption) ?rest73; (case hi73 => (simp only [List.getElem?_toArray, List.getElem?_cons_succ, List.getElem?_cons_zero]; rfl)); (case hQ73 => exact fun _ _ _ h => h); (case hw73 => rfl))
            (try simp only [Act.put, List.setIfInBounds_toArray, List.set_cons_zero, List.set_cons_succ])
            first | (refine wpAnyH_take (i := 10) (oi := ?oi74) (v := ?v74) ?hi74 (by kernel_rfl) (by kernel_rfl) (by kernel_rfl) ?hQ74 (Or.inl ⟨?hw74, ?hy74⟩) (by assumption) ?rest74; (case hi74 => (simp only [List.getElem?_toArray, List.getElem?_cons_succ, List.getElem?_cons_zero]; rfl)); (case hQ74 => exact fun _ _ _ h => h); (case hw74 => rfl); (case hy74 => ((intro w hSw); (try dsimp only at hSw); go_simp; (try with_reducible rfl)))) | (refine wpAnyH_take (i := 10) (oi := ?oi75) (v := undef) ?hi75 (by kernel_rfl) (by kernel_rfl) (by kernel_rfl) ?hQ75 (Or.inr ⟨?hw75, rfl⟩) (by assumption) ?rest75; (case hi75 => (simp only [List.getElem?_toArray, List.getElem?_cons_succ, List.getElem?_cons_zero]; rfl)); (case hQ75 => exact fun _ _ _ h => h); (case hw75 => rfl))
            (try simp only [Act.put, List.setIfInBounds_toArray, List.set_cons_zero, List.set_cons_succ])
            first | (refine wpAnyH_take (i := 11) (oi := ?oi76) (v := ?v76) ?hi76 (by kernel_rfl) (by kernel_rfl) (by kernel_rfl) ?hQ76 (Or.inl ⟨?hw76, ?hy76⟩) (by assumption) ?rest76; (case hi76 => (simp only [List.getElem?_toArray, List.getElem?_cons_succ, List.getElem?_cons_zero]; rfl)); (case hQ76 => exact fun _ _ _ h => h); (case hw76 => rfl); (case hy76 => ((intro w hSw); (try dsimp only at hSw); go_simp; (try with_reducible rfl)))) | (refine wpAnyH_take (i := 11) (oi := ?oi77) (v := undef) ?hi77 (by kernel_rfl) (by kernel_rfl) (by kernel_rfl) ?hQ77 (Or.inr ⟨?hw77, rfl⟩) (by assumption) ?rest77; (case hi77 => (simp only [List.getElem?_toArray, List.getElem?_cons_succ, List.getElem?_cons_zero]; rfl)); (case hQ77 => exact fun _ _ _ h => h); (case hw77 => rfl))
            (try simp only [Act.put, List.setIfInBounds_toArray, List.set_cons_zero, List.set_cons_succ])
            clear hHeld
            refine wpAnyH_ready (rs := [14]) (by kernel_rfl) (by simp) ?_
            refine AllReadyH.cons (o := ?oi78) ?hi78 (fun K hK => ?rest78) AllReadyH.nil
            (case hi78 => (simp only [List.getElem?_toArray, List.getElem?_cons_succ, List.getElem?_cons_zero]; rfl))
            go_simp
            obtain ⟨wz79, hwy⟩ : ∃ W, W = (wz69.setCell ⟨wy0.heap.size, 0, none⟩ (.slice an' 1 cn)) := ⟨_, rfl⟩
            rw [← hwy]
            replace s0 : wz79.cell? ⟨X, 0, none⟩ = some (.slice am 1 cm) := by rw [hwy]; exact keepA_ (s0) (Or.inl (by omega))
            replace s1 : wz79.cell? ⟨bb, oo + k, none⟩ = some (.int .i64 x) := by rw [hwy]; exact keepA_ (s1) (Or.inl (by omega))
            replace rc0 : wz79.cell? ⟨wz47.heap.size, 0, none⟩ = some (.int .i64 0) := by rw [hwy]; exact keepA_ (rc0) (Or.inl (by omega))
            replace rf0 : wz79.frozen? ⟨wz47.heap.size, 0, none⟩ = false := by rw [hwy]; simpa using rf0
            replace rc1 : wz79.cell? ⟨wz47.heap.size, 1, none⟩ = some (.bool false) := by rw [hwy]; exact keepA_ (rc1) (Or.inl (by omega))
            replace rf1 : wz79.frozen? ⟨wz47.heap.size, 1, none⟩ = false := by rw [hwy]; simpa using rf1
            replace HU : Hid (RowOk w w1.heap.size (.slice none 0 0) wz79 (.slice an' 1 cn) [y2]) := Lib.hid (by rw [hwy]; exact (rowOk_set (H0.out) HU.out nt (by decide) (by have := HWrr.out.size; omega)))
            have nd0 : wz79.cell? ⟨wy0.heap.size, 0, none⟩ = some (.slice an' 1 cn) := by rw [hwy]; exact World.cell?_setCell_same _ _ _ nc0
            replace nt : Tag wz79 wy0.heap.size 24 := by rw [hwy]; exact (tag_set nt _ _)
            replace rt : Tag wz79 wz47.heap.size 36 := by rw [hwy]; exact (tag_set rt _ _)
            replace nf0 : wz79.frozen? ⟨wy0.heap.size, 0, none⟩ = false := by rw [hwy]; simpa using nf0
            replace HW := Lib.hid (Below.setCell (p := ⟨wy0.heap.size, 0, none⟩) HW.out (by have := HWS.out; dsimp only; omega) (.slice an' 1 cn))
            rw [← hwy] at HW
            have hsz : wz79.heap.size = wz69.heap.size := by rw [hwy]; simp
            replace nz : wy0.heap.size < wz79.heap.size := by omega
            replace rz : wz47.heap.size < wz79.heap.size := by omega
            replace LO : _ ≤ wz79.heap.size := Nat.le_trans LO (Nat.le_of_eq hsz.symm)
            clear hsz hwy nc0
            have nc0 := nd0
            clear nd0
            refine hK.out _ _ ?_ (fun _ => ?_)
            · (try dsimp only); exact ⟨s0, s1⟩
            clear hK K
            (try simp only [Act.put, List.setIfInBounds_toArray, List.set_cons_zero, List.set_cons_succ])
            refine wpAnyH_ready (rs := [15]) (by kernel_rfl) (by simp) ?_
            refine AllReadyH.cons (o := ?oi80) ?hi80 (fun K hK => ?rest80) AllReadyH.nil
            (case hi80 => (simp only [List.getElem?_toArray, List.getElem?_cons_succ, List.getElem?_cons_zero]; rfl))
            go_simp
            obtain ⟨wz81, hwy⟩ : ∃ W, W = ((wz79.setCell ⟨wz47.heap.size, 0, none⟩ (.int .i64 y)).setCell ⟨wz47.heap.size, 1, none⟩ (.bool rq)) := ⟨_, rfl⟩
            rw [← hwy]
            replace s0 : wz81.cell? ⟨X, 0, none⟩ = some (.slice am 1 cm) := by rw [hwy]; exact keepA_ (keepA_ (s0) (Or.inl (by omega))) (Or.inl (by omega))
            replace s1 : wz81.cell? ⟨bb, oo + k, none⟩ = some (.int .i64 x) := by rw [hwy]; exact keepA_ (keepA_ (s1) (Or.inl (by omega))) (Or.inl (by omega))
            replace nc0 : wz81.cell? ⟨wy0.heap.size, 0, none⟩ = some (.slice an' 1 cn) := by rw [hwy]; exact keepA_ (keepA_ (nc0) (Or.inl (by omega))) (Or.inl (by omega))
            replace nf0 : wz81.frozen? ⟨wy0.heap.size, 0, none⟩ = false := by rw [hwy]; simpa using nf0
            replace HU : Hid (RowOk w w1.heap.size (.slice none 0 0) wz81 (.slice an' 1 cn) [y2]) := Lib.hid (by rw [hwy]; exact (rowOk_set (H0.out) (rowOk_set (H0.out) HU.out rt (by decide) (by have := HWrr.out.size; omega)) (tag_set rt _ _) (by decide) (by have := HWrr.out.size; omega)))
            have rd0 : wz81.cell? ⟨wz47.heap.size, 0, none⟩ = some (.int .i64 y) := by rw [hwy]; exact keepA_ (World.cell?_setCell_same _ _ _ rc0) (Or.inr (by simp))
            have rd1 : wz81.cell? ⟨wz47.heap.size, 1, none⟩ = some (.bool rq) := by rw [hwy]; exact World.cell?_setCell_same _ _ _ (keepA_ rc1 (Or.inr (by simp)))
            replace nt : Tag wz81 wy0.heap.size 24 := by rw [hwy]; exact (tag_set (tag_set nt _ _) _ _)
            replace rt : Tag wz81 wz47.heap.size 36 := by rw [hwy]; exact (tag_set (tag_set rt _ _) _ _)
            replace rf0 : wz81.frozen? ⟨wz47.heap.size, 0, none⟩ = false := by rw [hwy]; simpa using rf0
            replace rf1 : wz81.frozen? ⟨wz47.heap.size, 1, none⟩ = false := by rw [hwy]; simpa using rf1
            replace HW := Lib.hid (Below.setCell (p := ⟨wz47.heap.size, 1, none⟩) (Below.setCell (p := ⟨wz47.heap.size, 0, none⟩) HW.out (by have := HWS.out; dsimp only; omega) (.int .i64 y)) (by have := HWS.out; dsimp only; omega) (.bool rq))
            rw [← hwy] at HW
            have hsz : wz81.heap.size = wz79.heap.size := by rw [hwy]; simp
            replace nz : wy0.heap.size < wz81.heap.size := by omega
            replace rz : wz47.heap.size < wz81.heap.size := by omega
            replace LO : _ ≤ wz81.heap.size := Nat.le_trans LO (Nat.le_of_eq hsz.symm)
            clear hsz hwy rc0 rc1
            have rc0 := rd0
            clear rd0
            have rc1 := rd1
            clear rd1
            refine hK.out _ _ ?_ (fun _ => ?_)
            · (try dsimp only); exact ⟨s0, s1⟩
            clear hK K
            (try simp only [Act.put, List.setIfInBounds_toArray, List.set_cons_zero, List.set_cons_succ])
            have hHeld : (fun W => W.cell? ⟨X, 0, none⟩ = some (.slice am 1 cm) ∧ W.cell? ⟨bb, oo + k, none⟩ = some (.int .i64 x)) wz81 := ⟨s0, s1⟩
            first | (refine wpAnyH_take (i := 16) (oi := ?oi82) (v := ?v82) ?hi82 (by kernel_rfl) (by kernel_rfl) (by kernel_rfl) ?hQ82 (Or.inl ⟨?hw82, ?hy82⟩) (by assumption) ?rest82; (case hi82 => (simp only [List.getElem?_toArray, List.getElem?_cons_succ, List.getElem?_cons_zero]; rfl)); (case hQ82 => exact fun _ _ _ h => h); (case hw82 => rfl); (case hy82 => ((intro w hSw); (try dsimp only at hSw); go_simp; (try with_reducible rfl)))) | (refine wpAnyH_take (i := 16) (oi := ?oi83) (v := undef) ?hi83 (by kernel_rfl) (by kernel_rfl) (by kernel_rfl) ?hQ83 (Or.inr ⟨?hw83, rfl⟩) (by assumption) ?rest83; (case hi83 => (simp only [List.getElem?_toArray, List.getElem?_cons_succ, List.getElem?_cons_zero]; rfl)); (case hQ83 => exact fun _ _ _ h => h); (case hw83 => rfl))
            (try simp only [Act.put, List.setIfInBounds_toArray, List.set_cons_zero, List.set_cons_succ])
            clear hHeld
            refine wpAnyH_done (by kernel_rfl) ?_ _
            go_wp2_with fail
            go_meet
            exact ⟨wy0.heap.size, wz47.heap.size, an', cn, rfl, rfl, rfl, nc0, rc0, rc1, HU.out, HW.out⟩
        case rest17 =>
          go_simp
          obtain ⟨wz84, hwy⟩ : ∃ W, W = wy0.alloc (.cells #[.int .i64 0, .bool false] 36) := ⟨_, rfl⟩
          rw [← hwy]
          have hb : Below wy0.heap.size wy0 wz84 := by rw [hwy]; exact below_new1 _ _
          have rc0 : wz84.cell? ⟨wy0.heap.size, 0, none⟩ = some (.int .i64 0) := by rw [hwy, World.cell?_alloc_at _ _ _ _ rfl]; rfl
          have rf0 : wz84.frozen? ⟨wy0.heap.size, 0, none⟩ = false := by rw [hwy]; exact World.frozen?_alloc_at _ _ _ _ rfl
          have rc1 : wz84.cell? ⟨wy0.heap.size, 1, none⟩ = some (.bool false) := by rw [hwy, World.cell?_alloc_at _ _ _ _ rfl]; rfl
          have rf1 : wz84.frozen? ⟨wy0.heap.size, 1, none⟩ = false := by rw [hwy]; exact World.frozen?_alloc_at _ _ _ _ rfl
          have rt : Tag wz84 wy0.heap.size 36 := by rw [hwy]; exact tag_new _ _ _
          have rz : wy0.heap.size < wz84.heap.size := by rw [hwy]; simp
          have rl := LO
          replace HW := Lib.hid (below_step HW.out hb)
          replace s0 := cel_below hb s0
          replace s1 := cel_below hb s1
          replace HRX := Lib.hid (rowOk_keep HRX.out hb)
          replace LO := Nat.le_trans LO hb.size
          clear hb hwy
          refine hK.out _ _ ?_ (fun _ => ?_)
          · (try dsimp only); exact ⟨s0, s1⟩
          clear hK K
          (try simp only [Act.put, List.setIfInBounds_toArray, List.set_cons_zero, List.set_cons_succ])
          refine wpAnyH_ready (rs := [7, 12]) (by kernel_rfl) (by simp) ?_
          refine AllReadyH.cons (o := ?oi85) ?hi85 (fun K hK => ?rest85) (AllReadyH.cons (o := ?oi86) ?hi86 (fun K hK => ?rest86) AllReadyH.nil)
          (case hi85 => (simp only [List.getElem?_toArray, List.getElem?_cons_succ, List.getElem?_cons_zero]; rfl))
          (case hi86 => (simp only [List.getElem?_toArray, List.getElem?_cons_succ, List.getElem?_cons_zero]; rfl))
          case rest85 =>
            go_simp
            ((with_reducible refine (HQ.out _ (rowOk_has HRX.out)).mono ?_); rintro e wz87 ⟨an', cn, rfl, hu, hb, hF⟩)
            replace HW := Lib.hid (below_step HW.out hb)
            replace s0 := cel_below hb s0
            replace s1 := cel_below hb s1
            replace rc0 := cel_below hb rc0
            replace rf0 := fro_below hb rz rf0
            replace rc1 := cel_below hb rc1
            replace rf1 := fro_below hb rz rf1
            replace rz := lt_below hb rz
            replace rt := tag_below rt hb
            replace HRX := Lib.hid (rowOk_keep HRX.out hb)
            have HU := Lib.hid (rowOk_from HRX.out hu hF (by omega))
            clear hu hF HRX
            replace LO := Nat.le_trans LO hb.size
            clear hb
            refine hK.out _ _ ?_ (fun _ => ?_)
            · (try dsimp only); exact ⟨s0, s1⟩
            clear hK K
            (try simp only [Act.put, List.setIfInBounds_toArray, List.set_cons_zero, List.set_cons_succ])
            have hHeld : (fun W => W.cell? ⟨X, 0, none⟩ = some (.slice am 1 cm) ∧ W.cell? ⟨bb, oo + k, none⟩ = some (.int .i64 x)) wz87 := ⟨s0, s1⟩
            first | (refine wpAnyH_take (i := 8) (oi := ?oi88) (v := ?v88) ?hi88 (by kernel_rfl) (by kernel_rfl) (by kernel_rfl) ?hQ88 (Or.inl ⟨?hw88, ?hy88⟩) (by assumption) ?rest88; (case hi88 => (simp only [List.getElem?_toArray, List.getElem?_cons_succ, List.getElem?_cons_zero]; rfl)); (case hQ88 => exact fun _ _ _ h => h); (case hw88 => rfl); (case hy88 => ((intro w hSw); (try dsimp only at hSw); go_simp; (try with_reducible rfl)))) | (refine wpAnyH_take (i := 8) (oi := ?oi89) (v := undef) ?hi89 (by kernel_rfl) (by kernel_rfl) (by kernel_rfl) ?hQ89 (Or.inr ⟨?hw89, rfl⟩) (by assumption) ?rest89; (case hi89 => (simp only [List.getElem?_toArray, List.getElem?_cons_succ, List.getElem?_cons_zero]; rfl)); (case hQ89 => exact fun _ _ _ h => h); (case hw89 => rfl))
            (try simp only [Act.put, List.setIfInBounds_toArray, List.set_cons_zero, List.set_cons_succ])
            first | (refine wpAnyH_take (i := 9) (oi := ?oi90) (v := ?v90) ?hi90 (by kernel_rfl) (by kernel_rfl) (by kernel_rfl) ?hQ90 (Or.inl ⟨?hw90, ?hy90⟩) (by assumption) ?rest90; (case hi90 => (simp only [List.getElem?_toArray, List.getElem?_cons_succ, List.getElem?_cons_zero]; rfl)); (case hQ90 => exact fun _ _ _ h => h); (case hw90 => rfl); (case hy90 => ((intro w hSw); (try dsimp only at hSw); go_simp; (try with_reducible rfl)))) | (refine wpAnyH_take (i := 9) (oi := ?oi91) (v := undef) ?hi91 (by kernel_rfl) (by kernel_rfl) (by kernel_rfl) ?hQ91 (Or.inr ⟨?hw91, rfl⟩) (by assumption) ?rest91; (case hi91 => (simp only [List.getElem?_toArray, List.getElem?_cons_succ, List.getElem?_cons_zero]; rfl)); (case hQ91 => exact fun _ _ _ h => h); (case hw91 => rfl))
            (try simp only [Act.put, List.setIfInBounds_toArray, List.set_cons_zero, List.set_cons_succ])
            first | (refine wpAnyH_take (i := 10) (oi := ?oi92) (v := ?v92) ?hi92 (by kernel_rfl) (by kernel_rfl) (by kernel_rfl) ?hQ92 (Or.inl ⟨?hw92, ?hy92⟩) (by assumption) ?rest92; (case hi92 => (simp only [List.getElem?_toArray, List.getElem?_cons_succ, List.getElem?_cons_zero]; rfl)); (case hQ92 => exact fun _ _ _ h => h); (case hw92 => rfl); (case hy92 => ((intro w hSw); (try dsimp only at hSw); go_simp; (try with_reducible rfl)))) | (refine wpAnyH_take (i := 10) (oi := ?oi93) (v := undef) ?hi93 (by kernel_rfl) (by kernel_rfl) (by kernel_rfl) ?hQ93 (Or.inr ⟨?hw93, rfl⟩) (by assumption) ?rest93; (case hi93 => (simp only [List.getElem?_toArray, List.getElem?_cons_succ, List.getElem?_cons_zero]; rfl)); (case hQ93 => exact fun _ _ _ h => h); (case hw93 => rfl))
            (try simp only [Act.put, List.setIfInBounds_toArray, List.set_cons_zero, List.set_cons_succ])
            first | (refine wpAnyH_take (i := 11) (oi := ?oi94) (v := ?v94) ?hi94 (by kernel_rfl) (by kernel_rfl) (by kernel_rfl) ?hQ94 (Or.inl ⟨?hw94, ?hy94⟩) (by assumption) ?rest94; (case hi94 => (simp only [List.getElem?_toArray, List.getElem?_cons_succ, List.getElem?_cons_zero]; rfl)); (case hQ94 => exact fun _ _ _ h => h); (case hw94 => rfl); (case hy94 => ((intro w hSw); (try dsimp only at hSw); go_simp; (try with_reducible rfl)))) | (refine wpAnyH_take (i := 11) (oi := ?oi95) (v := undef) ?hi95 (by kernel_rfl) (by kernel_rfl) (by kernel_rfl) ?hQ95 (Or.inr ⟨?hw95, rfl⟩) (by assumption) ?rest95; (case hi95 => (simp only [List.getElem?_toArray, List.getElem?_cons_succ, List.getElem?_cons_zero]; rfl)); (case hQ95 => exact fun _ _ _ h => h); (case hw95 => rfl))
            (try simp only [Act.put, List.setIfInBounds_toArray, List.set_cons_zero, List.set_cons_succ])
            clear hHeld
            refine wpAnyH_ready (rs := [12]) (by kernel_rfl) (by simp) ?_
            refine AllReadyH.cons (o := ?oi96) ?hi96 (fun K hK => ?rest96) AllReadyH.nil
            (case hi96 => (simp only [List.getElem?_toArray, List.getElem?_cons_succ, List.getElem?_cons_zero]; rfl))
            go_simp
            obtain ⟨wz97, hwy⟩ : ∃ W, W = wz87.alloc (.cells #[.slice none 0 0] 24) := ⟨_, rfl⟩
            rw [← hwy]
            have hb : Below wz87.heap.size wz87 wz97 := by rw [hwy]; exact below_new1 _ _
            have nc0 : wz97.cell? ⟨wz87.heap.size, 0, none⟩ = some (.slice none 0 0) := by rw [hwy, World.cell?_alloc_at _ _ _ _ rfl]; rfl
            have nf0 : wz97.frozen? ⟨wz87.heap.size, 0, none⟩ = false := by rw [hwy]; exact World.frozen?_alloc_at _ _ _ _ rfl
            have nt : Tag wz97 wz87.heap.size 24 := by rw [hwy]; exact tag_new _ _ _
            have nz : wz87.heap.size < wz97.heap.size := by rw [hwy]; simp
            have nl := LO
            replace HW := Lib.hid (below_step HW.out hb)
            replace s0 := cel_below hb s0
            replace s1 := cel_below hb s1
            replace rc0 := cel_below hb rc0
            replace rf0 := fro_below hb rz rf0
            replace rc1 := cel_below hb rc1
            replace rf1 := fro_below hb rz rf1
            replace rt := tag_below rt hb
            have rnn : wy0.heap.size ≠ wz87.heap.size := by omega
            replace rz := lt_below hb rz
            replace HU := Lib.hid (rowOk_keep HU.out hb)
            replace LO := Nat.le_trans LO hb.size
            clear hb hwy
            refine hK.out _ _ ?_ (fun _ => ?_)
            · (try dsimp only); exact ⟨s0, s1⟩
            clear hK K
            (try simp only [Act.put, List.setIfInBounds_toArray, List.set_cons_zero, List.set_cons_succ])
            refine wpAnyH_ready (rs := [14]) (by kernel_rfl) (by simp) ?_
            refine AllReadyH.cons (o := ?oi98) ?hi98 (fun K hK => ?rest98) AllReadyH.nil
            (case hi98 => (simp only [List.getElem?_toArray, List.getElem?_cons_succ, List.getElem?_cons_zero]; rfl))
            go_simp
            obtain ⟨wz99, hwy⟩ : ∃ W, W = (wz97.setCell ⟨wz87.heap.size, 0, none⟩ (.slice an' 1 cn)) := ⟨_, rfl⟩
            rw [← hwy]
            replace s0 : wz99.cell? ⟨X, 0, none⟩ = some (.slice am 1 cm) := by rw [hwy]; exact keepA_ (s0) (Or.inl (by omega))
            replace s1 : wz99.cell? ⟨bb, oo + k, none⟩ = some (.int .i64 x) := by rw [hwy]; exact keepA_ (s1) (Or.inl (by omega))
            replace rc0 : wz99.cell? ⟨wy0.heap.size, 0, none⟩ = some (.int .i64 0) := by rw [hwy]; exact keepA_ (rc0) (Or.inl (by omega))
            replace rf0 : wz99.frozen? ⟨wy0.heap.size, 0, none⟩ = false := by rw [hwy]; simpa using rf0
            replace rc1 : wz99.cell? ⟨wy0.heap.size, 1, none⟩ = some (.bool false) := by rw [hwy]; exact keepA_ (rc1) (Or.inl (by omega))
            replace rf1 : wz99.frozen? ⟨wy0.heap.size, 1, none⟩ = false := by rw [hwy]; simpa using rf1
            replace HU : Hid (RowOk w w1.heap.size (.slice none 0 0) wz99 (.slice an' 1 cn) [y2]) := Lib.hid (by rw [hwy]; exact (rowOk_set (H0.out) HU.out nt (by decide) (by have := HWrr.out.size; omega)))
            have nd0 : wz99.cell? ⟨wz87.heap.size, 0, none⟩ = some (.slice an' 1 cn) := by rw [hwy]; exact World.cell?_setCell_same _ _ _ nc0
            replace rt : Tag wz99 wy0.heap.size 36 := by rw [hwy]; exact (tag_set rt _ _)
            replace nt : Tag wz99 wz87.heap.size 24 := by rw [hwy]; exact (tag_set nt _ _)
            replace nf0 : wz99.frozen? ⟨wz87.heap.size, 0, none⟩ = false := by rw [hwy]; simpa using nf0
            replace HW := Lib.hid (Below.setCell (p := ⟨wz87.heap.size, 0, none⟩) HW.out (by have := HWS.out; dsimp only; omega) (.slice an' 1 cn))
            rw [← hwy] at HW
            have hsz : wz99.heap.size = wz97.heap.size := by rw [hwy]; simp
            replace rz : wy0.heap.size < wz99.heap.size := by omega
            replace nz : wz87.heap.size < wz99.heap.size := by omega
            replace LO : _ ≤ wz99.heap.size := Nat.le_trans LO (Nat.le_of_eq hsz.symm)
            clear hsz hwy nc0
            have nc0 := nd0
            clear nd0
            refine hK.out _ _ ?_ (fun _ => ?_)
            · (try dsimp only); exact ⟨s0, s1⟩
            clear hK K
            (try simp only [Act.put, List.setIfInBounds_toArray, List.set_cons_zero, List.set_cons_succ])
            refine wpAnyH_ready (rs := [15]) (by kernel_rfl) (by simp) ?_
            refine AllReadyH.cons (o := ?oi100) ?hi100 (fun K hK => ?rest100) AllReadyH.nil
            (case hi100 => (simp only [List.getElem?_toArray, List.getElem?_cons_succ, List.getElem?_cons_zero]; rfl))
            go_simp
            obtain ⟨wz101, hwy⟩ : ∃ W, W = ((wz99.setCell ⟨wy0.heap.size, 0, none⟩ (.int .i64 y)).setCell ⟨wy0.heap.size, 1, none⟩ (.bool rq)) := ⟨_, rfl⟩
            rw [← hwy]
            replace s0 : wz101.cell? ⟨X, 0, none⟩ = some (.slice am 1 cm) := by rw [hwy]; exact keepA_ (keepA_ (s0) (Or.inl (by omega))) (Or.inl (by omega))
            replace s1 : wz101.cell? ⟨bb, oo + k, none⟩ = some (.int .i64 x) := by rw [hwy]; exact keepA_ (keepA_ (s1) (Or.inl (by omega))) (Or.inl (by omega))
            replace nc0 : wz101.cell? ⟨wz87.heap.size, 0, none⟩ = some (.slice an' 1 cn) := by rw [hwy]; exact keepA_ (keepA_ (nc0) (Or.inl (by omega))) (Or.inl (by omega))
            replace nf0 : wz101.frozen? ⟨wz87.heap.size, 0, none⟩ = false := by rw [hwy]; simpa using nf0
            replace HU : Hid (RowOk w w1.heap.size (.slice none 0 0) wz101 (.slice an' 1 cn) [y2]) := Lib.hid (by rw [hwy]; exact (rowOk_set (H0.out) (rowOk_set (H0.out) HU.out rt (by decide) (by have := HWrr.out.size; omega)) (tag_set rt _ _) (by decide) (by have := HWrr.out.size; omega)))
            have rd0 : wz101.cell? ⟨wy0.heap.size, 0, none⟩ = some (.int .i64 y) := by rw [hwy]; exact keepA_ (World.cell?_setCell_same _ _ _ rc0) (Or.inr (by simp))
            have rd1 : wz101.cell? ⟨wy0.heap.size, 1, none⟩ = some (.bool rq) := by rw [hwy]; exact World.cell?_setCell_same _ _ _ (keepA_ rc1 (Or.inr (by simp)))
            replace rt : Tag wz101 wy0.heap.size 36 := by rw [hwy]; exact (tag_set (tag_set rt _ _) _ _)
            replace nt : Tag wz101 wz87.heap.size 24 := by rw [hwy]; exact (tag_set (tag_set nt _ _) _ _)
            replace rf0 : wz101.frozen? ⟨wy0.heap.size, 0, none⟩ = false := by rw [hwy]; simpa using rf0
            replace rf1 : wz101.frozen? ⟨wy0.heap.size, 1, none⟩ = false := by rw [hwy]; simpa using rf1
            replace HW := Lib.hid (Below.setCell (p := ⟨wy0.heap.size, 1, none⟩) (Below.setCell (p := ⟨wy0.heap.size, 0, none⟩) HW.out (by have := HWS.out; dsimp only; omega) (.int .i64 y)) (by have := HWS.out; dsimp only; omega) (.bool rq))
            rw [← hwy] at HW
            have hsz : wz101.heap.size = wz99.heap.size := by rw [hwy]; simp
            replace rz : wy0.heap.size < wz101.heap.size := by omega
            replace nz : wz87.heap.size < wz101.heap.size := by omega
            replace LO : _ ≤ wz101.heap.size := Nat.le_trans LO (Nat.le_of_eq hsz.symm)
            clear hsz hwy rc0 rc1
            have rc0 := rd0
            clear rd0
            have rc1 := rd1
            clear rd1
            refine hK.out _ _ ?_ (fun _ => ?_)
            · (try dsimp only); exact ⟨s0, s1⟩
            clear hK K
            (try simp only [Act.put, List.setIfInBounds_toArray, List.set_cons_zero, List.set_cons_succ])
            have hHeld : (fun W => W.cell? ⟨X, 0, none⟩ = some (.slice am 1 cm) ∧ W.cell? ⟨bb, oo + k, none⟩ = some (.int .i64 x)) wz101 := ⟨s0, s1⟩
            first | (refine wpAnyH_take (i := 16) (oi := ?oi102) (v := ?v102) ?hi102 (by kernel_rfl) (by kernel_rfl) (by kernel_rfl) ?hQ102 (Or.inl ⟨?hw102, ?hy102⟩) (by assumption) ?rest102; (case hi102 => (simp only [List.getElem?_toArray, List.getElem?_cons_succ, List.getElem?_cons_zero]; rfl)); (case hQ102 => exact fun _ _ _ h => h); (case hw102 => rfl); (case hy102 => ((intro w hSw); (try dsimp only at hSw); go_simp; (try with_reducible rfl)))) | (refine wpAnyH_take (i := 16) (oi := ?oi103) (v := undef) ?hi103 (by kernel_rfl) (by kernel_rfl) (by kernel_rfl) ?hQ103 (Or.inr ⟨?hw103, rfl⟩) (by assumption) ?rest103; (case hi103 => (simp only [List.getElem?_toArray, List.getElem?_cons_succ, List.getElem?_cons_zero]; rfl)); (case hQ103 => exact fun _ _ _ h => h); (case hw103 => rfl))
            (try simp only [Act.put, List.setIfInBounds_toArray, List.set_cons_zero, List.set_cons_succ])
            clear hHeld
            refine wpAnyH_done (by kernel_rfl) ?_ _
            go_wp2_with fail
            go_meet
            exact ⟨wz87.heap.size, wy0.heap.size, an', cn, rfl, rfl, rfl, nc0, rc0, rc1, HU.out, HW.out⟩
          case rest86 =>
            go_simp
            obtain ⟨wz104, hwy⟩ : ∃ W, W = wz84.alloc (.cells #[.slice none 0 0] 24) := ⟨_, rfl⟩
            rw [← hwy]
            have hb : Below wz84.heap.size wz84 wz104 := by rw [hwy]; exact below_new1 _ _
            have nc0 : wz104.cell? ⟨wz84.heap.size, 0, none⟩ = some (.slice none 0 0) := by rw [hwy, World.cell?_alloc_at _ _ _ _ rfl]; rfl
            have nf0 : wz104.frozen? ⟨wz84.heap.size, 0, none⟩ = false := by rw [hwy]; exact World.frozen?_alloc_at _ _ _ _ rfl
            have nt : Tag wz104 wz84.heap.size 24 := by rw [hwy]; exact tag_new _ _ _
            have nz : wz84.heap.size < wz104.heap.size := by rw [hwy]; simp
            have nl := LO
            replace HW := Lib.hid (below_step HW.out hb)
            replace s0 := cel_below hb s0
            replace s1 := cel_below hb s1
            replace rc0 := cel_below hb rc0
            replace rf0 := fro_below hb rz rf0
            replace rc1 := cel_below hb rc1
            replace rf1 := fro_below hb rz rf1
            replace rt := tag_below rt hb
            have rnn : wy0.heap.size ≠ wz84.heap.size := by omega
            replace rz := lt_below hb rz
            replace HRX := Lib.hid (rowOk_keep HRX.out hb)
            replace LO := Nat.le_trans LO hb.size
            clear hb hwy
            refine hK.out _ _ ?_ (fun _ => ?_)
            · (try dsimp only); exact ⟨s0, s1⟩
            clear hK K
            (try simp only [Act.put, List.setIfInBounds_toArray, List.set_cons_zero, List.set_cons_succ])
            refine wpAnyH_ready (rs := [7]) (by kernel_rfl) (by simp) ?_
            refine AllReadyH.cons (o := ?oi105) ?hi105 (fun K hK => ?rest105) AllReadyH.nil
            (case hi105 => (simp only [List.getElem?_toArray, List.getElem?_cons_succ, List.getElem?_cons_zero]; rfl))
            go_simp
            ((with_reducible refine (HQ.out _ (rowOk_has HRX.out)).mono ?_); rintro e wz106 ⟨an', cn, rfl, hu, hb, hF⟩)
            replace HW := Lib.hid (below_step HW.out hb)
            replace s0 := cel_below hb s0
            replace s1 := cel_below hb s1
            replace rc0 := cel_below hb rc0
            replace rf0 := fro_below hb rz rf0
            replace rc1 := cel_below hb rc1
            replace rf1 := fro_below hb rz rf1
            replace rz := lt_below hb rz
            replace rt := tag_below rt hb
            replace nc0 := cel_below hb nc0
            replace nf0 := fro_below hb nz nf0
            replace nz := lt_below hb nz
            replace nt := tag_below nt hb
            replace HRX := Lib.hid (rowOk_keep HRX.out hb)
            have HU := Lib.hid (rowOk_from HRX.out hu hF (by omega))
            clear hu hF HRX
            replace LO := Nat.le_trans LO hb.size
            clear hb
            refine hK.out _ _ ?_ (fun _ => ?_)
            · (try dsimp only); exact ⟨s0, s1⟩
            clear hK K
            (try simp only [Act.put, List.setIfInBounds_toArray, List.set_cons_zero, List.set_cons_succ])
            have hHeld : (fun W => W.cell? ⟨X, 0, none⟩ = some (.slice am 1 cm) ∧ W.cell? ⟨bb, oo + k, none⟩ = some (.int .i64 x)) wz106 := ⟨s0, s1⟩
            first | (refine wpAnyH_take (i := 8) (oi := ?oi107) (v := ?v107) ?hi107 (by kernel_rfl) (by kernel_rfl) (by kernel_rfl) ?hQ107 (Or.inl ⟨?hw107, ?hy107⟩) (by assumption) ?rest107; (case hi107 => (simp only [List.getElem?_toArray, List.getElem?_cons_succ, List.getElem?_cons_zero]; rfl)); (case hQ107 => exact fun _ _ _ h => h); (case hw107 => rfl); (case hy107 => ((intro w hSw); (try dsimp only at hSw); go_simp; (try with_reducible rfl)))) | (refine wpAnyH_take (i := 8) (oi := ?oi108) (v := undef) ?hi108 (by kernel_rfl) (by kernel_rfl) (by kernel_rfl) ?hQ108 (Or.inr ⟨?hw108, rfl⟩) (by assumption) ?rest108; (case hi108 => (simp only [List.getElem?_toArray, List.getElem?_cons_succ, List.getElem?_cons_zero]; rfl)); (case hQ108 => exact fun _ _ _ h => h); (case hw108 => rfl))
            (try simp only [Act.put, List.setIfInBounds_toArray, List.set_cons_zero, List.set_cons_succ])
            first | (refine wpAnyH_take (i := 9) (oi := ?oi109) (v := ?v109) ?hi109 (by kernel_rfl) (by kernel_rfl) (by kernel_rfl) ?hQ109 (Or.inl ⟨?hw109, ?hy109⟩) (by assumption) ?rest109; (case hi109 => (simp only [List.getElem?_toArray, List.getElem?_cons_succ, List.getElem?_cons_zero]; rfl)); (case hQ109 => exact fun _ _ _ h => h); (case hw109 => rfl); (case hy109 => ((intro w hSw); (try dsimp only at hSw); go_simp; (try with_reducible rfl)))) | (refine wpAnyH_take (i := 9) (oi := ?oi110) (v := undef) ?hi110 (by kernel_rfl) (by kernel_rfl) (by kernel_rfl) ?hQ110 (Or.inr ⟨?hw110, rfl⟩) (by assumption) ?rest110; (case hi110 => (simp only [List.getElem?_toArray, List.getElem?_cons_succ, List.getElem?_cons_zero]; rfl)); (case hQ110 => exact fun _ _ _ h => h); (case hw110 => rfl))
            (try simp only [Act.put, List.setIfInBounds_toArray, List.set_cons_zero, List.set_cons_succ])
            first | (refine wpAnyH_take (i := 10) (oi := ?oi111) (v := ?v111) ?hi111 (by kernel_rfl) (by kernel_rfl) (by kernel_rfl) ?hQ111 (Or.inl ⟨?hw111, ?hy111⟩) (by assumption) ?rest111; (case hi111 => (simp only [List.getElem?_toArray, List.getElem?_cons_succ, List.getElem?_cons_zero]; rfl)); (case hQ111 => exact fun _ _ _ h => h); (case hw111 => rfl); (case hy111 => ((intro w hSw); (try dsimp only at hSw); go_simp; (try with_reducible rfl)))) | (refine wpAnyH_take (i := 10) (oi := ?oi112) (v := undef) ?hi112 (by kernel_rfl) (by kernel_rfl) (by kernel_rfl) ?hQ112 (Or.inr ⟨?hw112, rfl⟩) (by assumption) ?rest112; (case hi112 => (simp only [List.getElem?_toArray, List.getElem?_cons_succ, List.getElem?_cons_zero]; rfl)); (case hQ112 => exact fun _ _ _ h => h); (case hw112 => rfl))
            (try simp only [Act.put, List.setIfInBounds_toArray, List.set_cons_zero, List.set_cons_succ])
            first | (refine wpAnyH_take (i := 11) (oi := ?oi113) (v := ?v113) ?hi113 (by kernel_rfl) (by kernel_rfl) (by kernel_rfl) ?hQ113 (Or.inl ⟨?hw113, ?hy113⟩) (by assumption) ?rest113; (case hi113 => (simp only [List.getElem?_toArray, List.getElem?_cons_succ, List.getElem?_cons_zero]; rfl)); (case hQ113 => exact fun _ _ _ h => h); (case hw113 => rfl); (case hy113 => ((intro w hSw); (try dsimp only at hSw); go_simp; (try with_reducible rfl)))) | (refine wpAnyH_take (i := 11) (oi := ?oi114) (v := undef) ?hi114 (by kernel_rfl) (by kernel_rfl) (by kernel_rfl) ?hQ114 (Or.inr ⟨?hw114, rfl⟩) (by assumption) ?rest114; (case hi114 => (simp only [List.getElem?_toArray, List.getElem?_cons_succ, List.getElem?_cons_zero]; rfl)); (case hQ114 => exact fun _ _ _ h => h); (case hw114 => rfl))
            (try simp only [Act.put, List.setIfInBounds_toArray, List.set_cons_zero, List.set_cons_succ])
            clear hHeld
            refine wpAnyH_ready (rs := [14]) (by kernel_rfl) (by simp) ?_
            refine AllReadyH.cons (o := ?oi115) ?hi115 (fun K hK => ?rest115) AllReadyH.nil
            (case hi115 => (simp only [List.getElem?_toArray, List.getElem?_cons_succ, List.getElem?_cons_zero]; rfl))
            go_simp
            obtain ⟨wz116, hwy⟩ : ∃ W, W = (wz106.setCell ⟨wz84.heap.size, 0, none⟩ (.slice an' 1 cn)) := ⟨_, rfl⟩
            rw [← hwy]
            replace s0 : wz116.cell? ⟨X, 0, none⟩ = some (.slice am 1 cm) := by rw [hwy]; exact keepA_ (s0) (Or.inl (by omega))
            replace s1 : wz116.cell? ⟨bb, oo + k, none⟩ = some (.int .i64 x) := by rw [hwy]; exact keepA_ (s1) (Or.inl (by omega))
            replace rc0 : wz116.cell? ⟨wy0.heap.size, 0, none⟩ = some (.int .i64 0) := by rw [hwy]; exact keepA_ (rc0) (Or.inl (by omega))
            replace rf0 : wz116.frozen? ⟨wy0.heap.size, 0, none⟩ = false := by rw [hwy]; simpa using rf0
            replace rc1 : wz116.cell? ⟨wy0.heap.size, 1, none⟩ = some (.bool false) := by rw [hwy]; exact keepA_ (rc1) (Or.inl (by omega))
            replace rf1 : wz116.frozen? ⟨wy0.heap.size, 1, none⟩ = false := by rw [hwy]; simpa using rf1
            replace HU : Hid (RowOk w w1.heap.size (.slice none 0 0) wz116 (.slice an' 1 cn) [y2]) := Lib.hid (by rw [hwy]; exact (rowOk_set (H0.out) HU.out nt (by decide) (by have := HWrr.out.size; omega)))
            have nd0 : wz116.cell? ⟨wz84.heap.size, 0, none⟩ = some (.slice an' 1 cn) := by rw [hwy]; exact World.cell?_setCell_same _ _ _ nc0
            replace rt : Tag wz116 wy0.heap.size 36 := by rw [hwy]; exact (tag_set rt _ _)
            replace nt : Tag wz116 wz84.heap.size 24 := by rw [hwy]; exact (tag_set nt _ _)
            replace nf0 : wz116.frozen? ⟨wz84.heap.size, 0, none⟩ = false := by rw [hwy]; simpa using nf0
            replace HW := Lib.hid (Below.setCell (p := ⟨wz84.heap.size, 0, none⟩) HW.out (by have := HWS.out; dsimp only; omega) (.slice an' 1 cn))
            rw [← hwy] at HW
            have hsz : wz116.heap.size = wz106.heap.size := by rw [hwy]; simp
            replace rz : wy0.heap.size < wz116.heap.size := by omega
            replace nz : wz84.heap.size < wz116.heap.size := by omega
            replace LO : _ ≤ wz116.heap.size := Nat.le_trans LO (Nat.le_of_eq hsz.symm)
            clear hsz hwy nc0
            have nc0 := nd0
            clear nd0
            refine hK.out _ _ ?_ (fun _ => ?_)
            · (try dsimp only); exact ⟨s0, s1⟩
            clear hK K
            (try simp only [Act.put, List.setIfInBounds_toArray, List.set_cons_zero, List.set_cons_succ])
            refine wpAnyH_ready (rs := [15]) (by kernel_rfl) (by simp) ?_
            refine AllReadyH.cons (o := ?oi117) ?hi117 (fun K hK => ?rest117) AllReadyH.nil
            (case hi117 => (simp only [List.getElem?_toArray, List.getElem?_cons_succ, List.getElem?_cons_zero]; rfl))
            go_simp
            obtain ⟨wz118, hwy⟩ : ∃ W, W = ((wz116.setCell ⟨wy0.heap.size, 0, none⟩ (.int .i64 y)).setCell ⟨wy0.heap.size, 1, none⟩ (.bool rq)) := ⟨_, rfl⟩
            rw [← hwy]
            replace s0 : wz118.cell? ⟨X, 0, none⟩ = some (.slice am 1 cm) := by rw [hwy]; exact keepA_ (keepA_ (s0) (Or.inl (by omega))) (Or.inl (by omega))
            replace s1 : wz118.cell? ⟨bb, oo + k, none⟩ = some (.int .i64 x) := by rw [hwy]; exact keepA_ (keepA_ (s1) (Or.inl (by omega))) (Or.inl (by omega))
            replace nc0 : wz118.cell? ⟨wz84.heap.size, 0, none⟩ = some (.slice an' 1 cn) := by rw [hwy]; exact keepA_ (keepA_ (nc0) (Or.inl (by omega))) (Or.inl (by omega))
            replace nf0 : wz118.frozen? ⟨wz84.heap.size, 0, none⟩ = false := by rw [hwy]; simpa using nf0
            replace HU : Hid (RowOk w w1.heap.size (.slice none 0 0) wz118 (.slice an' 1 cn) [y2]) := Lib.hid (by rw [hwy]; exact (rowOk_set (H0.out) (rowOk_set (H0.out) HU.out rt (by decide) (by have := HWrr.out.size; omega)) (tag_set rt _ _) (by decide) (by have := HWrr.out.size; omega)))
            have rd0 : wz118.cell? ⟨wy0.heap.size, 0, none⟩ = some (.int .i64 y) := by rw [hwy]; exact keepA_ (World.cell?_setCell_same _ _ _ rc0) (Or.inr (by simp))
            have rd1 : wz118.cell? ⟨wy0.heap.size, 1, none⟩ = some (.bool rq) := by rw [hwy]; exact World.cell?_setCell_same _ _ _ (keepA_ rc1 (Or.inr (by simp)))
            replace rt : Tag wz118 wy0.heap.size 36 := by rw [hwy]; exact (tag_set (tag_set rt _ _) _ _)
            replace nt : Tag wz118 wz84.heap.size 24 := by rw [hwy]; exact (tag_set (tag_set nt _ _) _ _)
            replace rf0 : wz118.frozen? ⟨wy0.heap.size, 0, none⟩ = false := by rw [hwy]; simpa using rf0
            replace rf1 : wz118.frozen? ⟨wy0.heap.size, 1, none⟩ = false := by rw [hwy]; simpa using rf1
            replace HW := Lib.hid (Below.setCell (p := ⟨wy0.heap.size, 1, none⟩) (Below.setCell (p := ⟨wy0.heap.size, 0, none⟩) HW.out (by have := HWS.out; dsimp only; omega) (.int .i64 y)) (by have := HWS.out; dsimp only; omega) (.bool rq))
            rw [← hwy] at HW
            have hsz : wz118.heap.size = wz116.heap.size := by rw [hwy]; simp
            replace rz : wy0.heap.size < wz118.heap.size := by omega
            replace nz : wz84.heap.size < wz118.heap.size := by omega
            replace LO : _ ≤ wz118.heap.size := Nat.le_trans LO (Nat.le_of_eq hsz.symm)
            clear hsz hwy rc0 rc1
            have rc0 := rd0
            clear rd0
            have rc1 := rd1
            clear rd1
            refine hK.out _ _ ?_ (fun _ => ?_)
            · (try dsimp only); exact ⟨s0, s1⟩
            clear hK K
            (try simp only [Act.put, List.setIfInBounds_toArray, List.set_cons_zero, List.set_cons_succ])
            have hHeld : (fun W => W.cell? ⟨X, 0, none⟩ = some (.slice am 1 cm) ∧ W.cell? ⟨bb, oo + k, none⟩ = some (.int .i64 x)) wz118 := ⟨s0, s1⟩
            first | (refine wpAnyH_take (i := 16) (oi := ?oi119) (v := ?v119) ?hi119 (by kernel_rfl) (by kernel_rfl) (by kernel_rfl) ?hQ119 (Or.inl ⟨?hw119, ?hy119⟩) (by assumption) ?rest119; (case hi119 => (simp only [List.getElem?_toArray, List.getElem?_cons_succ, List.getElem?_cons_zero]; rfl)); (case hQ119 => exact fun _ _ _ h => h); (case hw119 => rfl); (case hy119 => ((intro w hSw); (try dsimp only at hSw); go_simp; (try with_reducible rfl)))) | (refine wpAnyH_take (i := 16) (oi := ?oi120) (v := undef) ?hi120 (by kernel_rfl) (by kernel_rfl) (by kernel_rfl) ?hQ120 (Or.inr ⟨?hw120, rfl⟩) (by assumption) ?rest120; (case hi120 => (simp only [List.getElem?_toArray, List.getElem?_cons_succ, List.getElem?_cons_zero]; rfl)); (case hQ120 => exact fun _ _ _ h => h); (case hw120 => rfl))
            (try simp only [Act.put, List.setIfInBounds_toArray, List.set_cons_zero, List.set_cons_succ])
            clear hHeld
            refine wpAnyH_done (by kernel_rfl) ?_ _
            go_wp2_with fail
            go_meet
            exact ⟨wz84.heap.size, wy0.heap.size, an', cn, rfl, rfl, rfl, nc0, rc0, rc1, HU.out, HW.out⟩
      case rest =>
        obtain ⟨gn, gr, an', cn, rfl, rfl, rfl, hn0, hr0, hr1, hrow2, hb2⟩ := hcut
        have HROW2 := Lib.hid hrow2
        have HB2 := Lib.hid hb2
        have qx := cel_below hb2 hxb
        have qf := fro_below hb2 hXs hxf
        have HT2 := Lib.hid (tag_below HTAG.out hb2)
        have hXw2 : X < wc.heap.size := lt_below hb2 hXs
        clear hrow2 hb2 hxb hxf hcx
        have hgX : gr ≠ X := by
          intro hc; subst hc; rw [hr0] at qx; simp at qx
        have s1 : (wc.setCell ⟨X, 0, none⟩ (.slice an' 1 cn)).cell? ⟨gr, 1, none⟩ = some (.bool rq) := keepA_ hr1 (Or.inr (by simp))
        have HS3 := Lib.hid (rowOk_set (b := X) (o := 0) (x := .slice an' 1 cn) H0.out HROW2.out HT2.out (by decide) (by have := HW.out.size; omega))
        have HT3 := Lib.hid (tag_set HT2.out ⟨X, 0, none⟩ (.slice an' 1 cn))
        have x3 : (wc.setCell ⟨X, 0, none⟩ (.slice an' 1 cn)).cell? ⟨X, 0, none⟩ = some (.slice an' 1 cn) := World.cell?_setCell_same _ _ _ qx
        have xf3 : (wc.setCell ⟨X, 0, none⟩ (.slice an' 1 cn)).frozen? ⟨X, 0, none⟩ = false := by simpa using qf
        have HB3 : Hid (Below w1.heap.size w1 (wc.setCell ⟨X, 0, none⟩ (.slice an' 1 cn))) := Lib.hid ((HBR.out.trans (HB2.out.mono HBR.out.size)).setCell (by dsimp only; omega) _)
        have hgd : (gr ≠ X) = True := by simp [hgX]
        clear hgX hgd
        rcases HST.out with ⟨rfl, rfl, hw⟩ | ⟨hk0, rfl, hyn, hw⟩
        · obtain rfl : g = 0 := by simpa using hw
          obtain rfl : rq = true := by rw [HRQ.out]; simp
          have HZ : Hid (y2 = z0) := Lib.hid (by rw [HY2.out, if_pos rfl, HXX.out, HZ0.out])
          clear hw
          go_wp2
          go_roundw
          case rel => exact ⟨1, an', cn, y2, by omega, by go_num, Or.inr ⟨by omega, HZ.out, by rw [HY2.out, if_pos rfl]; exact HXN.out, rfl⟩, x3, xf3, HS3.out, HT3.out, HB3.out⟩
          case measure => simp [intOf]; omega
        · obtain rfl : g = 1 := by simpa using hw
          obtain rfl : rq = false := by rw [HRQ.out]; simp [hyn]
          have HZ : Hid (y2 = y) := Lib.hid (by rw [HY2.out, if_neg hyn])
          have hk1 : ((k : Int) == 0) = false := by simp; omega
          have HYN := Lib.hid hyn
          clear hw hyn
          go_wp2
          go_roundw
          case rel => exact ⟨k + 1, an', cn, y2, by omega, by go_num, Or.inr ⟨by omega, HZ.out, by rw [HZ.out]; exact HYN.out, rfl⟩, x3, xf3, HS3.out, HT3.out, HB3.out⟩
          case measure => simp [intOf]; omega
    · obtain rfl : k = M := by omega
      rcases hst with ⟨h9, _, _⟩ | ⟨_, rfl, hyn, rfl⟩
      · omega
      have hcx := cel_below HWr.out (HC.out 0 h0)
      rw [← HZ0.out] at hcx
      have HR2 := Lib.hid (rowOk_has HROW.out)
      clear hyn
      simp only [Nat.add_zero] at hcx
      go_wp2_with fail
      have HW := Lib.hid (Below.refl wr.heap.size wr)
      refine wp_region_held_drew (S := fun W => W.cell? ⟨X, 0, none⟩ = some (.slice am 1 cm) ∧ W.cell? ⟨bb, oo, none⟩ = some (.int .i64 y)) (by kernel_rfl) ?_ (fun hHeld => ?_)
      · (try dsimp only); exact ⟨by first | assumption | go_simp, by first | assumption | go_simp⟩
      replace HW := Lib.hid (below_drews HW.out 1)
      first | (refine wpAnyH_take (i := 0) (oi := ?oi121) (v := ?v121) ?hi121 (by kernel_rfl) (by kernel_rfl) (by kernel_rfl) ?hQ121 (Or.inl ⟨?hw121, ?hy121⟩) (by assumption) ?rest121; (case hi121 => (simp only [List.getElem?_toArray, List.getElem?_cons_zero]; rfl)); (case hQ121 => exact fun _ _ _ h => h); (case hw121 => rfl); (case hy121 => ((intro w hSw); (try dsimp only at hSw); go_simp; (try with_reducible rfl)))) | (refine wpAnyH_take (i := 0) (oi := ?oi122) (v := undef) ?hi122 (by kernel_rfl) (by kernel_rfl) (by kernel_rfl) ?hQ122 (Or.inr ⟨?hw122, rfl⟩) (by assumption) ?rest122; (case hi122 => (simp only [List.getElem?_toArray, List.getElem?_cons_zero]; rfl)); (case hQ122 => exact fun _ _ _ h => h); (case hw122 => rfl))
      (try simp only [Act.put, List.setIfInBounds_toArray, List.set_cons_zero, List.set_cons_succ])
      first | (refine wpAnyH_take (i := 1) (oi := ?oi123) (v := ?v123) ?hi123 (by kernel_rfl) (by kernel_rfl) (by kernel_rfl) ?hQ123 (Or.inl ⟨?hw123, ?hy123⟩) (by assumption) ?rest123; (case hi123 => (simp only [List.getElem?_toArray, List.getElem?_cons_succ, List.getElem?_cons_zero]; rfl)); (case hQ123 => exact fun _ _ _ h => h); (case hw123 => rfl); (case hy123 => ((intro w hSw); (try dsimp only at hSw); go_simp; (try with_reducible rfl)))) | (refine wpAnyH_take (i := 1) (oi := ?oi124) (v := undef) ?hi124 (by kernel_rfl) (by kernel_rfl) (by kernel_rfl) ?hQ124 (Or.inr ⟨?hw124, rfl⟩) (by assumption) ?rest124; (case hi124 => (simp only [List.getElem?_toArray, List.getElem?_cons_succ, List.getElem?_cons_zero]; rfl)); (case hQ124 => exact fun _ _ _ h => h); (case hw124 => rfl))
      (try simp only [Act.put, List.setIfInBounds_toArray, List.set_cons_zero, List.set_cons_succ])
      first | (refine wpAnyH_take (i := 2) (oi := ?oi125) (v := ?v125) ?hi125 (by kernel_rfl) (by kernel_rfl) (by kernel_rfl) ?hQ125 (Or.inl ⟨?hw125, ?hy125⟩) (by assumption) ?rest125; (case hi125 => (simp only [List.getElem?_toArray, List.getElem?_cons_succ, List.getElem?_cons_zero]; rfl)); (case hQ125 => exact fun _ _ _ h => h); (case hw125 => rfl); (case hy125 => ((intro w hSw); (try dsimp only at hSw); go_simp; (try with_reducible rfl)))) | (refine wpAnyH_take (i := 2) (oi := ?oi126) (v := undef) ?hi126 (by kernel_rfl) (by kernel_rfl) (by kernel_rfl) ?hQ126 (Or.inr ⟨?hw126, rfl⟩) (by assumption) ?rest126; (case hi126 => (simp only [List.getElem?_toArray, List.getElem?_cons_succ, List.getElem?_cons_zero]; rfl)); (case hQ126 => exact fun _ _ _ h => h); (case hw126 => rfl))
      (try simp only [Act.put, List.setIfInBounds_toArray, List.set_cons_zero, List.set_cons_succ])
      first | (refine wpAnyH_take (i := 3) (oi := ?oi127) (v := ?v127) ?hi127 (by kernel_rfl) (by kernel_rfl) (by kernel_rfl) ?hQ127 (Or.inl ⟨?hw127, ?hy127⟩) (by assumption) ?rest127; (case hi127 => (simp only [List.getElem?_toArray, List.getElem?_cons_succ, List.getElem?_cons_zero]; rfl)); (case hQ127 => exact fun _ _ _ h => h); (case hw127 => rfl); (case hy127 => ((intro w hSw); (try dsimp only at hSw); go_simp; (try with_reducible rfl)))) | (refine wpAnyH_take (i := 3) (oi := ?oi128) (v := undef) ?hi128 (by kernel_rfl) (by kernel_rfl) (by kernel_rfl) ?hQ128 (Or.inr ⟨?hw128, rfl⟩) (by assumption) ?rest128; (case hi128 => (simp only [List.getElem?_toArray, List.getElem?_cons_succ, List.getElem?_cons_zero]; rfl)); (case hQ128 => exact fun _ _ _ h => h); (case hw128 => rfl))
      (try simp only [Act.put, List.setIfInBounds_toArray, List.set_cons_zero, List.set_cons_succ])
      first | (refine wpAnyH_take (i := 4) (oi := ?oi129) (v := ?v129) ?hi129 (by kernel_rfl) (by kernel_rfl) (by kernel_rfl) ?hQ129 (Or.inl ⟨?hw129, ?hy129⟩) (by assumption) ?rest129; (case hi129 => (simp only [List.getElem?_toArray, List.getElem?_cons_succ, List.getElem?_cons_zero]; rfl)); (case hQ129 => exact fun _ _ _ h => h); (case hw129 => rfl); (case hy129 => ((intro w hSw); (try dsimp only at hSw); go_simp; (try with_reducible rfl)))) | (refine wpAnyH_take (i := 4) (oi := ?oi130) (v := undef) ?hi130 (by kernel_rfl) (by kernel_rfl) (by kernel_rfl) ?hQ130 (Or.inr ⟨?hw130, rfl⟩) (by assumption) ?rest130; (case hi130 => (simp only [List.getElem?_toArray, List.getElem?_cons_succ, List.getElem?_cons_zero]; rfl)); (case hQ130 => exact fun _ _ _ h => h); (case hw130 => rfl))
      (try simp only [Act.put, List.setIfInBounds_toArray, List.set_cons_zero, List.set_cons_succ])
      first | (refine wpAnyH_take (i := 5) (oi := ?oi131) (v := ?v131) ?hi131 (by kernel_rfl) (by kernel_rfl) (by kernel_rfl) ?hQ131 (Or.inl ⟨?hw131, ?hy131⟩) (by assumption) ?rest131; (case hi131 => (simp only [List.getElem?_toArray, List.getElem?_cons_succ, List.getElem?_cons_zero]; rfl)); (case hQ131 => exact fun _ _ _ h => h); (case hw131 => rfl); (case hy131 => ((intro w hSw); (try dsimp only at hSw); go_simp; (try with_reducible rfl)))) | (refine wpAnyH_take (i := 5) (oi := ?oi132) (v := undef) ?hi132 (by kernel_rfl) (by kernel_rfl) (by kernel_rfl) ?hQ132 (Or.inr ⟨?hw132, rfl⟩) (by assumption) ?rest132; (case hi132 => (simp only [List.getElem?_toArray, List.getElem?_cons_succ, List.getElem?_cons_zero]; rfl)); (case hQ132 => exact fun _ _ _ h => h); (case hw132 => rfl))
      (try simp only [Act.put, List.setIfInBounds_toArray, List.set_cons_zero, List.set_cons_succ])
      first | (refine wpAnyH_take (i := 6) (oi := ?oi133) (v := ?v133) ?hi133 (by kernel_rfl) (by kernel_rfl) (by kernel_rfl) ?hQ133 (Or.inl ⟨?hw133, ?hy133⟩) (by assumption) ?rest133; (case hi133 => (simp only [List.getElem?_toArray, List.getElem?_cons_succ, List.getElem?_cons_zero]; rfl)); (case hQ133 => exact fun _ _ _ h => h); (case hw133 => rfl); (case hy133 => ((intro w hSw); (try dsimp only at hSw); go_simp; (try with_reducible rfl)))) | (refine wpAnyH_take (i := 6) (oi := ?oi134) (v := undef) ?hi134 (by kernel_rfl) (by kernel_rfl) (by kernel_rfl) ?hQ134 (Or.inr ⟨?hw134, rfl⟩) (by assumption) ?rest134; (case hi134 => (simp only [List.getElem?_toArray, List.getElem?_cons_succ, List.getElem?_cons_zero]; rfl)); (case hQ134 => exact fun _ _ _ h => h); (case hw134 => rfl))
      (try simp only [Act.put, List.setIfInBounds_toArray, List.set_cons_zero, List.set_cons_succ])
      first | (refine wpAnyH_take (i := 7) (oi := ?oi135) (v := ?v135) ?hi135 (by kernel_rfl) (by kernel_rfl) (by kernel_rfl) ?hQ135 (Or.inl ⟨?hw135, ?hy135⟩) (by assumption) ?rest135; (case hi135 => (simp only [List.getElem?_toArray, List.getElem?_cons_succ, List.getElem?_cons_zero]; rfl)); (case hQ135 => exact fun _ _ _ h => h); (case hw135 => rfl); (case hy135 => ((intro w hSw); (try dsimp only at hSw); go_simp; (try with_reducible rfl)))) | (refine wpAnyH_take (i := 7) (oi := ?oi136) (v := undef) ?hi136 (by kernel_rfl) (by kernel_rfl) (by kernel_rfl) ?hQ136 (Or.inr ⟨?hw136, rfl⟩) (by assumption) ?rest136; (case hi136 => (simp only [List.getElem?_toArray, List.getElem?_cons_succ, List.getElem?_cons_zero]; rfl)); (case hQ136 => exact fun _ _ _ h => h); (case hw136 => rfl))
      (try simp only [Act.put, List.setIfInBounds_toArray, List.set_cons_zero, List.set_cons_succ])
      first | (refine wpAnyH_take (i := 8) (oi := ?oi137) (v := ?v137) ?hi137 (by kernel_rfl) (by kernel_rfl) (by kernel_rfl) ?hQ137 (Or.inl ⟨?hw137, ?hy137⟩) (by assumption) ?rest137; (case hi137 => (simp only [List.getElem?_toArray, List.getElem?_cons_succ, List.getElem?_cons_zero]; rfl)); (case hQ137 => exact fun _ _ _ h => h); (case hw137 => rfl); (case hy137 => ((intro w hSw); (try dsimp only at hSw); go_simp; (try with_reducible rfl)))) | (refine wpAnyH_take (i := 8) (oi := ?oi138) (v := undef) ?hi138 (by kernel_rfl) (by kernel_rfl) (by kernel_rfl) ?hQ138 (Or.inr ⟨?hw138, rfl⟩) (by assumption) ?rest138; (case hi138 => (simp only [List.getElem?_toArray, List.getElem?_cons_succ, List.getElem?_cons_zero]; rfl)); (case hQ138 => exact fun _ _ _ h => h); (case hw138 => rfl))
      (try simp only [Act.put, List.setIfInBounds_toArray, List.set_cons_zero, List.set_cons_succ])
      first | (refine wpAnyH_take (i := 9) (oi := ?oi139) (v := ?v139) ?hi139 (by kernel_rfl) (by kernel_rfl) (by kernel_rfl) ?hQ139 (Or.inl ⟨?hw139, ?hy139⟩) (by assumption) ?rest139; (case hi139 => (simp only [List.getElem?_toArray, List.getElem?_cons_succ, List.getElem?_cons_zero]; rfl)); (case hQ139 => exact fun _ _ _ h => h); (case hw139 => rfl); (case hy139 => ((intro w hSw); (try dsimp only at hSw); go_simp; (try with_reducible rfl)))) | (refine wpAnyH_take (i := 9) (oi := ?oi140) (v := undef) ?hi140 (by kernel_rfl) (by kernel_rfl) (by kernel_rfl) ?hQ140 (Or.inr ⟨?hw140, rfl⟩) (by assumption) ?rest140; (case hi140 => (simp only [List.getElem?_toArray, List.getElem?_cons_succ, List.getElem?_cons_zero]; rfl)); (case hQ140 => exact fun _ _ _ h => h); (case hw140 => rfl))
      (try simp only [Act.put, List.setIfInBounds_toArray, List.set_cons_zero, List.set_cons_succ])
      refine wpAnyH_ready (rs := [10]) (by kernel_rfl) (by simp) ?_
      refine AllReadyH.cons (o := ?oi141) ?hi141 (fun K hK => ?rest141) AllReadyH.nil
      (case hi141 => (simp only [List.getElem?_toArray, List.getElem?_cons_succ, List.getElem?_cons_zero]; rfl))
      obtain ⟨s0, s1⟩ := hHeld
      go_simp
      replace HW := Lib.hid (below_step HW.out (below_new1 _ (.cells #[.int .i64 y] 3)))
      refine hK.out _ _ ?_ (fun hHeld => ?_)
      · (try dsimp only); exact ⟨cell_alloc _ s0, cell_alloc _ s1⟩
      clear hK K s0 s1
      (try simp only [Act.put, List.setIfInBounds_toArray, List.set_cons_zero, List.set_cons_succ])
      first | (refine wpAnyH_take (i := 11) (oi := ?oi142) (v := ?v142) ?hi142 (by kernel_rfl) (by kernel_rfl) (by kernel_rfl) ?hQ142 (Or.inl ⟨?hw142, ?hy142⟩) (by assumption) ?rest142; (case hi142 => (simp only [List.getElem?_toArray, List.getElem?_cons_succ, List.getElem?_cons_zero]; rfl)); (case hQ142 => exact fun _ _ _ h => h); (case hw142 => rfl); (case hy142 => ((intro w hSw); (try dsimp only at hSw); go_simp; (try with_reducible rfl)))) | (refine wpAnyH_take (i := 11) (oi := ?oi143) (v := undef) ?hi143 (by kernel_rfl) (by kernel_rfl) (by kernel_rfl) ?hQ143 (Or.inr ⟨?hw143, rfl⟩) (by assumption) ?rest143; (case hi143 => (simp only [List.getElem?_toArray, List.getElem?_cons_succ, List.getElem?_cons_zero]; rfl)); (case hQ143 => exact fun _ _ _ h => h); (case hw143 => rfl))
      (try simp only [Act.put, List.setIfInBounds_toArray, List.set_cons_zero, List.set_cons_succ])
      refine wpAnyH_ready (rs := [12]) (by kernel_rfl) (by simp) ?_
      refine AllReadyH.cons (o := ?oi144) ?hi144 (fun K hK => ?rest144) AllReadyH.nil
      (case hi144 => (simp only [List.getElem?_toArray, List.getElem?_cons_succ, List.getElem?_cons_zero]; rfl))
      obtain ⟨s0, s1⟩ := hHeld
      go_simp
      ((with_reducible refine (cas_end wr am cm _ y HR2.out (by first | with_reducible rfl | simp)).mono ?_); rintro e wx1 ⟨rfl, hb⟩)
      replace HW := Lib.hid (below_step HW.out hb)
      refine hK.out _ _ ?_ (fun hHeld => ?_)
      · (try dsimp only); exact ⟨cel_below hb s0, cel_below hb s1⟩
      clear hK K s0 s1 hb
      (try simp only [Act.put, List.setIfInBounds_toArray, List.set_cons_zero, List.set_cons_succ])
      first | (refine wpAnyH_take (i := 13) (oi := ?oi145) (v := ?v145) ?hi145 (by kernel_rfl) (by kernel_rfl) (by kernel_rfl) ?hQ145 (Or.inl ⟨?hw145, ?hy145⟩) (by assumption) ?rest145; (case hi145 => (simp only [List.getElem?_toArray, List.getElem?_cons_succ, List.getElem?_cons_zero]; rfl)); (case hQ145 => exact fun _ _ _ h => h); (case hw145 => rfl); (case hy145 => ((intro w hSw); (try dsimp only at hSw); go_simp; (try with_reducible rfl)))) | (refine wpAnyH_take (i := 13) (oi := ?oi146) (v := undef) ?hi146 (by kernel_rfl) (by kernel_rfl) (by kernel_rfl) ?hQ146 (Or.inr ⟨?hw146, rfl⟩) (by assumption) ?rest146; (case hi146 => (simp only [List.getElem?_toArray, List.getElem?_cons_succ, List.getElem?_cons_zero]; rfl)); (case hQ146 => exact fun _ _ _ h => h); (case hw146 => rfl))
      (try simp only [Act.put, List.setIfInBounds_toArray, List.set_cons_zero, List.set_cons_succ])
      first | (refine wpAnyH_take (i := 14) (oi := ?oi147) (v := ?v147) ?hi147 (by kernel_rfl) (by kernel_rfl) (by kernel_rfl) ?hQ147 (Or.inl ⟨?hw147, ?hy147⟩) (by assumption) ?rest147; (case hi147 => (simp only [List.getElem?_toArray, List.getElem?_cons_succ, List.getElem?_cons_zero]; rfl)); (case hQ147 => exact fun _ _ _ h => h); (case hw147 => rfl); (case hy147 => ((intro w hSw); (try dsimp only at hSw); go_simp; (try with_reducible rfl)))) | (refine wpAnyH_take (i := 14) (oi := ?oi148) (v := undef) ?hi148 (by kernel_rfl) (by kernel_rfl) (by kernel_rfl) ?hQ148 (Or.inr ⟨?hw148, rfl⟩) (by assumption) ?rest148; (case hi148 => (simp only [List.getElem?_toArray, List.getElem?_cons_succ, List.getElem?_cons_zero]; rfl)); (case hQ148 => exact fun _ _ _ h => h); (case hw148 => rfl))
      (try simp only [Act.put, List.setIfInBounds_toArray, List.set_cons_zero, List.set_cons_succ])
      refine wpAnyH_done (by kernel_rfl) ?_ _
      obtain ⟨s0, s1⟩ := hHeld
      go_wp2
      go_ret
      exact ⟨rfl, below_step HWr.out HW.out⟩

theorem walk (w : World) (n : Int) (w1 : (Lit.int .i64 n).wf = true) (x : Value) (zs : List Int) (hx : HasInts w x zs) :
    Calls Try.prog 5 #[.int .i64 n, x] w fun e w' => e = .returned (.bool true) ∧ Below w.heap.size w w' := by
  have hx0 := hx
  obtain ⟨b, cp, rfl, _, _⟩ := hx0
  by_cases h : 20 < zs.length
  · exact walk_big w n b _ cp h
  by_cases h2 : zs.length = 0
  · exact walk_nil w n b _ cp h2
  · exact walk_sm w n b _ cp zs rfl hx (by omega) (by omega)

theorem own : ownKnob Try.prog.godebug = none := by kernel_rfl
theorem laidOut : laidOutB Try.prog = true := by kernel_rfl

set_option maxRecDepth 100000 in
theorem lifted (os : Os) (started : os.Started) (H : Type) (enc : TypeId × Value → H) :
    ReturnsInHanded {} Try.checked os 5 .any (Rows.memCasOnceSpec.pre6 enc Try.prog Try.f5 Rows.memCasOnceRow.domain false) (Rows.memCasOnceSpec.post enc Try.prog Try.f5 false true false false) := by
  refine returnsInHanded_of_change (C := Try.checked) own started (by kernel_rfl) Try.func5
    (ChangeSpec.witness6 (enc := enc) (C := Try.checked) false ⟨#[], #[.int .i64 0, .slice none 0 0], []⟩ 8 (by kernel_rfl) (by kernel_rfl) (by kernel_rfl) (by kernel_rfl)) ?_
  intro W base args ds gs before hval0 hW hcnd _
  have hval : ∀ (j : Nat) t v, Try.f5.params[j]? = some t → args[j]? = some v → Value.okWide Try.prog W .any base t v := hval0
  have hW' := hW
  obtain ⟨p, q, hA0, hV, rfl, hfz, hnd⟩ := hW
  have hA : DataW.TrodAll enc Try.prog W 0 (fun _ => true) true Try.f5.params.toList args.toList ds p := hA0
  rw [Try.params5] at hA hval
  obtain ⟨v0, vs0, d0, ds0, p0, q0, hargs, rfl, rfl, h0, r0⟩ := trodAll_cons hA
  obtain ⟨v1, vs1, d1, ds1, p1, q1, rfl, rfl, rfl, h1, r1⟩ := trodAll_cons r0
  obtain ⟨rfl, rfl, rfl⟩ := trodAll_nil r1
  obtain rfl : args = #[v0, v1] := by cases args; simp_all
  obtain ⟨rfl, rfl⟩ := trodVars_none hV
  clear hA0 hval0
  simp only [List.append_nil] at hW'
  have lt0 : ∀ x ∈ p0, x.block < W.heap.size := fun x hx => hW'.lt x (by simp [hx])
  have lt1 : ∀ x ∈ p1, x.block < W.heap.size := fun x hx => hW'.lt x (by simp [hx])
  have back0 : ∀ W', Below W.heap.size W W' → DataW.Trod enc Try.prog W' 0 (fun b => decide (b < W.heap.size)) true 3 v0 d0 p0 := fun W' hb => Below.trod laidOut (by kernel_rfl) (of_decide_eq_true (by kernel_rfl)) h0 hb lt0
  have back1 : ∀ W', Below W.heap.size W W' → DataW.Trod enc Try.prog W' 0 (fun b => decide (b < W.heap.size)) true 22 v1 d1 p1 := fun W' hb => Below.trod laidOut (by kernel_rfl) (of_decide_eq_true (by kernel_rfl)) h1 hb lt1
  obtain ⟨a0, rfl, rfl, rfl, w0⟩ := open_int Try.underlying3 (hval 0 3 v0 rfl rfl) h0
  obtain ⟨z1, k1⟩ := open_intsArg (hval 1 22 v1 rfl rfl) h1
  refine (walk W a0 w0 v1 z1 k1).mono fun e W' ⟨he, hg⟩ => ?_
  subst he
  exact ⟨_, rfl, _, _, _, [], _, [], hW', (trodAll_cons_mk (shut_bool Try.underlying4 _) trodAll_mk0), (trodAll_cons_mk (back0 _ hg) (trodAll_cons_mk (back1 _ hg) trodAll_mk0)), rfl, hg.frame _, fun h => by cases h⟩

theorem over : Rows.memCasOnceRow.holds Try.pinned (OpenSpec.ofChange Rows.memCasOnceSpec) :=
  OpenClaim.holds_of_wide 5 Try.f5 rfl rfl rfl rfl rfl rfl rfl ⟨rfl, rfl, rfl, rfl, rfl⟩ rfl rfl rfl rfl rfl (by kernel_rfl) Try.func5 (by kernel_rfl)
    (of_decide_eq_true (by kernel_rfl)) (by unfold Func.isWrapper; first | (rw [if_pos (by decide +kernel)]; kernel_rfl) | (rw [if_neg (by decide +kernel)]; exact ⟨rfl, rfl⟩))
    (fun os started H enc _ => lifted os started H enc)

/-- The given statement. -/
theorem proved : Rows.MemCasOnceSaid :=
  over
#print axioms proved
end Go.Proofs.Ytimjodpndhckdaa.memCasOnce
