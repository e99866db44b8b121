
/-
  Layer 3: one append of bytes, the source possibly nil; and the byte sequence that WireSumDetects joins.
-/
import Derived.Test.YtimjodpndhckdaaRows
import Derived.Test.YtimjodpndhckdaaBase
import Derived.Test.YtimjodpndhckdaaAux
import Derived.Test.YtimjodpndhckdaaWireA
import Derived.Test.YtimjodpndhckdaaWireB
import Derived.Test.YtimjodpndhckdaaWireF
import Derived.Laws.AppendOwn
import Derived.Laws.AppendOwnNone
import Derived.Deep.DeepCutAuto
import Derived.Outline
import Derived.Deep.RegionHeld3
namespace Go.Proofs.Ytimjodpndhckdaa
set_option linter.unusedVariables false
set_option maxRecDepth 100000
open Go.ChangeShapes Go.WideShapes Go.ChangeAt Go.RowKit

theorem wp_append_b {w : World} {o : Oper} {a : Act} {K : Act → World → Prop} {Q : Exit → Act → World → Prop} (s x : Operand) (ho : o.op = .call { callee := .builtin .append, args := #[s, x], argTypes := #[42, 42] })
    (B : Nat) (v : Value) (xs : List Nat) (hs : a.eval s = v) (hown : OwnB w B v xs) (u : Value) (ys : List Nat) (hx : a.eval x = u) (hr : HasB w u ys)
    (b1 : xs.length + ys.length ≤ 1000000) (hbase : B ≤ w.heap.size)
    (h : ∀ v' w', OwnB w' B v' (xs ++ ys) → Below B w w' → (∀ (b j : Nat) (c : Value), b < B → w.cell? ⟨b, j, none⟩ = some c → w'.cell? ⟨b, j, none⟩ = some c) → K (a.put o.dst v') w') : o.wp Try.prog a w K Q := by
  obtain ⟨i0, hi, hz0, hz1, hz2⟩ := info_parts info_u8
  have hr0 := hr
  obtain ⟨ad, cap, rfl, hl, hc⟩ := hr
  rcases (hasB_src hr0).2 with ⟨rfl, h0, rfl⟩ | ⟨ad, rfl, hcs⟩
  · have hys : ys = [] := List.length_eq_zero_iff.1 h0
    have hrun := run_append_owned_none (P := Try.prog) (w := w) B 42 o.type 5 i0 1 Try.underlying42 hi v xs.length (xs.map bV) hown
    have hx' : a.eval x = .slice none 0 0 := by rw [hx, h0]
    have hq := h v w (by rw [hys, List.append_nil]; exact hown) (Below.refl _ _) (fun _ _ _ _ h => h)
    unfold Oper.wp
    simp [execOp, ho, resolve, invoke, builtin, hs, hx', hrun, Result.andThen]
    exact hq
  · refine wp_append_own w s x 42 ho B 5 i0 (.int .u8 0) 1 1 Try.underlying42 hi hz0 hz1 hz2 rfl (by decide) v xs.length (xs.map bV) hs hown ad ys.length cap (ys.map bV) hx (by rw [List.length_map, Nat.mul_one]) hcs (bV_one _) (by unfold maxLen; omega) (by omega) hbase ?_
    intro v' w' h1 h2 _
    have hbl := (Below.refl B w).grown h2 hbase (fun j hj => (hown.lt j hj).1)
    exact h v' w' (own_join rfl h1) hbl (fun b j c hb hcell => (hbl.cell hb).trans hcell)

theorem own_empty (w : World) : OwnB (w.alloc (.cells #[] 5)) w.heap.size (.slice (some ⟨w.heap.size, 0, none⟩) 0 0) [] := by
  have h := World.ownsRow_lit (base := w.heap.size) (e := 5) (size := 1) w #[] 0 (Nat.le_refl _) (by unfold maxLen; omega) rfl
  exact h
set_option maxHeartbeats 4000000 in
/-- The closure of WireSumDetects: the first row, the given bytes, the second row, in new memory. -/
theorem join_any (w : World) (g g' : Nat) (aa ab ax : Option Addr) (L1 L2 L3 c1 c2 c3 : Nat) (la lb lx : List Nat) (hg : w.cell? ⟨g, 0, none⟩ = some (.slice aa L1 c1)) (hg' : w.cell? ⟨g', 0, none⟩ = some (.slice ab L2 c2)) (hva : HasB w (.slice aa L1 c1) la) (hvb : HasB w (.slice ab L2 c2) lb) (hvx : HasB w (.slice ax L3 c3) lx) (hlen : la.length + lx.length + lb.length ≤ 1000) :
    Calls Try.prog 19 #[.slice ax L3 c3, .pointer (some ⟨g, 0, none⟩), .pointer (some ⟨g', 0, none⟩)] w fun e w' => ∃ v, e = .returned v ∧ OwnB w' w.heap.size v (la ++ lx ++ lb) ∧ Below w.heap.size w w' := by
  have HVA := Lib.hid hva
  have HVB := Lib.hid hvb
  have HVX := Lib.hid hvx
  clear hva hvb hvx
  have z0 : g < w.heap.size := World.block_lt_of_cell? w _ hg
  have z1 : g' < w.heap.size := World.block_lt_of_cell? w _ hg'
  go_enter Try.func19, Try.ntmps19
  go_upto_region 1 with fail
  have HW := Lib.hid (Below.refl w.heap.size w)
  refine wp_region_held_drew (S := fun W => W.cell? ⟨g, 0, none⟩ = some (.slice aa L1 c1) ∧ W.cell? ⟨g', 0, none⟩ = some (.slice ab L2 c2)) (by kernel_rfl) ?_ (fun hHeld => ?_)
  · (try dsimp only); exact ⟨by first | assumption | go_simp, by first | assumption | go_simp⟩
  replace HW := Lib.hid (below_drews HW.out 1)
  first | (refine wpAnyH_take (i := 1) (oi := ?oi1) (v := ?v1) ?hi1 (by kernel_rfl) (by kernel_rfl) (by kernel_rfl) ?hQ1 (Or.inl ⟨?hw1, ?hy1⟩) (by assumption) ?rest1; (case hi1 => (simp only [List.getElem?_toArray, List.getElem?_cons_succ, List.getElem?_cons_zero]; rfl)); (case hQ1 => exact fun _ _ _ h => h); (case hw1 => rfl); (case hy1 => ((intro w hSw); (try dsimp only at hSw); go_simp; (try with_reducible rfl)))) | (refine wpAnyH_take (i := 1) (oi := ?oi2) (v := undef) ?hi2 (by kernel_rfl) (by kernel_rfl) (by kernel_rfl) ?hQ2 (Or.inr ⟨?hw2, rfl⟩) (by assumption) ?rest2; (case hi2 => (simp only [List.getElem?_toArray, List.getElem?_cons_succ, List.getElem?_cons_zero]; rfl)); (case hQ2 => exact fun _ _ _ h => h); (case hw2 => rfl))
  (try simp only [Act.put, List.setIfInBounds_toArray, List.set_cons_zero, List.set_cons_succ])
  first | (refine wpAnyH_take (i := 3) (oi := ?oi3) (v := ?v3) ?hi3 (by kernel_rfl) (by kernel_rfl) (by kernel_rfl) ?hQ3 (Or.inl ⟨?hw3, ?hy3⟩) (by assumption) ?rest3; (case hi3 => (simp only [List.getElem?_toArray, List.getElem?_cons_succ, List.getElem?_cons_zero]; rfl)); (case hQ3 => exact fun _ _ _ h => h); (case hw3 => rfl); (case hy3 => ((intro w hSw); (try dsimp only at hSw); go_simp; (try with_reducible rfl)))) | (refine wpAnyH_take (i := 3) (oi := ?oi4) (v := undef) ?hi4 (by kernel_rfl) (by kernel_rfl) (by kernel_rfl) ?hQ4 (Or.inr ⟨?hw4, rfl⟩) (by assumption) ?rest4; (case hi4 => (simp only [List.getElem?_toArray, List.getElem?_cons_succ, List.getElem?_cons_zero]; rfl)); (case hQ4 => exact fun _ _ _ h => h); (case hw4 => rfl))
  (try simp only [Act.put, List.setIfInBounds_toArray, List.set_cons_zero, List.set_cons_succ])
  first | (refine wpAnyH_take (i := 5) (oi := ?oi5) (v := ?v5) ?hi5 (by kernel_rfl) (by kernel_rfl) (by kernel_rfl) ?hQ5 (Or.inl ⟨?hw5, ?hy5⟩) (by assumption) ?rest5; (case hi5 => (simp only [List.getElem?_toArray, List.getElem?_cons_succ, List.getElem?_cons_zero]; rfl)); (case hQ5 => exact fun _ _ _ h => h); (case hw5 => rfl); (case hy5 => ((intro w hSw); (try dsimp only at hSw); go_simp; (try with_reducible rfl)))) | (refine wpAnyH_take (i := 5) (oi := ?oi6) (v := undef) ?hi6 (by kernel_rfl) (by kernel_rfl) (by kernel_rfl) ?hQ6 (Or.inr ⟨?hw6, rfl⟩) (by assumption) ?rest6; (case hi6 => (simp only [List.getElem?_toArray, List.getElem?_cons_succ, List.getElem?_cons_zero]; rfl)); (case hQ6 => exact fun _ _ _ h => h); (case hw6 => rfl))
  (try simp only [Act.put, List.setIfInBounds_toArray, List.set_cons_zero, List.set_cons_succ])
  refine wpAnyH_ready (rs := [0]) (by kernel_rfl) (by simp) ?_
  refine AllReadyH.cons (o := ?oi7) ?hi7 (fun K hK => ?rest7) AllReadyH.nil
  (case hi7 => (simp only [List.getElem?_toArray, List.getElem?_cons_zero]; rfl))
  obtain ⟨s0, s1⟩ := hHeld
  go_simp
  replace HW := Lib.hid (below_step HW.out (below_new1 _ (.cells #[] 5)))
  refine hK.out _ _ ?_ (fun hHeld => ?_)
  · (try dsimp only); exact ⟨cell_alloc _ s0, cell_alloc _ s1⟩
  clear hK K s0 s1
  (try simp only [Act.put, List.setIfInBounds_toArray, List.set_cons_zero, List.set_cons_succ])
  refine wpAnyH_ready (rs := [2]) (by kernel_rfl) (by simp) ?_
  refine AllReadyH.cons (o := ?oi8) ?hi8 (fun K hK => ?rest8) AllReadyH.nil
  (case hi8 => (simp only [List.getElem?_toArray, List.getElem?_cons_succ, List.getElem?_cons_zero]; rfl))
  obtain ⟨s0, s1⟩ := hHeld
  rw [if_pos (by rfl)]
  refine wp_append_b _ _ rfl w.heap.size _ [] rfl (own_empty _) _ la rfl (hasB_keep HVA.out HW.out) (by simp; omega) HW.out.size ?_
  intro v2 w2 ho2 hb2 hc2
  replace HW := Lib.hid (HW.out.trans hb2)
  have HO2 := Lib.hid ho2
  clear ho2 hb2
  refine hK.out _ _ ?_ (fun hHeld => ?_)
  · (try dsimp only); exact ⟨hc2 _ _ _ (by omega) s0, hc2 _ _ _ (by omega) s1⟩
  clear hK K s0 s1
  (try simp only [Act.put, List.setIfInBounds_toArray, List.set_cons_zero, List.set_cons_succ])
  refine wpAnyH_ready (rs := [4]) (by kernel_rfl) (by simp) ?_
  refine AllReadyH.cons (o := ?oi9) ?hi9 (fun K hK => ?rest9) AllReadyH.nil
  (case hi9 => (simp only [List.getElem?_toArray, List.getElem?_cons_succ, List.getElem?_cons_zero]; rfl))
  obtain ⟨s0, s1⟩ := hHeld
  rw [if_pos (by rfl)]
  refine wp_append_b _ _ rfl w.heap.size _ ([] ++ la) rfl (HO2.out) _ lx rfl (hasB_keep HVX.out HW.out) (by simp; omega) HW.out.size ?_
  intro v3 w3 ho3 hb3 hc3
  replace HW := Lib.hid (HW.out.trans hb3)
  have HO3 := Lib.hid ho3
  clear ho3 hb3
  refine hK.out _ _ ?_ (fun hHeld => ?_)
  · (try dsimp only); exact ⟨hc3 _ _ _ (by omega) s0, hc3 _ _ _ (by omega) s1⟩
  clear hK K s0 s1
  (try simp only [Act.put, List.setIfInBounds_toArray, List.set_cons_zero, List.set_cons_succ])
  refine wpAnyH_ready (rs := [6]) (by kernel_rfl) (by simp) ?_
  refine AllReadyH.cons (o := ?oi10) ?hi10 (fun K hK => ?rest10) AllReadyH.nil
  (case hi10 => (simp only [List.getElem?_toArray, List.getElem?_cons_succ, List.getElem?_cons_zero]; rfl))
  obtain ⟨s0, s1⟩ := hHeld
  rw [if_pos (by rfl)]
  refine wp_append_b _ _ rfl w.heap.size _ ([] ++ la ++ lx) rfl (HO3.out) _ lb rfl (hasB_keep HVB.out HW.out) (by simp; omega) HW.out.size ?_
  intro v4 w4 ho4 hb4 hc4
  replace HW := Lib.hid (HW.out.trans hb4)
  have HO4 := Lib.hid ho4
  clear ho4 hb4
  refine hK.out _ _ ?_ (fun hHeld => ?_)
  · (try dsimp only); exact ⟨hc4 _ _ _ (by omega) s0, hc4 _ _ _ (by omega) s1⟩
  clear hK K s0 s1
  (try simp only [Act.put, List.setIfInBounds_toArray, List.set_cons_zero, List.set_cons_succ])
  first | (refine wpAnyH_take (i := 7) (oi := ?oi11) (v := ?v11) ?hi11 (by kernel_rfl) (by kernel_rfl) (by kernel_rfl) ?hQ11 (Or.inl ⟨?hw11, ?hy11⟩) (by assumption) ?rest11; (case hi11 => (simp only [List.getElem?_toArray, List.getElem?_cons_succ, List.getElem?_cons_zero]; rfl)); (case hQ11 => exact fun _ _ _ h => h); (case hw11 => rfl); (case hy11 => ((intro w hSw); (try dsimp only at hSw); go_simp; (try with_reducible rfl)))) | (refine wpAnyH_take (i := 7) (oi := ?oi12) (v := undef) ?hi12 (by kernel_rfl) (by kernel_rfl) (by kernel_rfl) ?hQ12 (Or.inr ⟨?hw12, rfl⟩) (by assumption) ?rest12; (case hi12 => (simp only [List.getElem?_toArray, List.getElem?_cons_succ, List.getElem?_cons_zero]; rfl)); (case hQ12 => exact fun _ _ _ h => h); (case hw12 => rfl))
  (try simp only [Act.put, List.setIfInBounds_toArray, List.set_cons_zero, List.set_cons_succ])
  refine wpAnyH_done (by kernel_rfl) ?_ _
  obtain ⟨s0, s1⟩ := hHeld
  have hO4 : OwnB w4 w.heap.size v4 (la ++ lx ++ lb) := HO4.out
  go_wp2
  go_ret
  exact ⟨v4, rfl, hO4, HW.out⟩

end Go.Proofs.Ytimjodpndhckdaa
