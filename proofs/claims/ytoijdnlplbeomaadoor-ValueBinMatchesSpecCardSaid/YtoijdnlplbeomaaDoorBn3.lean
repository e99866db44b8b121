
/-
  Layer 8: binary operators: program and reference give the same.
-/
import Derived.Test.YtoijdnlplbeomaaDoorBn2
namespace Go.Proofs.YtoijdnlplbeomaaDoor
open Go Go.RowKit EX
set_option maxRecDepth 100000
set_option linter.unusedVariables false
set_option linter.unusedSimpArgs false
/-- Both give this. -/
def BinBoth (op : Int) (h g : VH) : Prop := ∃ k n e : Int, (∀ w, Calls Tryd.prog 21 #[.int .i64 op, h.v, g.v] w fun e' w' => e' = .returned (bRes k n e) ∧ Below w.heap.size w w') ∧
  (∀ w, VT 40 w h → VT 40 w g → Calls Tryd.prog 22 #[.int .i64 op, h.v, g.v] w fun e' w' => e' = .returned (bRes k n e) ∧ Below w.heap.size w w')
theorem rb_bad (w : World) (h g : VH) (op : Int) (hv : VT 40 w h) (gv : VT 40 w g) (h1 : ¬(h.k = 1 ∧ g.k = 1 ∧ 1 ≤ op ∧ op ≤ 5)) (h2 : ¬(h.k = 2 ∧ g.k = 2 ∧ 6 ≤ op ∧ op ≤ 7)) : Calls Tryd.prog 22 #[.int .i64 op, h.v, g.v] w fun e' w' => e' = .returned (bRes 0 0 1) ∧ Below w.heap.size w w' := by
  cases hk : (h.k == g.k) with
  | false => exact rb_ne w h g op hv gv hk
  | true =>
    have e : h.k = g.k := by simpa using hk
    by_cases e1 : h.k = 1
    · rw [VH.w_v e1, VH.w_v (h := g) (k := 1) (by omega)]
      exact rb_1 w h g op hv gv e1 (by omega) (by simp; omega) (by simp; omega) (by simp; omega) (by simp; omega) (by simp; omega)
    · by_cases e2 : h.k = 2
      · rw [VH.w_v e2, VH.w_v (h := g) (k := 2) (by omega)]
        exact rb_2 w h g op hv gv e2 (by omega) (by simp; omega) (by simp; omega)
      · exact rb_k w h g op hv gv hk (by simpa using e1) (by simpa using e2)
theorem both_1 (h g : VH) : BinBoth 1 h g := by
  by_cases e1 : h.k = 1
  · by_cases e2 : g.k = 1
    · obtain ⟨b, pb, rb, hb⟩ := right1 h.n h.m h.a h.len h.cap
      obtain ⟨c, pc, rc, hc⟩ := right1 g.n g.m g.a g.len g.cap
      unfold BinBoth
      simp only [VH.w_v e1, VH.w_v e2]
      cases b with
      | false =>
        cases c with
        | false => exact ⟨0, 0, 1, fun w => vb1_c rnd tmQ false w h g (knP_ok pb pc), fun w _ _ => rb1_c rnd tmQ w h g (knR_ok rb rc)⟩
        | true => exact ⟨0, 0, 1, fun w => vb1_c rnd tmQ true w h g (knP_ok pb pc), fun w _ _ => rb1_e rnd tmQ w h g (knR_ok rb rc)⟩
      | true =>
      cases c with
      | false => exact ⟨0, 0, 1, fun w => vb1_d rnd tmQ w h g (knP_ok pb pc), fun w _ _ => rb1_d rnd tmQ w h g (knR_ok rb rc)⟩
      | true =>
        exact ⟨1, rnd (IntKind.i64.wrap (h.n + g.n)), 0, fun w => vb1_y rnd tmQ w h g (knP_ok pb pc), fun w _ _ => rb1_y rnd tmQ w h g (knR_ok rb rc)⟩
    · refine ⟨0, 0, 1, fun w => ?_, fun w hv gv => rb_bad w h g 1 hv gv (by omega) (by omega)⟩
      rw [VH.w_v e1]
      exact vb1_b w h g (by simpa using e2)
  · exact ⟨0, 0, 1, fun w => vb1_a w h g (by simpa using e1), fun w hv gv => rb_bad w h g 1 hv gv (by omega) (by omega)⟩
theorem both_2 (h g : VH) : BinBoth 2 h g := by
  by_cases e1 : h.k = 1
  · by_cases e2 : g.k = 1
    · obtain ⟨b, pb, rb, hb⟩ := right1 h.n h.m h.a h.len h.cap
      obtain ⟨c, pc, rc, hc⟩ := right1 g.n g.m g.a g.len g.cap
      unfold BinBoth
      simp only [VH.w_v e1, VH.w_v e2]
      cases b with
      | false =>
        cases c with
        | false => exact ⟨0, 0, 1, fun w => vb2_c rnd tmQ false w h g (knP_ok pb pc), fun w _ _ => rb2_c rnd tmQ w h g (knR_ok rb rc)⟩
        | true => exact ⟨0, 0, 1, fun w => vb2_c rnd tmQ true w h g (knP_ok pb pc), fun w _ _ => rb2_e rnd tmQ w h g (knR_ok rb rc)⟩
      | true =>
      cases c with
      | false => exact ⟨0, 0, 1, fun w => vb2_d rnd tmQ w h g (knP_ok pb pc), fun w _ _ => rb2_d rnd tmQ w h g (knR_ok rb rc)⟩
      | true =>
        exact ⟨1, rnd (IntKind.i64.wrap (h.n - g.n)), 0, fun w => vb2_y rnd tmQ w h g (knP_ok pb pc), fun w _ _ => rb2_y rnd tmQ w h g (knR_ok rb rc)⟩
    · refine ⟨0, 0, 1, fun w => ?_, fun w hv gv => rb_bad w h g 2 hv gv (by omega) (by omega)⟩
      rw [VH.w_v e1]
      exact vb2_b w h g (by simpa using e2)
  · exact ⟨0, 0, 1, fun w => vb2_a w h g (by simpa using e1), fun w hv gv => rb_bad w h g 2 hv gv (by omega) (by omega)⟩
theorem both_3 (h g : VH) : BinBoth 3 h g := by
  by_cases e1 : h.k = 1
  · by_cases e2 : g.k = 1
    · obtain ⟨b, pb, rb, hb⟩ := right1 h.n h.m h.a h.len h.cap
      obtain ⟨c, pc, rc, hc⟩ := right1 g.n g.m g.a g.len g.cap
      unfold BinBoth
      simp only [VH.w_v e1, VH.w_v e2]
      cases b with
      | false =>
        cases c with
        | false => exact ⟨0, 0, 1, fun w => vb3_c rnd tmQ false w h g (knP_ok pb pc), fun w _ _ => rb3_c rnd tmQ w h g (knR_ok rb rc)⟩
        | true => exact ⟨0, 0, 1, fun w => vb3_c rnd tmQ true w h g (knP_ok pb pc), fun w _ _ => rb3_e rnd tmQ w h g (knR_ok rb rc)⟩
      | true =>
      cases c with
      | false => exact ⟨0, 0, 1, fun w => vb3_d rnd tmQ w h g (knP_ok pb pc), fun w _ _ => rb3_d rnd tmQ w h g (knR_ok rb rc)⟩
      | true =>
        exact ⟨1, rnd (tmQ h.n g.n), 0, fun w => vb3_y rnd tmQ w h g (knP_ok pb pc) (hb rfl) (hc rfl), fun w _ _ => rb3_y rnd tmQ w h g (knR_ok rb rc) (hb rfl) (hc rfl)⟩
    · refine ⟨0, 0, 1, fun w => ?_, fun w hv gv => rb_bad w h g 3 hv gv (by omega) (by omega)⟩
      rw [VH.w_v e1]
      exact vb3_b w h g (by simpa using e2)
  · exact ⟨0, 0, 1, fun w => vb3_a w h g (by simpa using e1), fun w hv gv => rb_bad w h g 3 hv gv (by omega) (by omega)⟩
theorem both_4 (h g : VH) : BinBoth 4 h g := by
  by_cases e1 : h.k = 1
  · by_cases e2 : g.k = 1
    · obtain ⟨b, pb, rb, hb⟩ := right1 h.n h.m h.a h.len h.cap
      obtain ⟨c, pc, rc, hc⟩ := right1 g.n g.m g.a g.len g.cap
      unfold BinBoth
      simp only [VH.w_v e1, VH.w_v e2]
      cases b with
      | false =>
        cases c with
        | false => exact ⟨0, 0, 1, fun w => vb4_c rnd tmQ false w h g (knP_ok pb pc), fun w _ _ => rb4_c rnd tmQ w h g (knR_ok rb rc)⟩
        | true => exact ⟨0, 0, 1, fun w => vb4_c rnd tmQ true w h g (knP_ok pb pc), fun w _ _ => rb4_e rnd tmQ w h g (knR_ok rb rc)⟩
      | true =>
      cases c with
      | false => exact ⟨0, 0, 1, fun w => vb4_d rnd tmQ w h g (knP_ok pb pc), fun w _ _ => rb4_d rnd tmQ w h g (knR_ok rb rc)⟩
      | true =>
        cases hd : (decide (h.n < g.n)) with
        | false => exact ⟨2, 0, 0, fun w => vb4_y0 rnd tmQ w h g (knP_ok pb pc) hd, fun w _ _ => rb4_y0 rnd tmQ w h g (knR_ok rb rc) hd⟩
        | true => exact ⟨2, 1, 0, fun w => vb4_y1 rnd tmQ w h g (knP_ok pb pc) hd, fun w _ _ => rb4_y1 rnd tmQ w h g (knR_ok rb rc) hd⟩
    · refine ⟨0, 0, 1, fun w => ?_, fun w hv gv => rb_bad w h g 4 hv gv (by omega) (by omega)⟩
      rw [VH.w_v e1]
      exact vb4_b w h g (by simpa using e2)
  · exact ⟨0, 0, 1, fun w => vb4_a w h g (by simpa using e1), fun w hv gv => rb_bad w h g 4 hv gv (by omega) (by omega)⟩
theorem both_5 (h g : VH) : BinBoth 5 h g := by
  by_cases e1 : h.k = 1
  · by_cases e2 : g.k = 1
    · obtain ⟨b, pb, rb, hb⟩ := right1 h.n h.m h.a h.len h.cap
      obtain ⟨c, pc, rc, hc⟩ := right1 g.n g.m g.a g.len g.cap
      unfold BinBoth
      simp only [VH.w_v e1, VH.w_v e2]
      cases b with
      | false =>
        cases c with
        | false => exact ⟨0, 0, 1, fun w => vb5_c rnd tmQ false w h g (knP_ok pb pc), fun w _ _ => rb5_c rnd tmQ w h g (knR_ok rb rc)⟩
        | true => exact ⟨0, 0, 1, fun w => vb5_c rnd tmQ true w h g (knP_ok pb pc), fun w _ _ => rb5_e rnd tmQ w h g (knR_ok rb rc)⟩
      | true =>
      cases c with
      | false => exact ⟨0, 0, 1, fun w => vb5_d rnd tmQ w h g (knP_ok pb pc), fun w _ _ => rb5_d rnd tmQ w h g (knR_ok rb rc)⟩
      | true =>
        cases hd : (h.n == g.n) with
        | false => exact ⟨2, 0, 0, fun w => vb5_y0 rnd tmQ w h g (knP_ok pb pc) hd, fun w _ _ => rb5_y0 rnd tmQ w h g (knR_ok rb rc) hd⟩
        | true => exact ⟨2, 1, 0, fun w => vb5_y1 rnd tmQ w h g (knP_ok pb pc) hd, fun w _ _ => rb5_y1 rnd tmQ w h g (knR_ok rb rc) hd⟩
    · refine ⟨0, 0, 1, fun w => ?_, fun w hv gv => rb_bad w h g 5 hv gv (by omega) (by omega)⟩
      rw [VH.w_v e1]
      exact vb5_b w h g (by simpa using e2)
  · exact ⟨0, 0, 1, fun w => vb5_a w h g (by simpa using e1), fun w hv gv => rb_bad w h g 5 hv gv (by omega) (by omega)⟩
theorem both_6 (h g : VH) : BinBoth 6 h g := by
  by_cases e1 : h.k = 2
  · by_cases e2 : g.k = 2
    · obtain ⟨b, pb, rb, hb⟩ := right2 h.n h.m h.a h.len h.cap
      obtain ⟨c, pc, rc, hc⟩ := right2 g.n g.m g.a g.len g.cap
      unfold BinBoth
      simp only [VH.w_v e1, VH.w_v e2]
      cases b with
      | false =>
        cases c with
        | false => exact ⟨0, 0, 1, fun w => vb6_c rnd tmQ false w h g (knP_ok pb pc), fun w _ _ => rb6_c rnd tmQ w h g (knR_ok rb rc)⟩
        | true => exact ⟨0, 0, 1, fun w => vb6_c rnd tmQ true w h g (knP_ok pb pc), fun w _ _ => rb6_e rnd tmQ w h g (knR_ok rb rc)⟩
      | true =>
      cases c with
      | false => exact ⟨0, 0, 1, fun w => vb6_d rnd tmQ w h g (knP_ok pb pc), fun w _ _ => rb6_d rnd tmQ w h g (knR_ok rb rc)⟩
      | true =>
        cases h0 : (h.n == 1) with
        | false => exact ⟨2, 0, 0, fun w => vb6_ys rnd tmQ w h g (knP_ok pb pc) h0, fun w _ _ => rb6_ys rnd tmQ w h g (knR_ok rb rc) h0⟩
        | true =>
          cases h1 : (g.n == 1) with
          | false => exact ⟨2, 0, 0, fun w => vb6_yf rnd tmQ w h g (knP_ok pb pc) h0 h1, fun w _ _ => rb6_yf rnd tmQ w h g (knR_ok rb rc) h0 h1⟩
          | true => exact ⟨2, 1, 0, fun w => vb6_yt rnd tmQ w h g (knP_ok pb pc) h0 h1, fun w _ _ => rb6_yt rnd tmQ w h g (knR_ok rb rc) h0 h1⟩
    · refine ⟨0, 0, 1, fun w => ?_, fun w hv gv => rb_bad w h g 6 hv gv (by omega) (by omega)⟩
      rw [VH.w_v e1]
      exact vb6_b w h g (by simpa using e2)
  · exact ⟨0, 0, 1, fun w => vb6_a w h g (by simpa using e1), fun w hv gv => rb_bad w h g 6 hv gv (by omega) (by omega)⟩
theorem both_7 (h g : VH) : BinBoth 7 h g := by
  by_cases e1 : h.k = 2
  · by_cases e2 : g.k = 2
    · obtain ⟨b, pb, rb, hb⟩ := right2 h.n h.m h.a h.len h.cap
      obtain ⟨c, pc, rc, hc⟩ := right2 g.n g.m g.a g.len g.cap
      unfold BinBoth
      simp only [VH.w_v e1, VH.w_v e2]
      cases b with
      | false =>
        cases c with
        | false => exact ⟨0, 0, 1, fun w => vb7_c rnd tmQ false w h g (knP_ok pb pc), fun w _ _ => rb7_c rnd tmQ w h g (knR_ok rb rc)⟩
        | true => exact ⟨0, 0, 1, fun w => vb7_c rnd tmQ true w h g (knP_ok pb pc), fun w _ _ => rb7_e rnd tmQ w h g (knR_ok rb rc)⟩
      | true =>
      cases c with
      | false => exact ⟨0, 0, 1, fun w => vb7_d rnd tmQ w h g (knP_ok pb pc), fun w _ _ => rb7_d rnd tmQ w h g (knR_ok rb rc)⟩
      | true =>
        cases h0 : (h.n == 1) with
        | true => exact ⟨2, 1, 0, fun w => vb7_ys rnd tmQ w h g (knP_ok pb pc) h0, fun w _ _ => rb7_ys rnd tmQ w h g (knR_ok rb rc) h0⟩
        | false =>
          cases h1 : (g.n == 1) with
          | false => exact ⟨2, 0, 0, fun w => vb7_yf rnd tmQ w h g (knP_ok pb pc) h0 h1, fun w _ _ => rb7_yf rnd tmQ w h g (knR_ok rb rc) h0 h1⟩
          | true => exact ⟨2, 1, 0, fun w => vb7_yt rnd tmQ w h g (knP_ok pb pc) h0 h1, fun w _ _ => rb7_yt rnd tmQ w h g (knR_ok rb rc) h0 h1⟩
    · refine ⟨0, 0, 1, fun w => ?_, fun w hv gv => rb_bad w h g 7 hv gv (by omega) (by omega)⟩
      rw [VH.w_v e1]
      exact vb7_b w h g (by simpa using e2)
  · exact ⟨0, 0, 1, fun w => vb7_a w h g (by simpa using e1), fun w hv gv => rb_bad w h g 7 hv gv (by omega) (by omega)⟩
theorem both_any (op : Int) (h g : VH) : BinBoth op h g := by
  by_cases h1 : op < 1
  · exact ⟨0, 0, 1, fun w => vb_lo w h g op (by simpa using h1), fun w hv gv => rb_bad w h g op hv gv (by omega) (by omega)⟩
  · by_cases h2 : op > 7
    · exact ⟨0, 0, 1, fun w => vb_hi w h g op (by simpa using h1) (by simpa using h2), fun w hv gv => rb_bad w h g op hv gv (by omega) (by omega)⟩
    · have : op = 1 ∨ op = 2 ∨ op = 3 ∨ op = 4 ∨ op = 5 ∨ op = 6 ∨ op = 7 := by omega
      rcases this with rfl | rfl | rfl | rfl | rfl | rfl | rfl
      · exact both_1 h g
      · exact both_2 h g
      · exact both_3 h g
      · exact both_4 h g
      · exact both_5 h g
      · exact both_6 h g
      · exact both_7 h g
end Go.Proofs.YtoijdnlplbeomaaDoor
