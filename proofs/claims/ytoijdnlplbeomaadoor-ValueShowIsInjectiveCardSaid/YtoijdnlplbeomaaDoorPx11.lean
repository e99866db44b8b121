/-
  Merged: Tx0, Tx3
-/
import Derived.Test.YtoijdnlplbeomaaDoorPx9
import Derived.Test.YtoijdnlplbeomaaDoorPx10

/-
  Layer 8: the number of a value's parts, as the reference counts them; a load of a value.
-/
namespace Go.Proofs.YtoijdnlplbeomaaDoor
set_option maxRecDepth 100000
set_option linter.unusedVariables false
set_option linter.unusedSimpArgs false
open Go Go.RowKit Go.Deep SX
/-- The count after k parts. -/
def cntK (c : Nat → Int) (M : Int) : Nat → Int
  | 0 => 1
  | k + 1 => if cntK c M k ≤ M then IntKind.i64.wrap (cntK c M k + c k) else cntK c M k
def countW : Nat → World → VH → Int → Int
  | 0, _, _, M => IntKind.i64.wrap (M + 1)
  | d + 1, w, h, M => cntK (fun i => countW d w (h.kid w i) M) M h.len
theorem cntK_stop {c : Nat → Int} {M : Int} {k : Nat} (h : ¬ cntK c M k ≤ M) : ∀ j, cntK c M (k + j) = cntK c M k
  | 0 => rfl
  | j + 1 => by
    have ih := cntK_stop h j
    show (if cntK c M (k + j) ≤ M then _ else cntK c M (k + j)) = _
    rw [ih, if_neg h]
theorem cntK_congr {c e : Nat → Int} {M : Int} : ∀ {n : Nat}, (∀ i, i < n → c i = e i) → cntK c M n = cntK e M n
  | 0, _ => rfl
  | n + 1, h => by
    have ih := cntK_congr (M := M) (n := n) fun i hi => h i (by omega)
    show (if cntK c M n ≤ M then IntKind.i64.wrap (cntK c M n + c n) else cntK c M n) = (if cntK e M n ≤ M then IntKind.i64.wrap (cntK e M n + e n) else cntK e M n)
    rw [ih, h n (by omega)]
theorem countW_below {w w' : World} {M : Int} (hb : Below w.heap.size w w') : ∀ {d : Nat} {h : VH}, VT d w h → countW d w' h M = countW d w h M
  | 0, _, _ => rfl
  | d + 1, h, hv => by
    unfold countW
    refine cntK_congr fun i hi => ?_
    rcases hv.2 with h0 | ⟨b, o, ea, hel⟩
    · omega
    · obtain ⟨g, hg, hgt⟩ := hel i hi
      rw [VH.kid_eq ea hg, VH.kid_eq ea (VH.at_below hb hg)]
      exact countW_below hb hgt
/-- A load of a value in memory. -/
theorem ld_val {w : World} {g : VH} {b o : Nat} (h : g.at w b o) : (loadVar 24 ⟨b, o, none⟩).run Tryd.prog w = .ok g.v w := by
  obtain ⟨h0, h1, h2, h3⟩ := h
  refine run_loadVar_mid w b o 24 [.int .i64 g.k, .int .i64 g.n, .int .i64 g.m, .slice g.a g.len g.cap] _ ?_ Tryd.underlying24 rfl (by kernel_rfl)
  intro j x hj
  match j, hj with
  | 0, hj => simp at hj; subst hj; exact h0
  | 1, hj => simp at hj; subst hj; exact h1
  | 2, hj => simp at hj; subst hj; exact h2
  | 3, hj => simp at hj; subst hj; exact h3
  | j + 4, hj => simp at hj
theorem vt_less : ∀ {d : Nat} {w : World} {h : VH}, VT (d + 1) w h → VT d w h
  | 0, _, _, hv => hv.1
  | d + 1, _, _, hv => ⟨hv.1, hv.2.imp id fun ⟨b, o, e, k⟩ => ⟨b, o, e, fun i hi => by
      obtain ⟨g, h1, h2⟩ := k i hi
      exact ⟨g, h1, vt_less h2⟩⟩⟩
theorem rightW_mono : ∀ {d : Nat} {w : World} {h : VH}, rightW d w h = true → rightW (d + 1) w h = true
  | 0, _, _, h => by cases h
  | d + 1, w, h, hr => by
    unfold rightW at hr ⊢
    rw [Bool.and_eq_true] at hr ⊢
    refine ⟨hr.1, ?_⟩
    have h2 := hr.2
    rw [List.all_eq_true] at h2 ⊢
    exact fun i hi => rightW_mono (h2 i hi)
theorem rightW_flat {d : Nat} {w : World} {h : VH} (h0 : h.len = 0) : rightW (d + 1) w h = ownB h := by
  unfold rightW
  rw [h0]
  simp
end Go.Proofs.YtoijdnlplbeomaaDoor


/-
  Layer 8: the reference counts a value's parts.
-/
namespace Go.Proofs.YtoijdnlplbeomaaDoor
set_option maxRecDepth 100000
set_option linter.unusedVariables false
set_option linter.unusedSimpArgs false
open Go Go.RowKit Go.Deep SX
attribute [local irreducible] post
noncomputable def ctC (h : VH) (L M : Int) : Cfg := runC Tryd.prog ⟨0, []⟩ 50 (condC (opsN Tryd.prog 3 (regC (runC Tryd.prog ⟨0, [1]⟩ 50 (cfg0 Tryd.f26 #[h.v, .int .i64 L, .int .i64 M])))) false)
noncomputable def ctS (h : VH) (L M n : Int) (k : Nat) : SS := ⟨(ctC h L M).s.n, [(1, .v (.int .i64 L)), (2, .v (.int .i64 M)), (3, .p 0 0), (6, .v (.int .i64 0)), (7, .v (.int .i64 n)), (8, .v (.int .i64 (k : Int)))], [⟨24, [.int .i64 h.k, .int .i64 h.n, .int .i64 h.m, .slice h.a h.len h.cap]⟩]⟩
set_option maxHeartbeats 8000000 in
theorem ct_loop (d : Nat) (M : Int) (ih : ∀ (h : VH) (w : World), VT d w h → ∀ L : Int, L = (d : Int) → Calls Tryd.prog 26 #[h.v, .int .i64 L, .int .i64 M] w fun e w' => e = .returned (.int .i64 (countW d w h M)) ∧ Below w.heap.size w w')
    (hd : d ≤ 1000) (w0 : World) (h : VH) (hv : VT (d + 1) w0 h) (L : Int) (hL : L = (d : Int) + 1) : ∀ (r k : Nat), k + r = h.len → ∀ (n : Int), n = cntK (fun i => countW d w0 (h.kid w0 i) M) M k → ∀ (bs : List Nat) (aa : Act) (w : World), Sy w0 none bs (ctS h L M n k) [] aa w →
    post Tryd.prog (.rnd (r + 1) (bodyL (ctC h L M)) :: (ctC h L M).k.tail) (bodyPost Tryd.prog Tryd.f26 (fun e w' => e = .returned (.int .i64 (cntK (fun i => countW d w0 (h.kid w0 i) M) M h.len)) ∧ Below w0.heap.size w0 w')) .normal aa w := by
  have hlen : h.len ≤ 9223372036854775807 := hv.ok.2.2.2.2
  intro r
  induction r with
  | zero =>
    intro k hk n hn bs aa w S
    have hkl : k = h.len := by omega
    refine sy_run (c := ⟨.rnd (0 + 1) (bodyL (ctC h L M)) :: (ctC h L M).k.tail, ctS h L M n k⟩) ⟨0, [5]⟩ 50 S fun bs aa w S => ?_
    refine sy_reg S fun S => ?_
    refine sy_ops 5 S fun bs aa w S => ?_
    refine sy_cast 17 S (congrArg Value.bool (by simp; omega : decide ((k : Int) < (h.len : Int)) = false)) (by kernel_rfl) fun S => ?_
    refine sy_run ⟨0, []⟩ 50 S fun bs aa w S => ?_
    exact sy_ret S (by kernel_rfl) (by kernel_rfl) fun g => ⟨by rw [← hkl, ← hn], below_of_gr g⟩
  | succ r ihr =>
    intro k hk n hn bs aa w S
    have hlt : k < h.len := by omega
    rcases hv.2 with h0 | ⟨b, o, ea, hel⟩
    · omega
    obtain ⟨g, hg, hgt⟩ := hel k hlt
    have eg : h.kid w0 k = g := VH.kid_eq ea hg
    refine sy_run (c := ⟨.rnd (r + 1 + 1) (bodyL (ctC h L M)) :: (ctC h L M).k.tail, ctS h L M n k⟩) ⟨0, [5]⟩ 50 S fun bs aa w S => ?_
    refine sy_reg S fun S => ?_
    refine sy_ops 5 S fun bs aa w S => ?_
    refine sy_cast 17 S (congrArg Value.bool (by simp; omega : decide ((k : Int) < (h.len : Int)) = true)) (by kernel_rfl) fun S => ?_
    refine sy_ops 4 S fun bs aa w S => ?_
    cases hc : decide (n ≤ M) with
    | false =>
      refine sy_cast 21 S (congrArg Value.bool hc) (by kernel_rfl) fun S => ?_
      refine sy_run ⟨0, []⟩ 50 S fun bs aa w S => ?_
      have e := cntK_stop (c := fun i => countW d w0 (h.kid w0 i) M) (M := M) (k := k) (by rw [← hn]; exact of_decide_eq_false hc) (h.len - k)
      rw [show k + (h.len - k) = h.len by omega, ← hn] at e
      exact sy_ret S (by kernel_rfl) (by kernel_rfl) fun g => ⟨by rw [e], below_of_gr g⟩
    | true =>
      refine sy_cast 21 S (congrArg Value.bool hc) (by kernel_rfl) fun S => ?_
      refine sy_run ⟨0, [7]⟩ 50 S fun bs aa w S => ?_
      refine sy_reg S fun S => ?_
      refine sy_ops 4 S fun bs aa w S => ?_
      refine sy_ix (b := b) (off := o) (len := h.len) (n := k) (size := 4) (i := (k : Int)) S (by rw [← ea]; kernel_rfl) rfl hlt fun aa S => ?_
      refine sy_run ⟨0, []⟩ 50 S fun bs aa w S => ?_
      have hb := below_of_gr S.gr
      refine sy_ldo S (ld_val (VH.at_below hb hg)) (by kernel_rfl) fun aa S => ?_
      refine sy_run ⟨0, []⟩ 50 S fun bs aa w S => ?_
      have hb := below_of_gr S.gr
      have hcall := ih g w (hgt.below hb) (IntKind.i64.wrap (L - 1)) (by rw [IntKind.wrap_i64]; omega)
      rw [countW_below hb hgt] at hcall
      refine sy_call1 S hcall (by kernel_rfl) fun aa w hb2 S => ?_
      refine sy_run ⟨0, [6]⟩ 50 S fun bs aa w S => ?_
      refine sy_reg S fun S => ?_
      refine sy_ops 2 S fun bs aa w S => ?_
      refine sy_cast 24 S (congrArg (Value.int .i64) (by rw [IntKind.wrap_i64]; omega : IntKind.i64.wrap ((k : Int) + 1) = ((k + 1 : Nat) : Int))) (by kernel_rfl) fun S => ?_
      refine sy_run ⟨0, [999]⟩ 50 S fun bs aa w S => ?_
      have S' := S.to [0] (ctS h L M (IntKind.i64.wrap (n + countW d w0 g M)) (k + 1)) (by kernel_rfl) (by kernel_rfl) (by kernel_rfl) (by kernel_rfl) (by kernel_rfl)
      refine sy_at (k := .rnd (r + 1) (bodyL (ctC h L M)) :: (ctC h L M).k.tail) (by kernel_rfl) ?_
      refine ihr (k + 1) (by omega) _ ?_ _ aa w S'
      show _ = (if cntK (fun i => countW d w0 (h.kid w0 i) M) M k ≤ M then IntKind.i64.wrap (cntK (fun i => countW d w0 (h.kid w0 i) M) M k + countW d w0 (h.kid w0 k) M) else _)
      rw [← hn, if_pos (of_decide_eq_true hc), eg]
set_option maxHeartbeats 4000000 in
theorem count_is (M : Int) : ∀ (d : Nat), d ≤ 1000 → ∀ (h : VH) (w : World), VT d w h → ∀ L : Int, L = (d : Int) → Calls Tryd.prog 26 #[h.v, .int .i64 L, .int .i64 M] w fun e w' => e = .returned (.int .i64 (countW d w h M)) ∧ Below w.heap.size w w'
  | 0, _, h, w, hv, L, hL => by
    refine sy_enter Tryd.func26 rfl fun aa S => ?_
    refine sy_run ⟨0, [1]⟩ 50 S fun bs aa w1 S => ?_
    refine sy_reg S fun S => ?_
    refine sy_ops 3 S fun bs aa w1 S => ?_
    refine sy_cond true S (by simp; omega : decide (L = 0) = true) (by kernel_rfl) fun S => ?_
    refine sy_run ⟨0, []⟩ 50 S fun bs aa w1 S => ?_
    exact sy_ret S (by kernel_rfl) (by kernel_rfl) fun g => ⟨rfl, below_of_gr g⟩
  | d + 1, hd, h, w, hv, L, hL => by
    refine sy_enter Tryd.func26 rfl fun aa S => ?_
    refine sy_run ⟨0, [1]⟩ 50 S fun bs aa w1 S => ?_
    refine sy_reg S fun S => ?_
    refine sy_ops 3 S fun bs aa w1 S => ?_
    refine sy_cond false S (by simp; omega : decide (L = 0) = false) (by kernel_rfl) fun S => ?_
    refine sy_run ⟨0, []⟩ 50 S fun bs aa w1 S => ?_
    have S' := S.to [0] (ctS h L M 1 0) (by kernel_rfl) (by kernel_rfl) (by kernel_rfl) (by kernel_rfl) (by kernel_rfl)
    refine sy_loop (h.len + 1) (by kernel_rfl) ?_
    exact ct_loop d M (count_is M d (by omega)) (by omega) w h hv L (by omega) h.len 0 (by omega) 1 rfl _ aa w1 S'
set_option maxHeartbeats 4000000 in
theorem shallow_is (h : VH) (w : World) (hv : VT 39 w h) : Calls Tryd.prog 24 #[h.v] w fun e w' => e = .returned (.bool (decide (countW 39 w h 60 ≤ 60))) ∧ Below w.heap.size w w' := by
  refine sy_enter Tryd.func24 rfl fun aa S => ?_
  refine sy_run ⟨0, []⟩ 50 S fun bs aa w1 S => ?_
  have hb := below_of_gr S.gr
  have hc := count_is 60 39 (by omega) h w1 (hv.below hb) 39 (by omega)
  rw [countW_below hb hv] at hc
  refine sy_call1 S hc (by kernel_rfl) fun aa w1 hb S => ?_
  refine sy_run ⟨0, []⟩ 50 S fun bs aa w1 S => ?_
  exact sy_ret S (by kernel_rfl) (by kernel_rfl) fun g => ⟨rfl, below_of_gr g⟩
end Go.Proofs.YtoijdnlplbeomaaDoor
