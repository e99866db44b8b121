/-
  Merged: Tx1, Vs0
-/
import Derived.Test.YtoijdnlplbeomaaDoorPx11
import Derived.Test.YtoijdnlplbeomaaDoorPx12

/-
  Layer 8: check of a value at a depth: it ends where the value is right, else it leaves by the fault.
-/
namespace Go.Proofs.YtoijdnlplbeomaaDoor
set_option maxRecDepth 100000
set_option linter.unusedVariables false
set_option linter.unusedSimpArgs false
open Go Go.RowKit Go.Deep SX
attribute [local irreducible] post
def ckPost (b : Bool) (e : Ending) : Prop := match b with
  | true => e = .returned (.tuple #[])
  | false => e = ckE
def okFrom (f : Nat → Bool) : Nat → Nat → Bool
  | 0, _ => true
  | r + 1, k => f k && okFrom f r (k + 1)
theorem okFrom_iff (f : Nat → Bool) : ∀ (r k : Nat), okFrom f r k = true ↔ ∀ j, k ≤ j → j < k + r → f j = true
  | 0, k => ⟨fun _ j h1 h2 => by omega, fun _ => rfl⟩
  | r + 1, k => by
    unfold okFrom
    rw [Bool.and_eq_true, okFrom_iff f r (k + 1)]
    constructor
    · rintro ⟨h1, h2⟩ j h3 h4
      by_cases e : j = k
      · rw [e]; exact h1
      · exact h2 j (by omega) (by omega)
    · intro h
      exact ⟨h k (Nat.le_refl _) (by omega), fun j h1 h2 => h j (by omega) (by omega)⟩
theorem okFrom_all (f : Nat → Bool) (n : Nat) : (List.range n).all f = okFrom f n 0 := by
  apply Bool.eq_iff_iff.2
  rw [okFrom_iff, List.all_eq_true]
  simp only [List.mem_range, Nat.zero_add, Nat.zero_le, true_implies]

noncomputable def ckA (h : VH) (D : Int) : Cfg := runC Tryd.prog ⟨0, []⟩ 50 (castC (opsN Tryd.prog 2 (regC (runC Tryd.prog ⟨0, [1]⟩ 50 (cfg0 Tryd.f28 #[h.v, .int .i64 D])))) 7 (.bool false))
noncomputable def ckC (h : VH) (D : Int) : Cfg := runC Tryd.prog ⟨0, []⟩ 50 (aftC (ckA h D) (.v (.bool true)))
noncomputable def ckS (h : VH) (D : Int) (k : Nat) : SS := ⟨(ckC h D).s.n, [(1, .v (.int .i64 D)), (2, .p 0 0), (15, .v (.slice h.a h.len h.cap)), (16, .v (.int .i64 (h.len : Int))), (17, .v (.int .i64 (k : Int)))], [⟨24, [.int .i64 h.k, .int .i64 h.n, .int .i64 h.m, .slice h.a h.len h.cap]⟩]⟩
set_option maxHeartbeats 8000000 in
theorem ck_loop (d : Nat) (ih : ∀ (h : VH) (w : World), VT d w h → ∀ D : Int, D = 41 - (d : Int) → Calls Tryd.prog 28 #[h.v, .int .i64 D] w fun e w' => ckPost (rightW d w h) e ∧ Below w.heap.size w w')
    (hd : d ≤ 1000) (w0 : World) (h : VH) (hv : VT (d + 1) w0 h) (D : Int) (hD : D = 40 - (d : Int)) : ∀ (r k : Nat), k + r = h.len → ∀ (bs : List Nat) (aa : Act) (w : World), Sy w0 none bs (ckS h D k) [] aa w →
    post Tryd.prog (.rnd (r + 1) (bodyL (ckC h D)) :: (ckC h D).k.tail) (bodyPost Tryd.prog Tryd.f28 (fun e w' => ckPost (okFrom (fun i => rightW d w0 (h.kid w0 i)) r k) e ∧ Below w0.heap.size w0 w')) .normal aa w := by
  have hlen : h.len ≤ 9223372036854775807 := hv.ok.2.2.2.2
  intro r
  induction r with
  | zero =>
    intro k hk bs aa w S
    refine sy_run (c := ⟨.rnd (0 + 1) (bodyL (ckC h D)) :: (ckC h D).k.tail, ckS h D k⟩) ⟨0, [4]⟩ 50 S fun bs aa w S => ?_
    refine sy_reg S fun S => ?_
    refine sy_ops 2 S fun bs aa w S => ?_
    refine sy_run ⟨0, []⟩ 1 S fun bs aa w S => ?_
    refine sy_cond false S (by simp; omega : decide ((k : Int) < (h.len : Int)) = false) (by kernel_rfl) fun S => ?_
    refine sy_run ⟨0, []⟩ 50 S fun bs aa w S => ?_
    exact sy_ret S (by kernel_rfl) (by kernel_rfl) fun g => ⟨rfl, below_of_gr g⟩
  | succ r ihr =>
    intro k hk bs aa w S
    have hlt : k < h.len := by omega
    have hb := below_of_gr S.gr
    rcases hv.2 with h0 | ⟨b, o, ea, hel⟩
    · omega
    obtain ⟨g, hg, hgt⟩ := hel k hlt
    have eg : h.kid w0 k = g := VH.kid_eq ea hg
    refine sy_run (c := ⟨.rnd (r + 1 + 1) (bodyL (ckC h D)) :: (ckC h D).k.tail, ckS h D k⟩) ⟨0, [4]⟩ 50 S fun bs aa w S => ?_
    refine sy_reg S fun S => ?_
    refine sy_ops 2 S fun bs aa w S => ?_
    refine sy_run ⟨0, []⟩ 1 S fun bs aa w S => ?_
    refine sy_cond true S (by simp; omega : decide ((k : Int) < (h.len : Int)) = true) (by kernel_rfl) fun S => ?_
    refine sy_run ⟨0, [5]⟩ 50 S fun bs aa w S => ?_
    refine sy_reg S fun S => ?_
    refine sy_ix (b := b) (off := o) (len := h.len) (n := k) (size := 4) (i := (k : Int)) S (by rw [← ea]; kernel_rfl) rfl hlt fun aa S => ?_
    refine sy_run ⟨0, []⟩ 50 S fun bs aa w S => ?_
    have hb := below_of_gr S.gr
    refine sy_ldo S (ld_val (VH.at_below hb hg)) (by kernel_rfl) fun aa S => ?_
    refine sy_run ⟨0, []⟩ 50 S fun bs aa w S => ?_
    have hb := below_of_gr S.gr
    have hc := ih g w (hgt.below hb) (IntKind.i64.wrap (D + 1)) (by rw [IntKind.wrap_i64]; omega)
    rw [rightW_below hb hgt] at hc
    cases hr : rightW d w0 g with
    | false =>
      rw [hr] at hc
      refine sy_panic S (hc.mono fun e w' h => ⟨h.1, ⟨h.2.os, h.2.tape, h.2.output, h.2.size, fun k hk _ => h.2.block k hk⟩⟩) (by kernel_rfl) fun w' hg => ?_
      unfold okFrom
      rw [eg, hr]
      exact ⟨rfl, below_of_gr hg⟩
    | true =>
      rw [hr] at hc
      have e : okFrom (fun i => rightW d w0 (h.kid w0 i)) (r + 1) k = okFrom (fun i => rightW d w0 (h.kid w0 i)) r (k + 1) := by
        show (rightW d w0 (h.kid w0 k) && okFrom (fun i => rightW d w0 (h.kid w0 i)) r (k + 1)) = _
        rw [eg, hr, Bool.true_and]
      rw [e]
      refine sy_call1 S hc (by kernel_rfl) fun aa w hb2 S => ?_
      refine sy_run ⟨0, [7]⟩ 50 S fun bs aa w S => ?_
      refine sy_reg S fun S => ?_
      refine sy_ops 1 S fun bs aa w S => ?_
      refine sy_cast 25 S (congrArg (Value.int .i64) (by rw [IntKind.wrap_i64]; omega : IntKind.i64.wrap ((k : Int) + 1) = ((k + 1 : Nat) : Int))) (by kernel_rfl) fun S => ?_
      refine sy_run ⟨0, [999]⟩ 50 S fun bs aa w S => ?_
      have S' := S.to [0] (ckS h D (k + 1)) (by kernel_rfl) (by kernel_rfl) (by kernel_rfl) (by kernel_rfl) (by kernel_rfl)
      refine sy_at (k := .rnd (r + 1) (bodyL (ckC h D)) :: (ckC h D).k.tail) (by kernel_rfl) ?_
      exact ihr (k + 1) (by omega) _ aa w S'
set_option maxHeartbeats 4000000 in
theorem check_is : ∀ (d : Nat), d ≤ 1000 → ∀ (h : VH) (w : World), VT d w h → ∀ D : Int, D = 41 - (d : Int) → Calls Tryd.prog 28 #[h.v, .int .i64 D] w fun e w' => ckPost (rightW d w h) e ∧ Below w.heap.size w w'
  | 0, _, h, w, hv, D, hD => check_0 h w D (by simp; omega)
  | d + 1, hd, h, w, hv, D, hD => by
    have hD40 : decide (D > 40) = false := by simp; omega
    cases ho : ownB h with
    | false => rw [rightW_own ho]; exact check_own h w hv.ok D hD40 ho
    | true =>
      have H0 := fun w => head_is h hv.ok w
      rw [ho] at H0
      have e : rightW (d + 1) w h = okFrom (fun i => rightW d w (h.kid w i)) h.len 0 := by
        show (ownB h && (List.range h.len).all fun i => rightW d w (h.kid w i)) = _
        rw [ho, Bool.true_and, okFrom_all]
      rw [e]
      refine sy_enter Tryd.func28 rfl fun aa S => ?_
      refine sy_run ⟨0, [1]⟩ 50 S fun bs aa w1 S => ?_
      refine sy_reg S fun S => ?_
      refine sy_ops 2 S fun bs aa w1 S => ?_
      refine sy_cast 7 S (congrArg Value.bool hD40) (by kernel_rfl) fun S => ?_
      refine sy_run ⟨0, []⟩ 50 S fun bs aa w1 S => ?_
      refine sy_call1 S (H0 w1) (by kernel_rfl) fun aa w1 hb S => ?_
      refine sy_run ⟨0, []⟩ 50 S fun bs aa w1 S => ?_
      have S' := S.to [0] (ckS h D 0) (by kernel_rfl) (by kernel_rfl) (by kernel_rfl) (by kernel_rfl) (by kernel_rfl)
      refine sy_loop (h.len + 1) (by kernel_rfl) ?_
      exact ck_loop d (check_is d (by omega)) (by omega) w h hv D (by omega) h.len 0 (by omega) _ aa w1 S'
end Go.Proofs.YtoijdnlplbeomaaDoor


/-
  Layer 8: how deep a value is, by the reference's count; equality of values in memory as a function of the world.
-/
namespace Go.Proofs.YtoijdnlplbeomaaDoor
set_option maxRecDepth 100000
set_option linter.unusedVariables false
set_option linter.unusedSimpArgs false
open Go Go.RowKit Go.Deep
def deepB : Nat → World → VH → Bool
  | 0, _, _ => false
  | d + 1, w, h => okFrom (fun i => deepB d w (h.kid w i)) h.len 0
theorem deepB_kid {d : Nat} {w : World} {h : VH} (hd : deepB (d + 1) w h = true) {i : Nat} (hi : i < h.len) : deepB d w (h.kid w i) = true :=
  (okFrom_iff _ _ _).1 hd i (Nat.zero_le _) (by omega)
theorem deepB_mono : ∀ {d : Nat} {w : World} {h : VH}, deepB d w h = true → deepB (d + 1) w h = true
  | 0, _, _, h => by cases h
  | d + 1, w, h, hd => (okFrom_iff _ _ _).2 fun j _ h2 => deepB_mono (deepB_kid hd (by omega))
theorem deepB_add {d : Nat} {w : World} {h : VH} (hd : deepB d w h = true) : ∀ j, deepB (d + j) w h = true
  | 0 => hd
  | j + 1 => deepB_mono (deepB_add hd j)
theorem kid_below {w w' : World} (hb : Below w.heap.size w w') {d : Nat} {h : VH} (hv : VT (d + 1) w h) {i : Nat} (hi : i < h.len) : h.kid w' i = h.kid w i ∧ VT d w (h.kid w i) := by
  rcases hv.2 with h0 | ⟨b, o, ea, hel⟩
  · omega
  · obtain ⟨g, hg, hgt⟩ := hel i hi
    rw [VH.kid_eq ea hg, VH.kid_eq ea (VH.at_below hb hg)]
    exact ⟨rfl, hgt⟩
theorem okFrom_congr {f g : Nat → Bool} : ∀ {r k : Nat}, (∀ j, k ≤ j → j < k + r → f j = g j) → okFrom f r k = okFrom g r k
  | 0, k, _ => rfl
  | r + 1, k, h => by
    unfold okFrom
    rw [h k (Nat.le_refl _) (by omega), okFrom_congr (r := r) (k := k + 1) fun j h1 h2 => h j (by omega) (by omega)]
theorem deepB_below {w w' : World} (hb : Below w.heap.size w w') : ∀ {d : Nat} {h : VH}, VT d w h → deepB d w' h = deepB d w h
  | 0, _, _ => rfl
  | d + 1, h, hv => by
    unfold deepB
    refine okFrom_congr fun i _ hi => ?_
    obtain ⟨e, hk⟩ := kid_below hb hv (i := i) (by omega)
    rw [e]
    exact deepB_below hb hk
theorem count_lo : ∀ {d : Nat}, d ≤ 1000 → ∀ {w : World} {h : VH}, 1 ≤ countW d w h 60 ∧ countW d w h 60 ≤ 61 + 60 * (d : Int)
  | 0, _, w, h => by
    have e : countW 0 w h 60 = 61 := by simp [countW, IntKind.wrap, IntKind.bits, IntKind.signed]
    rw [e]; omega
  | d + 1, hd, w, h => by
    have ih : ∀ i, 1 ≤ (fun i => countW d w (h.kid w i) 60) i ∧ (fun i => countW d w (h.kid w i) 60) i ≤ 61 + 60 * (d : Int) := fun i => count_lo (by omega)
    unfold countW
    generalize (fun i => countW d w (h.kid w i) 60) = c at ih ⊢
    have key : ∀ k, 1 ≤ cntK c 60 k ∧ cntK c 60 k ≤ 61 + 60 * ((d : Int) + 1) := by
      intro k
      induction k with
      | zero => simp only [cntK]; omega
      | succ k ihk =>
        simp only [cntK]
        split
        · have := ih k
          rw [IntKind.wrap_i64]
          omega
        · exact ihk
    have := key h.len
    push_cast
    omega
theorem cnt_all {c : Nat → Int} (hc : ∀ i, 1 ≤ c i ∧ c i ≤ 1000000) : ∀ n, cntK c 60 n ≤ 60 → 1 ≤ cntK c 60 n ∧ ∀ i, i < n → c i ≤ 60
  | 0, _ => ⟨by simp [cntK], fun i hi => by omega⟩
  | n + 1, h => by
    simp only [cntK] at h ⊢
    by_cases hs : cntK c 60 n ≤ 60
    · obtain ⟨h1, h2⟩ := cnt_all hc n hs
      rw [if_pos hs] at h ⊢
      have hn := hc n
      have e : IntKind.i64.wrap (cntK c 60 n + c n) = cntK c 60 n + c n := by rw [IntKind.wrap_i64]; omega
      rw [e] at h ⊢
      refine ⟨by omega, fun i hi => ?_⟩
      by_cases hi' : i = n
      · subst hi'; omega
      · exact h2 i (by omega)
    · rw [if_neg hs] at h; exact absurd h hs
theorem deep_of_count : ∀ {d : Nat}, d ≤ 1000 → ∀ {w : World} {h : VH}, countW d w h 60 ≤ 60 → deepB d w h = true
  | 0, _, w, h, hc => by
    have e : countW 0 w h 60 = 61 := by simp [countW, IntKind.wrap, IntKind.bits, IntKind.signed]
    rw [e] at hc; omega
  | d + 1, hd, w, h, hc => by
    unfold countW at hc
    have key := (cnt_all (c := fun i => countW d w (h.kid w i) 60) (fun i => by
      have := count_lo (d := d) (by omega) (w := w) (h := h.kid w i)
      show 1 ≤ countW d w (h.kid w i) 60 ∧ countW d w (h.kid w i) 60 ≤ 1000000
      omega) h.len hc).2
    exact (okFrom_iff _ _ _).2 fun j _ h2 => deep_of_count (by omega) (key j (by omega))
def headEq (h g : VH) : Bool := h.k == g.k && (h.n == g.n && (h.m == g.m && h.len == g.len))
theorem headEq_iff {h g : VH} : headEq h g = true ↔ h.k = g.k ∧ h.n = g.n ∧ h.m = g.m ∧ h.len = g.len := by
  simp [headEq]
def sameW : Nat → World → VH → VH → Bool
  | 0, _, _, _ => false
  | d + 1, w, h, g => headEq h g && okFrom (fun i => sameW d w (h.kid w i) (g.kid w i)) h.len 0
theorem sameW_below {w w' : World} (hb : Below w.heap.size w w') : ∀ {d : Nat} {h g : VH}, VT d w h → VT d w g → sameW d w' h g = sameW d w h g
  | 0, _, _, _, _ => rfl
  | d + 1, h, g, hv, gv => by
    unfold sameW
    cases he : headEq h g with
    | false => rfl
    | true =>
      have hl := (headEq_iff.1 he).2.2.2
      rw [Bool.true_and, Bool.true_and]
      refine okFrom_congr fun i _ hi => ?_
      obtain ⟨e1, k1⟩ := kid_below hb hv (i := i) (by omega)
      obtain ⟨e2, k2⟩ := kid_below hb gv (i := i) (by omega)
      rw [e1, e2]
      exact sameW_below hb k1 k2
end Go.Proofs.YtoijdnlplbeomaaDoor
