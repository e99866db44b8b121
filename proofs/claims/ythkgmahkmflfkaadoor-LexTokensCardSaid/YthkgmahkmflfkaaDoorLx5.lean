
/-
  Layer 4: the token at an offset.
-/
import Derived.Test.YthkgmahkmflfkaaDoorRows
import Derived.Test.YthkgmahkmflfkaaDoorBase
import Derived.Test.YthkgmahkmflfkaaDoorLx4
import Derived.WalkKit
namespace Go.Proofs.YthkgmahkmflfkaaDoor
open Go Go.RowKit SZ
set_option linter.unusedVariables false
set_option linter.unusedSimpArgs false
set_option maxRecDepth 100000
attribute [local irreducible] post GD Nxt NxtAll
/-- The token that a text begins with. -/
def tokL : List Nat → Option (Nat × List Nat × Nat)
  | [] => none
  | c :: r =>
    if lettB c then (if ((c :: r).takeWhile wordB).length ≤ 12 then some (1, (c :: r).takeWhile wordB, 0) else none)
    else if digB c then (if nOk ((c :: r).takeWhile digB) = true ∧ ((c :: r).drop ((c :: r).takeWhile digB).length).takeWhile wordB = [] then some (2, (c :: r).takeWhile digB, numV ((c :: r).takeWhile digB)) else none)
    else (if fstP (c :: r) sgL = [] then none else some (3, fstP (c :: r) sgL, 0))
def tkV (k : Int) (p : List Nat) (n : Int) (at_ : Nat) : Value := .agg #[.int .i64 k, .string (strOf p), .int .i64 n, .int .i64 (at_ : Int)]
/-- What tokenAt answers. -/
def tkR (rest : List Nat) (at_ : Nat) (k : Int) (p : List Nat) (n : Int) (ok : Bool) : Prop := match tokL rest with
  | some t => ok = true ∧ k = (t.1 : Int) ∧ p = t.2.1 ∧ n = (t.2.2 : Int)
  | none => ok = false
theorem mem_drop256 {l : List Nat} (hl : ∀ b ∈ l, b < 256) (n : Nat) : ∀ b ∈ l.drop n, b < 256 := fun b hb => hl b (List.mem_of_mem_drop hb)
theorem mem_tw {K : Nat → Bool} : ∀ {l : List Nat} {b : Nat}, b ∈ l.takeWhile K → b ∈ l ∧ K b = true
  | [], b, h => by cases h
  | x :: l, b, h => by
    rw [List.takeWhile_cons] at h
    split at h
    · next hx =>
      rcases List.mem_cons.1 h with rfl | h
      · exact ⟨by simp, hx⟩
      · exact ⟨by simp [(mem_tw h).1], (mem_tw h).2⟩
    · cases h
theorem tw_len (K : Nat → Bool) (l : List Nat) : (l.takeWhile K).length ≤ l.length := by
  induction l with
  | nil => simp
  | cons x l ih => rw [List.takeWhile_cons]; split <;> simp <;> omega
set_option maxHeartbeats 8000000 in
theorem tok_t (w0 : World) (hG : rfSg.P w0) (l : List Nat) (hl : ∀ b ∈ l, b < 256) (hl3 : l.length ≤ 3000) (at_ c : Nat) (hat : at_ < l.length) (hc1 : lettB c = lettB (l.getD at_ 0)) (hc2 : digB c = digB (l.getD at_ 0)) : Calls Tryd.prog 19 #[.string (strOf l), .int .i64 (at_ : Int), .int .i32 (c : Int)] w0 (fun e w' => (∃ (k : Int) (p : List Nat) (n : Int) (ok : Bool), e = .returned (.tuple #[tkV k p n at_, .bool ok]) ∧ tkR (l.drop at_) at_ k p n ok ∧ ∀ b ∈ p, b < 256) ∧ Below w0.heap.size w0 w') := by
  have hr256 := mem_drop256 hl at_
  obtain ⟨c0, r, hdr⟩ : ∃ c0 r, l.drop at_ = c0 :: r := ⟨l[at_], l.drop (at_ + 1), List.drop_eq_getElem_cons hat⟩
  have hc0 : l.getD at_ 0 = c0 := by
    have h := List.drop_eq_getElem_cons hat
    rw [hdr] at h
    injection h with h1 h2
    rw [h1]
    simp [List.getD, List.getElem?_eq_getElem hat]
  rw [hc0] at hc1 hc2
  obtain ⟨R, hR0⟩ : ∃ R, c0 :: r = R := ⟨_, rfl⟩
  rw [hR0] at hdr
  have hlen : R.length ≤ 3000 := by rw [← hdr, List.length_drop]; omega
  have hrs : ∀ b ∈ R, b < 256 := hdr ▸ hr256
  refine sy_enterF [] [rfSg] (by intro f hf; simp only [List.mem_singleton] at hf; subst hf; exact hG) Tryd.func19 rfl rfl fun aa S => ?_
  refine sy_run ⟨0, [2]⟩ 60 S fun bs aa w S => ?_
  refine sy_reg S fun S => ?_
  refine sy_ops 2 S fun bs aa w S => ?_
  refine sy_ex (op := .slice 9 (.tmp 13) (some (.tmp 14)) none none) (ty := 9) (v := .string ((strOf l).extract at_ (strOf l).size)) S (by kernel_rfl) (ex_slS (l2 := some (.v (.int .i64 (at_ : Int)))) (h2 := none) Tryd.underlying9 (by kernel_rfl) (by kernel_rfl) rfl (fun W => slS_l (strOf l) at_ (by rw [strOf_size]; omega) W)) fun aa S => ?_
  refine sy_cast 15 S (congrArg Value.string (by rw [strOf_size, strOf_ext, List.take_length, hdr] : (strOf l).extract at_ (strOf l).size = strOf R)) (by kernel_rfl) fun S => ?_
  refine sy_run ⟨0, [7]⟩ 60 S fun bs aa w S => ?_
  refine sy_reg S fun S => ?_
  refine sy_ops 1 S fun bs aa w S => ?_
  cases h1 : lettB c0 with
  | true =>
    refine sy_call1 S (by have q := lett_t c w; rw [hc1, h1] at q; exact q) (by kernel_rfl) fun aa w hb S => ?_
    refine sy_run ⟨0, [9]⟩ 60 S fun bs aa w S => ?_
    refine sy_reg S fun S => ?_
    refine sy_ops 1 S fun bs aa w S => ?_
    refine sy_call1 S (sw_t w R hrs) (by kernel_rfl) fun aa w hb S => ?_
    have htl := tw_len wordB R
    refine sy_run ⟨0, [10]⟩ 60 S fun bs aa w S => ?_
    refine sy_reg S fun S => ?_
    refine sy_ops 3 S fun bs aa w S => ?_
    refine sy_cast 32 S (congrArg (Value.int .i64) (by rw [strOf_size] : ((strOf (R.takeWhile wordB)).size : Int) = ((R.takeWhile wordB).length : Int))) (by kernel_rfl) fun S => ?_
    refine sy_ops 1 S fun bs aa w S => ?_
    by_cases h12 : (R.takeWhile wordB).length ≤ 12
    · refine sy_cast 33 S (congrArg Value.bool (decide_eq_true (by omega) : decide (((R.takeWhile wordB).length : Int) ≤ 12) = true)) (by kernel_rfl) fun S => ?_
      refine sy_run ⟨0, []⟩ 60 S fun bs aa w S => ?_
      have hR : tkR (l.drop at_) at_ 1 (R.takeWhile wordB) 0 true := by
        clear S
        rw [hdr]
        subst hR0
        unfold tkR tokL
        simp only [h1, if_true, if_pos h12]; refine ⟨?_, ?_, ?_, ?_⟩ <;> first | rfl | trivial
      exact sy_ret S (by kernel_rfl) (by kernel_rfl) fun hg => ⟨⟨1, (R.takeWhile wordB), 0, true, rfl, hR, fun b hb => hrs b (mem_tw hb).1⟩, bel_gr hg⟩
    · refine sy_cast 33 S (congrArg Value.bool (decide_eq_false (by omega) : decide (((R.takeWhile wordB).length : Int) ≤ 12) = false)) (by kernel_rfl) fun S => ?_
      refine sy_run ⟨0, []⟩ 60 S fun bs aa w S => ?_
      have hR : tkR (l.drop at_) at_ 1 (R.takeWhile wordB) 0 false := by
        clear S
        rw [hdr]
        subst hR0
        unfold tkR tokL
        simp only [h1, if_true, if_neg h12]
      exact sy_ret S (by kernel_rfl) (by kernel_rfl) fun hg => ⟨⟨1, (R.takeWhile wordB), 0, false, rfl, hR, fun b hb => hrs b (mem_tw hb).1⟩, bel_gr hg⟩
  | false =>
    refine sy_call1 S (by have q := lett_t c w; rw [hc1, h1] at q; exact q) (by kernel_rfl) fun aa w hb S => ?_
    refine sy_run ⟨0, [11]⟩ 60 S fun bs aa w S => ?_
    refine sy_reg S fun S => ?_
    refine sy_ops 1 S fun bs aa w S => ?_
    cases h2 : digB c0 with
    | true =>
      refine sy_call1 S (by have q := dig_t c w; rw [hc2, h2] at q; exact q) (by kernel_rfl) fun aa w hb S => ?_
      refine sy_run ⟨0, [13]⟩ 60 S fun bs aa w S => ?_
      refine sy_reg S fun S => ?_
      refine sy_ops 1 S fun bs aa w S => ?_
      refine sy_call1 S (sd_t w R hrs) (by kernel_rfl) fun aa w hb S => ?_
      have htl := tw_len digB R
      have hw256 : ∀ b ∈ (R.takeWhile digB), b < 256 := fun b hb => hrs b (mem_tw hb).1
      refine sy_run ⟨0, [14]⟩ 60 S fun bs aa w S => ?_
      refine sy_reg S fun S => ?_
      refine sy_ops 2 S fun bs aa w S => ?_
      refine sy_call S (X := Int) (val := fun v => .tuple #[.int .i64 v, .bool (nOk (R.takeWhile digB))]) (C := fun v _ => nOk (R.takeWhile digB) = true → v = (numV (R.takeWhile digB) : Int)) ((num_t w (R.takeWhile digB) hw256 (fun b hb => (mem_tw hb).2)).mono fun e w' ⟨⟨v, q1, q2⟩, q3⟩ => ⟨v, q1, q2, q3⟩) (by kernel_rfl) fun v aa w hC hb S => ?_
      by_cases h3 : nOk (R.takeWhile digB) = true
      case neg =>
        have h3 : nOk (R.takeWhile digB) = false := by simpa using h3
        refine sy_cast 44 S (by rw [h3] : Value.tuple #[.int .i64 v, .bool (nOk (R.takeWhile digB))] = .tuple #[.int .i64 v, .bool false]) (by kernel_rfl) fun S => ?_
        refine sy_run ⟨0, []⟩ 60 S fun bs aa w S => ?_
        have hR : tkR (l.drop at_) at_ 2 (R.takeWhile digB) v false := by
          clear S
          rw [hdr]
          subst hR0
          unfold tkR tokL
          simp only [h1, h2, h3, if_true, Bool.false_eq_true, if_false, false_and]
        exact sy_ret S (by kernel_rfl) (by kernel_rfl) fun hg => ⟨⟨2, (R.takeWhile digB), v, false, rfl, hR, hw256⟩, bel_gr hg⟩
      case pos =>
        refine sy_cast 44 S (by rw [h3] : Value.tuple #[.int .i64 v, .bool (nOk (R.takeWhile digB))] = .tuple #[.int .i64 v, .bool true]) (by kernel_rfl) fun S => ?_
        refine sy_run ⟨0, [15]⟩ 60 S fun bs aa w S => ?_
        refine sy_reg S fun S => ?_
        refine sy_ops 6 S fun bs aa w S => ?_
        refine sy_cast 53 S (congrArg (Value.int .i64) (by rw [strOf_size] : ((strOf (R.takeWhile digB)).size : Int) = ((R.takeWhile digB).length : Int))) (by kernel_rfl) fun S => ?_
        refine sy_ex (op := .slice 9 (.tmp 50) (some (.tmp 53)) none none) (ty := 9) (v := .string ((strOf R).extract (R.takeWhile digB).length (strOf R).size)) S (by kernel_rfl) (ex_slS (l2 := some (.v (.int .i64 ((R.takeWhile digB).length : Int)))) (h2 := none) Tryd.underlying9 (by kernel_rfl) (by kernel_rfl) rfl (fun W => slS_l (strOf R) (R.takeWhile digB).length (by rw [strOf_size]; omega) W)) fun aa S => ?_
        refine sy_cast 54 S (congrArg Value.string (by rw [strOf_size, strOf_ext, List.take_length] : (strOf R).extract (R.takeWhile digB).length (strOf R).size = strOf (R.drop (R.takeWhile digB).length))) (by kernel_rfl) fun S => ?_
        refine sy_call1 S (sw_t w (R.drop (R.takeWhile digB).length) (mem_drop256 hrs _)) (by kernel_rfl) fun aa w hb S => ?_
        refine sy_ex (op := .binOp .eql 9 (.tmp 55) (.const (.string ⟨#[]⟩)) 9) (ty := 4) (v := .bool (decide ((R.drop (R.takeWhile digB).length).takeWhile wordB = []))) S (by kernel_rfl) (ex_eqL (l := (R.drop (R.takeWhile digB).length).takeWhile wordB) (m := []) (by kernel_rfl) (by kernel_rfl) (fun b hb => mem_drop256 hrs _ b (mem_tw hb).1) (fun b hb => by cases hb) rfl) fun aa S => ?_
        by_cases h4 : (R.drop (R.takeWhile digB).length).takeWhile wordB = []
        · refine sy_cast 56 S (congrArg Value.bool (decide_eq_true h4)) (by kernel_rfl) fun S => ?_
          refine sy_run ⟨0, []⟩ 60 S fun bs aa w S => ?_
          have hR : tkR (l.drop at_) at_ 2 (R.takeWhile digB) v true := by
            clear S
            rw [hdr]
            subst hR0
            unfold tkR tokL
            simp only [h1, h2, h3, h4, if_true, Bool.false_eq_true, if_false, and_self]; refine ⟨?_, ?_, ?_, ?_⟩ <;> first | rfl | trivial | exact hC h3
          exact sy_ret S (by kernel_rfl) (by kernel_rfl) fun hg => ⟨⟨2, (R.takeWhile digB), v, true, rfl, hR, hw256⟩, bel_gr hg⟩
        · refine sy_cast 56 S (congrArg Value.bool (decide_eq_false h4)) (by kernel_rfl) fun S => ?_
          refine sy_run ⟨0, []⟩ 60 S fun bs aa w S => ?_
          have hR : tkR (l.drop at_) at_ 2 (R.takeWhile digB) v false := by
            clear S
            rw [hdr]
            subst hR0
            unfold tkR tokL
            simp only [h1, h2, h3, h4, if_true, Bool.false_eq_true, if_false, and_false]
          exact sy_ret S (by kernel_rfl) (by kernel_rfl) fun hg => ⟨⟨2, (R.takeWhile digB), v, false, rfl, hR, hw256⟩, bel_gr hg⟩
    | false =>
      refine sy_call1 S (by have q := dig_t c w; rw [hc2, h2] at q; exact q) (by kernel_rfl) fun aa w hb S => ?_
      refine sy_run ⟨0, [5]⟩ 60 S fun bs aa w S => ?_
      refine sy_reg S fun S => ?_
      refine sy_ops 1 S fun bs aa w S => ?_
      refine sy_call1 S (sg_t w R hrs (S.fact (f := rfSg) (by simp))) (by kernel_rfl) fun aa w hb S => ?_
      have hw256 : ∀ b ∈ (fstP R sgL), b < 256 := fstP_256 _ _ sgL_256
      refine sy_run ⟨0, [6]⟩ 60 S fun bs aa w S => ?_
      refine sy_reg S fun S => ?_
      refine sy_ops 2 S fun bs aa w S => ?_
      refine sy_ex (op := .binOp .neq 9 (.tmp 21) (.const (.string ⟨#[]⟩)) 9) (ty := 4) (v := .bool (!decide ((fstP R sgL) = []))) S (by kernel_rfl) (ex_neL (l := (fstP R sgL)) (m := []) (by kernel_rfl) (by kernel_rfl) hw256 (fun b hb => by cases hb) rfl) fun aa S => ?_
      by_cases h3 : (fstP R sgL) = []
      · refine sy_cast 22 S (congrArg Value.bool (by rw [decide_eq_true h3]; rfl : (!decide ((fstP R sgL) = [])) = false)) (by kernel_rfl) fun S => ?_
        refine sy_run ⟨0, []⟩ 60 S fun bs aa w S => ?_
        have hR : tkR (l.drop at_) at_ 3 (fstP R sgL) 0 false := by
          clear S
          rw [hdr]
          subst hR0
          unfold tkR tokL
          simp only [h1, h2, if_pos h3, Bool.false_eq_true, if_false]
        exact sy_ret S (by kernel_rfl) (by kernel_rfl) fun hg => ⟨⟨3, (fstP R sgL), 0, false, rfl, hR, hw256⟩, bel_gr hg⟩
      · refine sy_cast 22 S (congrArg Value.bool (by rw [decide_eq_false h3]; rfl : (!decide ((fstP R sgL) = [])) = true)) (by kernel_rfl) fun S => ?_
        refine sy_run ⟨0, []⟩ 60 S fun bs aa w S => ?_
        have hR : tkR (l.drop at_) at_ 3 (fstP R sgL) 0 true := by
          clear S
          rw [hdr]
          subst hR0
          unfold tkR tokL
          simp only [h1, h2, if_neg h3, Bool.false_eq_true, if_false]; refine ⟨?_, ?_, ?_, ?_⟩ <;> first | rfl | trivial
        exact sy_ret S (by kernel_rfl) (by kernel_rfl) fun hg => ⟨⟨3, (fstP R sgL), 0, true, rfl, hR, hw256⟩, bel_gr hg⟩
end Go.Proofs.YthkgmahkmflfkaaDoor
