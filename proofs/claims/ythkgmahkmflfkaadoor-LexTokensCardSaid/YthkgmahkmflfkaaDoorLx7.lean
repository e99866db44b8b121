
/-
  Layer 4: the reference: classes, signs, numbers.
-/
import Derived.Test.YthkgmahkmflfkaaDoorRows
import Derived.Test.YthkgmahkmflfkaaDoorBase
import Derived.Test.YthkgmahkmflfkaaDoorLx6
import Derived.WalkKit
namespace Go.Proofs.YthkgmahkmflfkaaDoor
open Go Go.RowKit SZ
set_option linter.unusedVariables false
set_option linter.unusedSimpArgs false
set_option maxRecDepth 100000
attribute [local irreducible] post GD Nxt NxtAll
def clsN (b : Nat) : Nat := if lettB b then 1 else if digB b then 2 else if b = 95 then 3 else if spcB b then 4 else 0
noncomputable def clS (b : Nat) : SS := ⟨39, [(0, .v (.int .u8 (b : Int)))], []⟩
noncomputable def cl3K : List It := goM 60 2 [0] [.code (bodyOf Tryd.f20)]
noncomputable def cl5K : List It := goM 60 3 [0, 0] [.code (bodyOf Tryd.f20)]
noncomputable def cl7K : List It := goM 60 4 [0, 0, 0] [.code (bodyOf Tryd.f20)]
set_option maxHeartbeats 8000000 in
theorem cl7 (w0 : World) (b : Nat) (h1 : lettB b = false) (h2 : digB b = false) (h3 : b ≠ 95) (aa : Act) (w : World) (S : Sy w0 [] [] (clS b) [] aa w) : post Tryd.prog cl7K (bodyPost Tryd.prog Tryd.f20 (fun e w' => e = .returned (.int .i64 (clsN b : Int)) ∧ Below w0.heap.size w0 w')) .normal aa w := by
  refine sy_run (c := ⟨cl7K, clS b⟩) ⟨0, [7]⟩ 60 S fun bs aa w S => ?_
  refine sy_reg S fun S => ?_
  refine sy_ops 2 S fun bs aa w S => ?_
  by_cases q1 : b = 9
  · refine sy_cast 30 S (congrArg Value.bool (decide_eq_true (by omega) : decide ((b : Int) = 9) = true)) (by kernel_rfl) fun S => ?_
    refine sy_run ⟨0, []⟩ 60 S fun bs aa w S => ?_
    have hv : clsN b = 4 := by unfold clsN; rw [h1, h2]; subst q1; rfl
    rw [hv]
    exact sy_ret S (by kernel_rfl) (by kernel_rfl) fun hg => ⟨rfl, bel_gr hg⟩
  · refine sy_cast 30 S (congrArg Value.bool (decide_eq_false (by omega) : decide ((b : Int) = 9) = false)) (by kernel_rfl) fun S => ?_
    refine sy_ops 3 S fun bs aa w S => ?_
    by_cases q2 : b = 10
    · refine sy_cast 33 S (congrArg Value.bool (decide_eq_true (by omega) : decide ((b : Int) = 10) = true)) (by kernel_rfl) fun S => ?_
      refine sy_run ⟨0, []⟩ 60 S fun bs aa w S => ?_
      have hv : clsN b = 4 := by unfold clsN; rw [h1, h2]; subst q2; rfl
      rw [hv]
      exact sy_ret S (by kernel_rfl) (by kernel_rfl) fun hg => ⟨rfl, bel_gr hg⟩
    · refine sy_cast 33 S (congrArg Value.bool (decide_eq_false (by omega) : decide ((b : Int) = 10) = false)) (by kernel_rfl) fun S => ?_
      refine sy_ops 4 S fun bs aa w S => ?_
      by_cases q3 : b = 32
      · refine sy_cast 37 S (congrArg Value.bool (decide_eq_true (by omega) : decide ((b : Int) = 32) = true)) (by kernel_rfl) fun S => ?_
        refine sy_run ⟨0, []⟩ 60 S fun bs aa w S => ?_
        have hv : clsN b = 4 := by unfold clsN; rw [h1, h2]; subst q3; rfl
        rw [hv]
        exact sy_ret S (by kernel_rfl) (by kernel_rfl) fun hg => ⟨rfl, bel_gr hg⟩
      · refine sy_cast 37 S (congrArg Value.bool (decide_eq_false (by omega) : decide ((b : Int) = 32) = false)) (by kernel_rfl) fun S => ?_
        refine sy_run ⟨0, []⟩ 60 S fun bs aa w S => ?_
        have hv : clsN b = 0 := by unfold clsN; simp [h1, h2, h3, spcB, q1, q2, q3]
        rw [hv]
        exact sy_ret S (by kernel_rfl) (by kernel_rfl) fun hg => ⟨rfl, bel_gr hg⟩
set_option maxHeartbeats 8000000 in
theorem cl5 (w0 : World) (b : Nat) (h1 : lettB b = false) (h2 : digB b = false) (aa : Act) (w : World) (S : Sy w0 [] [] (clS b) [] aa w) : post Tryd.prog cl5K (bodyPost Tryd.prog Tryd.f20 (fun e w' => e = .returned (.int .i64 (clsN b : Int)) ∧ Below w0.heap.size w0 w')) .normal aa w := by
  refine sy_run (c := ⟨cl5K, clS b⟩) ⟨0, [5]⟩ 60 S fun bs aa w S => ?_
  refine sy_reg S fun S => ?_
  refine sy_ops 2 S fun bs aa w S => ?_
  by_cases q1 : b = 95
  · refine sy_cast 27 S (congrArg Value.bool (decide_eq_true (by omega) : decide ((b : Int) = 95) = true)) (by kernel_rfl) fun S => ?_
    refine sy_run ⟨0, []⟩ 60 S fun bs aa w S => ?_
    have hv : clsN b = 3 := by unfold clsN; rw [h1, h2]; subst q1; rfl
    rw [hv]
    exact sy_ret S (by kernel_rfl) (by kernel_rfl) fun hg => ⟨rfl, bel_gr hg⟩
  · refine sy_cast 27 S (congrArg Value.bool (decide_eq_false (by omega) : decide ((b : Int) = 95) = false)) (by kernel_rfl) fun S => ?_
    refine sy_run ⟨0, [7]⟩ 60 S fun bs aa w S => ?_
    have S2 := S.to [] (clS b) (by kernel_rfl) (by kernel_rfl) (by kernel_rfl) (by kernel_rfl) (by kernel_rfl)
    refine sy_at2 (k' := cl7K) (by kernel_rfl) ?_
    exact cl7 w0 b h1 h2 q1 aa w S2
set_option maxHeartbeats 8000000 in
theorem cl3 (w0 : World) (b : Nat) (h1 : lettB b = false) (aa : Act) (w : World) (S : Sy w0 [] [] (clS b) [] aa w) : post Tryd.prog cl3K (bodyPost Tryd.prog Tryd.f20 (fun e w' => e = .returned (.int .i64 (clsN b : Int)) ∧ Below w0.heap.size w0 w')) .normal aa w := by
  refine sy_run (c := ⟨cl3K, clS b⟩) ⟨0, [3]⟩ 60 S fun bs aa w S => ?_
  refine sy_reg S fun S => ?_
  refine sy_ops 2 S fun bs aa w S => ?_
  by_cases q1 : 48 ≤ b
  · refine sy_cast 20 S (congrArg Value.bool (decide_eq_true (by omega) : decide ((b : Int) ≥ 48) = true)) (by kernel_rfl) fun S => ?_
    refine sy_ops 3 S fun bs aa w S => ?_
    by_cases q2 : b ≤ 57
    · refine sy_cast 23 S (congrArg Value.bool (decide_eq_true (by omega) : decide ((b : Int) ≤ 57) = true)) (by kernel_rfl) fun S => ?_
      refine sy_run ⟨0, []⟩ 60 S fun bs aa w S => ?_
      have hv : clsN b = 2 := by unfold clsN; rw [h1, show digB b = true by unfold digB; simp; omega]; rfl
      rw [hv]
      exact sy_ret S (by kernel_rfl) (by kernel_rfl) fun hg => ⟨rfl, bel_gr hg⟩
    · refine sy_cast 23 S (congrArg Value.bool (decide_eq_false (by omega) : decide ((b : Int) ≤ 57) = false)) (by kernel_rfl) fun S => ?_
      refine sy_run ⟨0, [5]⟩ 60 S fun bs aa w S => ?_
      have S2 := S.to [] (clS b) (by kernel_rfl) (by kernel_rfl) (by kernel_rfl) (by kernel_rfl) (by kernel_rfl)
      refine sy_at2 (k' := cl5K) (by kernel_rfl) ?_
      exact cl5 w0 b h1 (by unfold digB; simp; omega) aa w S2
  · refine sy_cast 20 S (congrArg Value.bool (decide_eq_false (by omega) : decide ((b : Int) ≥ 48) = false)) (by kernel_rfl) fun S => ?_
    refine sy_run ⟨0, [5]⟩ 60 S fun bs aa w S => ?_
    have S2 := S.to [] (clS b) (by kernel_rfl) (by kernel_rfl) (by kernel_rfl) (by kernel_rfl) (by kernel_rfl)
    refine sy_at2 (k' := cl5K) (by kernel_rfl) ?_
    exact cl5 w0 b h1 (by unfold digB; simp; omega) aa w S2
set_option maxHeartbeats 8000000 in
theorem cls_t (b : Nat) (w0 : World) : Calls Tryd.prog 20 #[.int .u8 (b : Int)] w0 (fun e w' => e = .returned (.int .i64 (clsN b : Int)) ∧ Below w0.heap.size w0 w') := by
  refine sy_enterF [] [] (by intro f hf; cases hf) Tryd.func20 rfl rfl fun aa S => ?_
  refine sy_run ⟨0, [1]⟩ 60 S fun bs aa w S => ?_
  refine sy_reg S fun S => ?_
  refine sy_ops 2 S fun bs aa w S => ?_
  by_cases h1 : 97 ≤ b
  · refine sy_cast 5 S (congrArg Value.bool (decide_eq_true (by omega) : decide ((b : Int) ≥ 97) = true)) (by kernel_rfl) fun S => ?_
    refine sy_ops 3 S fun bs aa w S => ?_
    by_cases h2 : b ≤ 122
    · refine sy_cast 8 S (congrArg Value.bool (decide_eq_true (by omega) : decide ((b : Int) ≤ 122) = true)) (by kernel_rfl) fun S => ?_
      refine sy_run ⟨0, []⟩ 60 S fun bs aa w S => ?_
      have hv : clsN b = 1 := by unfold clsN; rw [show lettB b = true by unfold lettB; simp; omega]; rfl
      rw [hv]
      exact sy_ret S (by kernel_rfl) (by kernel_rfl) fun hg => ⟨rfl, bel_gr hg⟩
    · refine sy_cast 8 S (congrArg Value.bool (decide_eq_false (by omega) : decide ((b : Int) ≤ 122) = false)) (by kernel_rfl) fun S => ?_
      refine sy_ops 4 S fun bs aa w S => ?_
      refine sy_cast 12 S (congrArg Value.bool (decide_eq_true (by omega) : decide ((b : Int) ≥ 65) = true)) (by kernel_rfl) fun S => ?_
      refine sy_ops 3 S fun bs aa w S => ?_
      refine sy_cast 15 S (congrArg Value.bool (decide_eq_false (by omega) : decide ((b : Int) ≤ 90) = false)) (by kernel_rfl) fun S => ?_
      refine sy_run ⟨0, [3]⟩ 60 S fun bs aa w S => ?_
      have S2 := S.to [] (clS b) (by kernel_rfl) (by kernel_rfl) (by kernel_rfl) (by kernel_rfl) (by kernel_rfl)
      refine sy_at2 (k' := cl3K) (by kernel_rfl) ?_
      exact cl3 w0 b (by unfold lettB; simp; omega) aa w S2
  · refine sy_cast 5 S (congrArg Value.bool (decide_eq_false (by omega) : decide ((b : Int) ≥ 97) = false)) (by kernel_rfl) fun S => ?_
    refine sy_ops 7 S fun bs aa w S => ?_
    by_cases h3 : 65 ≤ b
    · refine sy_cast 12 S (congrArg Value.bool (decide_eq_true (by omega) : decide ((b : Int) ≥ 65) = true)) (by kernel_rfl) fun S => ?_
      refine sy_ops 3 S fun bs aa w S => ?_
      by_cases h4 : b ≤ 90
      · refine sy_cast 15 S (congrArg Value.bool (decide_eq_true (by omega) : decide ((b : Int) ≤ 90) = true)) (by kernel_rfl) fun S => ?_
        refine sy_run ⟨0, []⟩ 60 S fun bs aa w S => ?_
        have hv : clsN b = 1 := by unfold clsN; rw [show lettB b = true by unfold lettB; simp; omega]; rfl
        rw [hv]
        exact sy_ret S (by kernel_rfl) (by kernel_rfl) fun hg => ⟨rfl, bel_gr hg⟩
      · refine sy_cast 15 S (congrArg Value.bool (decide_eq_false (by omega) : decide ((b : Int) ≤ 90) = false)) (by kernel_rfl) fun S => ?_
        refine sy_run ⟨0, [3]⟩ 60 S fun bs aa w S => ?_
        have S2 := S.to [] (clS b) (by kernel_rfl) (by kernel_rfl) (by kernel_rfl) (by kernel_rfl) (by kernel_rfl)
        refine sy_at2 (k' := cl3K) (by kernel_rfl) ?_
        exact cl3 w0 b (by unfold lettB; simp; omega) aa w S2
    · refine sy_cast 12 S (congrArg Value.bool (decide_eq_false (by omega) : decide ((b : Int) ≥ 65) = false)) (by kernel_rfl) fun S => ?_
      refine sy_run ⟨0, [3]⟩ 60 S fun bs aa w S => ?_
      have S2 := S.to [] (clS b) (by kernel_rfl) (by kernel_rfl) (by kernel_rfl) (by kernel_rfl) (by kernel_rfl)
      refine sy_at2 (k' := cl3K) (by kernel_rfl) ?_
      exact cl3 w0 b (by unfold lettB; simp; omega) aa w S2
theorem slS_b (s : ByteArray) (i j : Nat) (h1 : i ≤ j) (h2 : j ≤ s.size) (W : World) : (Instr.sliceAt 9 (.string s) (some (.int .i64 (i : Int))) (some (.int .i64 (j : Int))) none).run Tryd.prog W = .ok (.string (s.extract i j)) W := by
  have hu : Tryd.prog.underlying 9 = some .string := Tryd.underlying9
  rw [run_sliceAt_string W _ _ _ _ _ hu, run_slice_string W _ _ _ _ _ _ hu (by omega) (by omega) (by omega), Int.toNat_natCast, Int.toNat_natCast]
def sg2 : List (List Nat) := [[59, 59], [124, 124], [38, 38], [61, 61], [46, 91], [58, 61], [45, 62]]
def sg1 : List Nat := [40, 41, 93, 59, 44, 124, 61, 60, 43, 45, 42, 33]
def sgN (two : List Nat) (c : Nat) : Nat := if two ∈ sg2 then 2 else if c ∈ sg1 then 1 else 0
def twoL (l : List Nat) : List Nat := if 2 ≤ l.length then l.take 2 else []
theorem sgL_is : sgL = sg2 ++ sg1.map fun c => [c] := by decide
theorem sg2_len : ∀ m ∈ sg2, m.length = 2 := by decide
theorem fst_2 (l : List Nat) (B : List (List Nat)) : ∀ A : List (List Nat), (∀ m ∈ A, m.length = 2) → (fstP l (A ++ B)).length = if l.take 2 ∈ A then 2 else (fstP l B).length
  | [], _ => by simp
  | m :: A, h => by
    have hm := h m (by simp)
    show (if l.take m.length = m then m else fstP l (A ++ B)).length = _
    rw [hm]
    by_cases q : l.take 2 = m
    · rw [if_pos q, if_pos (by simp [q]), hm]
    · rw [if_neg q, fst_2 l B A (fun x hx => h x (by simp [hx]))]
      simp [q]
theorem fst_1 (c : Nat) (r : List Nat) : ∀ B : List Nat, (fstP (c :: r) (B.map fun c => [c])).length = if c ∈ B then 1 else 0
  | [] => by simp [fstP]
  | m :: B => by
    show (if (c :: r).take [m].length = [m] then [m] else fstP (c :: r) (B.map fun c => [c])).length = _
    by_cases q : c = m
    · rw [if_pos (by simp [q]), if_pos (by simp [q])]; rfl
    · rw [if_neg (by simpa using q), fst_1 c r B]
      simp [q]
theorem sgN_is (c : Nat) (r : List Nat) : (fstP (c :: r) sgL).length = sgN (twoL (c :: r)) c := by
  have h0 : ((c :: r).take 2 ∈ sg2) ↔ (twoL (c :: r) ∈ sg2) := by
    unfold twoL
    split
    · exact Iff.rfl
    · next h =>
      constructor
      · intro q
        have h2 := sg2_len _ q
        rw [List.length_take] at h2
        omega
      · intro q
        have h2 := sg2_len _ q
        cases h2
  rw [sgL_is, fst_2 _ _ _ sg2_len, fst_1]
  unfold sgN
  by_cases h : (c :: r).take 2 ∈ sg2
  · rw [if_pos h, if_pos (h0.1 h)]
  · rw [if_neg h, if_neg (fun q => h (h0.2 q))]
noncomputable def sn4K : List It := goM 200 3 [0] [.code (bodyOf Tryd.f21)]
noncomputable def snS (l two : List Nat) (at_ : Nat) : SS := ⟨41, [(0, .v (.string (strOf l))), (1, .v (.int .i64 (at_ : Int))), (5, .v (.string (strOf two)))], []⟩
set_option maxHeartbeats 8000000 in
theorem sn4 (w0 : World) (l two : List Nat) (at_ : Nat) (hl : ∀ b ∈ l, b < 256) (h2 : ∀ b ∈ two, b < 256) (hat : at_ < l.length) (aa : Act) (w : World) (S : Sy w0 [] [] (snS l two at_) [] aa w) : post Tryd.prog sn4K (bodyPost Tryd.prog Tryd.f21 (fun e w' => e = .returned (.int .i64 (sgN two (l.getD at_ 0) : Int)) ∧ Below w0.heap.size w0 w')) .normal aa w := by
  obtain ⟨c, hc⟩ : ∃ c, l.getD at_ 0 = c := ⟨_, rfl⟩
  refine sy_run (c := ⟨sn4K, snS l two at_⟩) ⟨0, [4]⟩ 60 S fun bs aa w S => ?_
  refine sy_run ⟨0, [5]⟩ 60 S fun bs aa w S => ?_
  refine sy_reg S fun S => ?_
  refine sy_ex (op := .binOp .eql 9 (.tmp 16) (.const (.string ⟨#[59, 59]⟩)) 9) (ty := 4) (v := .bool (decide (two = [59, 59]))) S (by kernel_rfl) (ex_eqL (l := two) (m := [59, 59]) (by kernel_rfl) (by kernel_rfl) h2 (by decide) rfl) fun aa S => ?_
  by_cases q0 : two = [59, 59]
  · refine sy_cast 18 S (congrArg Value.bool (decide_eq_true q0)) (by kernel_rfl) fun S => ?_
    refine sy_run ⟨0, []⟩ 60 S fun bs aa w S => ?_
    have hv : sgN two (l.getD at_ 0) = 2 := by rw [hc]; unfold sgN; rw [if_pos (by rw [q0]; decide)]
    rw [hv]
    exact sy_ret S (by kernel_rfl) (by kernel_rfl) fun hg => ⟨rfl, bel_gr hg⟩
  refine sy_cast 18 S (congrArg Value.bool (decide_eq_false q0)) (by kernel_rfl) fun S => ?_
  refine sy_run ⟨0, [6]⟩ 60 S fun bs aa w S => ?_
  refine sy_reg S fun S => ?_
  refine sy_ex (op := .binOp .eql 9 (.tmp 16) (.const (.string ⟨#[124, 124]⟩)) 9) (ty := 4) (v := .bool (decide (two = [124, 124]))) S (by kernel_rfl) (ex_eqL (l := two) (m := [124, 124]) (by kernel_rfl) (by kernel_rfl) h2 (by decide) rfl) fun aa S => ?_
  by_cases q1 : two = [124, 124]
  · refine sy_cast 19 S (congrArg Value.bool (decide_eq_true q1)) (by kernel_rfl) fun S => ?_
    refine sy_run ⟨0, []⟩ 60 S fun bs aa w S => ?_
    have hv : sgN two (l.getD at_ 0) = 2 := by rw [hc]; unfold sgN; rw [if_pos (by rw [q1]; decide)]
    rw [hv]
    exact sy_ret S (by kernel_rfl) (by kernel_rfl) fun hg => ⟨rfl, bel_gr hg⟩
  refine sy_cast 19 S (congrArg Value.bool (decide_eq_false q1)) (by kernel_rfl) fun S => ?_
  refine sy_run ⟨0, [7]⟩ 60 S fun bs aa w S => ?_
  refine sy_reg S fun S => ?_
  refine sy_ex (op := .binOp .eql 9 (.tmp 16) (.const (.string ⟨#[38, 38]⟩)) 9) (ty := 4) (v := .bool (decide (two = [38, 38]))) S (by kernel_rfl) (ex_eqL (l := two) (m := [38, 38]) (by kernel_rfl) (by kernel_rfl) h2 (by decide) rfl) fun aa S => ?_
  by_cases q2 : two = [38, 38]
  · refine sy_cast 20 S (congrArg Value.bool (decide_eq_true q2)) (by kernel_rfl) fun S => ?_
    refine sy_run ⟨0, []⟩ 60 S fun bs aa w S => ?_
    have hv : sgN two (l.getD at_ 0) = 2 := by rw [hc]; unfold sgN; rw [if_pos (by rw [q2]; decide)]
    rw [hv]
    exact sy_ret S (by kernel_rfl) (by kernel_rfl) fun hg => ⟨rfl, bel_gr hg⟩
  refine sy_cast 20 S (congrArg Value.bool (decide_eq_false q2)) (by kernel_rfl) fun S => ?_
  refine sy_run ⟨0, [8]⟩ 60 S fun bs aa w S => ?_
  refine sy_reg S fun S => ?_
  refine sy_ex (op := .binOp .eql 9 (.tmp 16) (.const (.string ⟨#[61, 61]⟩)) 9) (ty := 4) (v := .bool (decide (two = [61, 61]))) S (by kernel_rfl) (ex_eqL (l := two) (m := [61, 61]) (by kernel_rfl) (by kernel_rfl) h2 (by decide) rfl) fun aa S => ?_
  by_cases q3 : two = [61, 61]
  · refine sy_cast 21 S (congrArg Value.bool (decide_eq_true q3)) (by kernel_rfl) fun S => ?_
    refine sy_run ⟨0, []⟩ 60 S fun bs aa w S => ?_
    have hv : sgN two (l.getD at_ 0) = 2 := by rw [hc]; unfold sgN; rw [if_pos (by rw [q3]; decide)]
    rw [hv]
    exact sy_ret S (by kernel_rfl) (by kernel_rfl) fun hg => ⟨rfl, bel_gr hg⟩
  refine sy_cast 21 S (congrArg Value.bool (decide_eq_false q3)) (by kernel_rfl) fun S => ?_
  refine sy_run ⟨0, [9]⟩ 60 S fun bs aa w S => ?_
  refine sy_reg S fun S => ?_
  refine sy_ex (op := .binOp .eql 9 (.tmp 16) (.const (.string ⟨#[46, 91]⟩)) 9) (ty := 4) (v := .bool (decide (two = [46, 91]))) S (by kernel_rfl) (ex_eqL (l := two) (m := [46, 91]) (by kernel_rfl) (by kernel_rfl) h2 (by decide) rfl) fun aa S => ?_
  by_cases q4 : two = [46, 91]
  · refine sy_cast 22 S (congrArg Value.bool (decide_eq_true q4)) (by kernel_rfl) fun S => ?_
    refine sy_run ⟨0, []⟩ 60 S fun bs aa w S => ?_
    have hv : sgN two (l.getD at_ 0) = 2 := by rw [hc]; unfold sgN; rw [if_pos (by rw [q4]; decide)]
    rw [hv]
    exact sy_ret S (by kernel_rfl) (by kernel_rfl) fun hg => ⟨rfl, bel_gr hg⟩
  refine sy_cast 22 S (congrArg Value.bool (decide_eq_false q4)) (by kernel_rfl) fun S => ?_
  refine sy_run ⟨0, [10]⟩ 60 S fun bs aa w S => ?_
  refine sy_reg S fun S => ?_
  refine sy_ex (op := .binOp .eql 9 (.tmp 16) (.const (.string ⟨#[58, 61]⟩)) 9) (ty := 4) (v := .bool (decide (two = [58, 61]))) S (by kernel_rfl) (ex_eqL (l := two) (m := [58, 61]) (by kernel_rfl) (by kernel_rfl) h2 (by decide) rfl) fun aa S => ?_
  by_cases q5 : two = [58, 61]
  · refine sy_cast 23 S (congrArg Value.bool (decide_eq_true q5)) (by kernel_rfl) fun S => ?_
    refine sy_run ⟨0, []⟩ 60 S fun bs aa w S => ?_
    have hv : sgN two (l.getD at_ 0) = 2 := by rw [hc]; unfold sgN; rw [if_pos (by rw [q5]; decide)]
    rw [hv]
    exact sy_ret S (by kernel_rfl) (by kernel_rfl) fun hg => ⟨rfl, bel_gr hg⟩
  refine sy_cast 23 S (congrArg Value.bool (decide_eq_false q5)) (by kernel_rfl) fun S => ?_
  refine sy_run ⟨0, [11]⟩ 60 S fun bs aa w S => ?_
  refine sy_reg S fun S => ?_
  refine sy_ex (op := .binOp .eql 9 (.tmp 16) (.const (.string ⟨#[45, 62]⟩)) 9) (ty := 4) (v := .bool (decide (two = [45, 62]))) S (by kernel_rfl) (ex_eqL (l := two) (m := [45, 62]) (by kernel_rfl) (by kernel_rfl) h2 (by decide) rfl) fun aa S => ?_
  by_cases q6 : two = [45, 62]
  · refine sy_cast 24 S (congrArg Value.bool (decide_eq_true q6)) (by kernel_rfl) fun S => ?_
    refine sy_run ⟨0, []⟩ 60 S fun bs aa w S => ?_
    have hv : sgN two (l.getD at_ 0) = 2 := by rw [hc]; unfold sgN; rw [if_pos (by rw [q6]; decide)]
    rw [hv]
    exact sy_ret S (by kernel_rfl) (by kernel_rfl) fun hg => ⟨rfl, bel_gr hg⟩
  refine sy_cast 24 S (congrArg Value.bool (decide_eq_false q6)) (by kernel_rfl) fun S => ?_
  have hn2 : two ∉ sg2 := by
    intro hm
    simp only [sg2, List.mem_cons, List.not_mem_nil, or_false] at hm
    rcases hm with h | h | h | h | h | h | h
    · exact q0 h
    · exact q1 h
    · exact q2 h
    · exact q3 h
    · exact q4 h
    · exact q5 h
    · exact q6 h
  refine sy_run ⟨0, [13]⟩ 60 S fun bs aa w S => ?_
  refine sy_reg S fun S => ?_
  refine sy_ops 2 S fun bs aa w S => ?_
  refine sy_ex (op := .index 9 (.tmp 25) (.tmp 26)) (ty := 5) (v := .int .u8 ((l.getD at_ 0 : Nat) : Int)) S (by kernel_rfl) (ex_ixl (k := at_) Tryd.underlying9 (by kernel_rfl) (by kernel_rfl) hl hat) fun aa S => ?_
  refine sy_cast 27 S (by rw [hc] : Value.int .u8 ((l.getD at_ 0 : Nat) : Int) = .int .u8 (c : Int)) (by kernel_rfl) fun S => ?_
  refine sy_run ⟨0, [14]⟩ 60 S fun bs aa w S => ?_
  refine sy_reg S fun S => ?_
  refine sy_ops 1 S fun bs aa w S => ?_
  by_cases p0 : c = 40
  · refine sy_cast 29 S (congrArg Value.bool (decide_eq_true (by omega) : decide ((c : Int) = 40) = true)) (by kernel_rfl) fun S => ?_
    refine sy_run ⟨0, []⟩ 60 S fun bs aa w S => ?_
    have hv : sgN two (l.getD at_ 0) = 1 := by rw [hc]; unfold sgN; rw [if_neg hn2, if_pos (by rw [p0]; decide)]
    rw [hv]
    exact sy_ret S (by kernel_rfl) (by kernel_rfl) fun hg => ⟨rfl, bel_gr hg⟩
  refine sy_cast 29 S (congrArg Value.bool (decide_eq_false (by omega) : decide ((c : Int) = 40) = false)) (by kernel_rfl) fun S => ?_
  refine sy_run ⟨0, [15]⟩ 60 S fun bs aa w S => ?_
  refine sy_reg S fun S => ?_
  refine sy_ops 1 S fun bs aa w S => ?_
  by_cases p1 : c = 41
  · refine sy_cast 30 S (congrArg Value.bool (decide_eq_true (by omega) : decide ((c : Int) = 41) = true)) (by kernel_rfl) fun S => ?_
    refine sy_run ⟨0, []⟩ 60 S fun bs aa w S => ?_
    have hv : sgN two (l.getD at_ 0) = 1 := by rw [hc]; unfold sgN; rw [if_neg hn2, if_pos (by rw [p1]; decide)]
    rw [hv]
    exact sy_ret S (by kernel_rfl) (by kernel_rfl) fun hg => ⟨rfl, bel_gr hg⟩
  refine sy_cast 30 S (congrArg Value.bool (decide_eq_false (by omega) : decide ((c : Int) = 41) = false)) (by kernel_rfl) fun S => ?_
  refine sy_run ⟨0, [16]⟩ 60 S fun bs aa w S => ?_
  refine sy_reg S fun S => ?_
  refine sy_ops 1 S fun bs aa w S => ?_
  by_cases p2 : c = 93
  · refine sy_cast 31 S (congrArg Value.bool (decide_eq_true (by omega) : decide ((c : Int) = 93) = true)) (by kernel_rfl) fun S => ?_
    refine sy_run ⟨0, []⟩ 60 S fun bs aa w S => ?_
    have hv : sgN two (l.getD at_ 0) = 1 := by rw [hc]; unfold sgN; rw [if_neg hn2, if_pos (by rw [p2]; decide)]
    rw [hv]
    exact sy_ret S (by kernel_rfl) (by kernel_rfl) fun hg => ⟨rfl, bel_gr hg⟩
  refine sy_cast 31 S (congrArg Value.bool (decide_eq_false (by omega) : decide ((c : Int) = 93) = false)) (by kernel_rfl) fun S => ?_
  refine sy_run ⟨0, [17]⟩ 60 S fun bs aa w S => ?_
  refine sy_reg S fun S => ?_
  refine sy_ops 1 S fun bs aa w S => ?_
  by_cases p3 : c = 59
  · refine sy_cast 32 S (congrArg Value.bool (decide_eq_true (by omega) : decide ((c : Int) = 59) = true)) (by kernel_rfl) fun S => ?_
    refine sy_run ⟨0, []⟩ 60 S fun bs aa w S => ?_
    have hv : sgN two (l.getD at_ 0) = 1 := by rw [hc]; unfold sgN; rw [if_neg hn2, if_pos (by rw [p3]; decide)]
    rw [hv]
    exact sy_ret S (by kernel_rfl) (by kernel_rfl) fun hg => ⟨rfl, bel_gr hg⟩
  refine sy_cast 32 S (congrArg Value.bool (decide_eq_false (by omega) : decide ((c : Int) = 59) = false)) (by kernel_rfl) fun S => ?_
  refine sy_run ⟨0, [18]⟩ 60 S fun bs aa w S => ?_
  refine sy_reg S fun S => ?_
  refine sy_ops 1 S fun bs aa w S => ?_
  by_cases p4 : c = 44
  · refine sy_cast 33 S (congrArg Value.bool (decide_eq_true (by omega) : decide ((c : Int) = 44) = true)) (by kernel_rfl) fun S => ?_
    refine sy_run ⟨0, []⟩ 60 S fun bs aa w S => ?_
    have hv : sgN two (l.getD at_ 0) = 1 := by rw [hc]; unfold sgN; rw [if_neg hn2, if_pos (by rw [p4]; decide)]
    rw [hv]
    exact sy_ret S (by kernel_rfl) (by kernel_rfl) fun hg => ⟨rfl, bel_gr hg⟩
  refine sy_cast 33 S (congrArg Value.bool (decide_eq_false (by omega) : decide ((c : Int) = 44) = false)) (by kernel_rfl) fun S => ?_
  refine sy_run ⟨0, [19]⟩ 60 S fun bs aa w S => ?_
  refine sy_reg S fun S => ?_
  refine sy_ops 1 S fun bs aa w S => ?_
  by_cases p5 : c = 124
  · refine sy_cast 34 S (congrArg Value.bool (decide_eq_true (by omega) : decide ((c : Int) = 124) = true)) (by kernel_rfl) fun S => ?_
    refine sy_run ⟨0, []⟩ 60 S fun bs aa w S => ?_
    have hv : sgN two (l.getD at_ 0) = 1 := by rw [hc]; unfold sgN; rw [if_neg hn2, if_pos (by rw [p5]; decide)]
    rw [hv]
    exact sy_ret S (by kernel_rfl) (by kernel_rfl) fun hg => ⟨rfl, bel_gr hg⟩
  refine sy_cast 34 S (congrArg Value.bool (decide_eq_false (by omega) : decide ((c : Int) = 124) = false)) (by kernel_rfl) fun S => ?_
  refine sy_run ⟨0, [20]⟩ 60 S fun bs aa w S => ?_
  refine sy_reg S fun S => ?_
  refine sy_ops 1 S fun bs aa w S => ?_
  by_cases p6 : c = 61
  · refine sy_cast 35 S (congrArg Value.bool (decide_eq_true (by omega) : decide ((c : Int) = 61) = true)) (by kernel_rfl) fun S => ?_
    refine sy_run ⟨0, []⟩ 60 S fun bs aa w S => ?_
    have hv : sgN two (l.getD at_ 0) = 1 := by rw [hc]; unfold sgN; rw [if_neg hn2, if_pos (by rw [p6]; decide)]
    rw [hv]
    exact sy_ret S (by kernel_rfl) (by kernel_rfl) fun hg => ⟨rfl, bel_gr hg⟩
  refine sy_cast 35 S (congrArg Value.bool (decide_eq_false (by omega) : decide ((c : Int) = 61) = false)) (by kernel_rfl) fun S => ?_
  refine sy_run ⟨0, [21]⟩ 60 S fun bs aa w S => ?_
  refine sy_reg S fun S => ?_
  refine sy_ops 1 S fun bs aa w S => ?_
  by_cases p7 : c = 60
  · refine sy_cast 36 S (congrArg Value.bool (decide_eq_true (by omega) : decide ((c : Int) = 60) = true)) (by kernel_rfl) fun S => ?_
    refine sy_run ⟨0, []⟩ 60 S fun bs aa w S => ?_
    have hv : sgN two (l.getD at_ 0) = 1 := by rw [hc]; unfold sgN; rw [if_neg hn2, if_pos (by rw [p7]; decide)]
    rw [hv]
    exact sy_ret S (by kernel_rfl) (by kernel_rfl) fun hg => ⟨rfl, bel_gr hg⟩
  refine sy_cast 36 S (congrArg Value.bool (decide_eq_false (by omega) : decide ((c : Int) = 60) = false)) (by kernel_rfl) fun S => ?_
  refine sy_run ⟨0, [22]⟩ 60 S fun bs aa w S => ?_
  refine sy_reg S fun S => ?_
  refine sy_ops 1 S fun bs aa w S => ?_
  by_cases p8 : c = 43
  · refine sy_cast 37 S (congrArg Value.bool (decide_eq_true (by omega) : decide ((c : Int) = 43) = true)) (by kernel_rfl) fun S => ?_
    refine sy_run ⟨0, []⟩ 60 S fun bs aa w S => ?_
    have hv : sgN two (l.getD at_ 0) = 1 := by rw [hc]; unfold sgN; rw [if_neg hn2, if_pos (by rw [p8]; decide)]
    rw [hv]
    exact sy_ret S (by kernel_rfl) (by kernel_rfl) fun hg => ⟨rfl, bel_gr hg⟩
  refine sy_cast 37 S (congrArg Value.bool (decide_eq_false (by omega) : decide ((c : Int) = 43) = false)) (by kernel_rfl) fun S => ?_
  refine sy_run ⟨0, [23]⟩ 60 S fun bs aa w S => ?_
  refine sy_reg S fun S => ?_
  refine sy_ops 1 S fun bs aa w S => ?_
  by_cases p9 : c = 45
  · refine sy_cast 38 S (congrArg Value.bool (decide_eq_true (by omega) : decide ((c : Int) = 45) = true)) (by kernel_rfl) fun S => ?_
    refine sy_run ⟨0, []⟩ 60 S fun bs aa w S => ?_
    have hv : sgN two (l.getD at_ 0) = 1 := by rw [hc]; unfold sgN; rw [if_neg hn2, if_pos (by rw [p9]; decide)]
    rw [hv]
    exact sy_ret S (by kernel_rfl) (by kernel_rfl) fun hg => ⟨rfl, bel_gr hg⟩
  refine sy_cast 38 S (congrArg Value.bool (decide_eq_false (by omega) : decide ((c : Int) = 45) = false)) (by kernel_rfl) fun S => ?_
  refine sy_run ⟨0, [24]⟩ 60 S fun bs aa w S => ?_
  refine sy_reg S fun S => ?_
  refine sy_ops 1 S fun bs aa w S => ?_
  by_cases p10 : c = 42
  · refine sy_cast 39 S (congrArg Value.bool (decide_eq_true (by omega) : decide ((c : Int) = 42) = true)) (by kernel_rfl) fun S => ?_
    refine sy_run ⟨0, []⟩ 60 S fun bs aa w S => ?_
    have hv : sgN two (l.getD at_ 0) = 1 := by rw [hc]; unfold sgN; rw [if_neg hn2, if_pos (by rw [p10]; decide)]
    rw [hv]
    exact sy_ret S (by kernel_rfl) (by kernel_rfl) fun hg => ⟨rfl, bel_gr hg⟩
  refine sy_cast 39 S (congrArg Value.bool (decide_eq_false (by omega) : decide ((c : Int) = 42) = false)) (by kernel_rfl) fun S => ?_
  refine sy_run ⟨0, [25]⟩ 60 S fun bs aa w S => ?_
  refine sy_reg S fun S => ?_
  refine sy_ops 1 S fun bs aa w S => ?_
  by_cases p11 : c = 33
  · refine sy_cast 40 S (congrArg Value.bool (decide_eq_true (by omega) : decide ((c : Int) = 33) = true)) (by kernel_rfl) fun S => ?_
    refine sy_run ⟨0, []⟩ 60 S fun bs aa w S => ?_
    have hv : sgN two (l.getD at_ 0) = 1 := by rw [hc]; unfold sgN; rw [if_neg hn2, if_pos (by rw [p11]; decide)]
    rw [hv]
    exact sy_ret S (by kernel_rfl) (by kernel_rfl) fun hg => ⟨rfl, bel_gr hg⟩
  refine sy_cast 40 S (congrArg Value.bool (decide_eq_false (by omega) : decide ((c : Int) = 33) = false)) (by kernel_rfl) fun S => ?_
  refine sy_run ⟨0, []⟩ 60 S fun bs aa w S => ?_
  have hv : sgN two (l.getD at_ 0) = 0 := by rw [hc]; unfold sgN; rw [if_neg hn2, if_neg (by intro hm; simp only [sg1, List.mem_cons, List.not_mem_nil, or_false] at hm; omega)]
  rw [hv]
  exact sy_ret S (by kernel_rfl) (by kernel_rfl) fun hg => ⟨rfl, bel_gr hg⟩
set_option maxHeartbeats 8000000 in
theorem sign_t (w0 : World) (l : List Nat) (at_ : Nat) (hl : ∀ b ∈ l, b < 256) (hl3 : l.length ≤ 3000) (hat : at_ < l.length) : Calls Tryd.prog 21 #[.string (strOf l), .int .i64 (at_ : Int)] w0 (fun e w' => e = .returned (.int .i64 ((fstP (l.drop at_) sgL).length : Int)) ∧ Below w0.heap.size w0 w') := by
  have hw : (fstP (l.drop at_) sgL).length = sgN (twoL (l.drop at_)) (l.getD at_ 0) := by
    rw [List.drop_eq_getElem_cons hat, sgN_is]
    congr 1
    simp [List.getD, List.getElem?_eq_getElem hat]
  have h2 : ∀ b ∈ twoL (l.drop at_), b < 256 := fun b hb => by
    unfold twoL at hb
    split at hb
    · exact mem_drop256 hl at_ b (List.mem_of_mem_take hb)
    · cases hb
  obtain ⟨two, ht⟩ : ∃ two, twoL (l.drop at_) = two := ⟨_, rfl⟩
  rw [ht] at hw h2
  rw [hw]
  refine sy_enterF [] [] (by intro f hf; cases hf) Tryd.func21 rfl rfl fun aa S => ?_
  refine sy_run ⟨0, [2]⟩ 60 S fun bs aa w S => ?_
  refine sy_reg S fun S => ?_
  refine sy_ops 2 S fun bs aa w S => ?_
  refine sy_cast 7 S (congrArg (Value.int .i64) (by rw [IntKind.wrap_i64]; omega : IntKind.i64.wrap ((at_ : Int) + 2) = ((at_ + 2 : Nat) : Int))) (by kernel_rfl) fun S => ?_
  refine sy_ops 2 S fun bs aa w S => ?_
  refine sy_cast 9 S (congrArg (Value.int .i64) (by rw [strOf_size] : ((strOf l).size : Int) = (l.length : Int))) (by kernel_rfl) fun S => ?_
  refine sy_ops 1 S fun bs aa w S => ?_
  by_cases h : at_ + 2 ≤ l.length
  · refine sy_cast 10 S (congrArg Value.bool (decide_eq_true (by omega) : decide (((at_ + 2 : Nat) : Int) ≤ (l.length : Int)) = true)) (by kernel_rfl) fun S => ?_
    have e2 : (strOf l).extract at_ (at_ + 2) = strOf two := by
      rw [strOf_ext, ← ht]
      unfold twoL
      rw [if_pos (by rw [List.length_drop]; omega), List.drop_take, show at_ + 2 - at_ = 2 by omega]
    refine sy_run ⟨0, [3]⟩ 60 S fun bs aa w S => ?_
    refine sy_reg S fun S => ?_
    refine sy_ops 4 S fun bs aa w S => ?_
    refine sy_cast 14 S (congrArg (Value.int .i64) (by rw [IntKind.wrap_i64]; omega : IntKind.i64.wrap ((at_ : Int) + 2) = ((at_ + 2 : Nat) : Int))) (by kernel_rfl) fun S => ?_
    refine sy_ex (op := .slice 9 (.tmp 11) (some (.tmp 12)) (some (.tmp 14)) none) (ty := 9) (v := .string ((strOf l).extract at_ (at_ + 2))) S (by kernel_rfl) (ex_slS (l2 := some (.v (.int .i64 (at_ : Int)))) (h2 := some (.v (.int .i64 ((at_ + 2 : Nat) : Int)))) Tryd.underlying9 (by kernel_rfl) (by kernel_rfl) (by kernel_rfl) (fun W => slS_b (strOf l) at_ (at_ + 2) (by omega) (by rw [strOf_size]; omega) W)) fun aa S => ?_
    refine sy_cast 15 S (congrArg Value.string e2) (by kernel_rfl) fun S => ?_
    refine sy_run ⟨0, [4]⟩ 60 S fun bs aa w S => ?_
    have S2 := S.to [] (snS l two at_) (by kernel_rfl) (by kernel_rfl) (by kernel_rfl) (by kernel_rfl) (by kernel_rfl)
    refine sy_at2 (k' := sn4K) (by kernel_rfl) ?_
    exact sn4 w0 l two at_ hl h2 hat aa w S2
  · refine sy_cast 10 S (congrArg Value.bool (decide_eq_false (by omega) : decide (((at_ + 2 : Nat) : Int) ≤ (l.length : Int)) = false)) (by kernel_rfl) fun S => ?_
    have e2 : ByteArray.empty = strOf two := by
      rw [← ht]
      unfold twoL
      rw [if_neg (by rw [List.length_drop]; omega)]
      rfl
    refine sy_run ⟨0, [4]⟩ 60 S fun bs aa w S => ?_
    refine sy_cast 5 S (congrArg Value.string e2) (by kernel_rfl) fun S => ?_
    have S2 := S.to [] (snS l two at_) (by kernel_rfl) (by kernel_rfl) (by kernel_rfl) (by kernel_rfl) (by kernel_rfl)
    refine sy_at2 (k' := sn4K) (by kernel_rfl) ?_
    exact sn4 w0 l two at_ hl h2 hat aa w S2
end Go.Proofs.YthkgmahkmflfkaaDoor
