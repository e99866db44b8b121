
/-
  Layer 27: whose turn it is, told a second time.
-/
import Derived.Test.YtfkmcibglaiakaaDoorRows
import Derived.Test.YtfkmcibglaiakaaDoorBase
import Derived.Test.YtfkmcibglaiakaaDoorScP
import Derived.WalkKit
namespace Go.Proofs.YtfkmcibglaiakaaDoor
open Go Go.RowKit SZ
set_option linter.unusedVariables false
set_option linter.unusedSimpArgs false
set_option maxRecDepth 100000
attribute [local irreducible] post GD Nxt NxtAll
theorem next_1 {on : List Bool} {last : Int} {j : Nat} (h0 : nxB on last ≤ j) (hj : j < on.length) (h1 : on.getD j false = true) (h2 : ∀ i, nxB on last ≤ i → i < j → on.getD i false = false) : nextS on last = (j : Int) := by
  have e : ∀ i, i ≤ j - nxB on last → (nxB on last + i) % on.length = nxB on last + i := fun i hi => Nat.mod_eq_of_lt (by omega)
  have h := nxG_hit (on := on) (s := nxB on last) (k0 := j - nxB on last) (by rw [e _ (Nat.le_refl _), show nxB on last + (j - nxB on last) = j by omega]; exact h1) on.length 0 (Nat.zero_le _) (by omega) (fun i _ hi => by rw [e i (by omega)]; exact h2 _ (by omega) (by omega))
  unfold nextS
  rw [h, e _ (Nat.le_refl _), show nxB on last + (j - nxB on last) = j by omega]
theorem nxB_le (on : List Bool) (last : Int) : nxB on last ≤ on.length := by unfold nxB; split <;> omega
theorem next_2 {on : List Bool} {last : Int} {j : Nat} (hj : j < on.length) (h1 : on.getD j false = true) (h0 : nxB on last = 0 ∨ ∀ i, nxB on last ≤ i → i < on.length → on.getD i false = false) (h2 : ∀ i, i < j → on.getD i false = false) : nextS on last = (j : Int) := by
  rcases h0 with h0 | h0
  · exact next_1 (by omega) hj h1 (fun i _ hi => h2 i hi)
  · have hb := nxB_le on last
    have hjb : j < nxB on last := by
      rcases Nat.lt_or_ge j (nxB on last) with q | q
      · exact q
      · rw [h0 j q hj] at h1; cases h1
    have e1 : ∀ i, i < on.length - nxB on last → (nxB on last + i) % on.length = nxB on last + i := fun i hi => Nat.mod_eq_of_lt (by omega)
    have e2 : ∀ i, i < on.length → (nxB on last + (on.length - nxB on last + i)) % on.length = i := fun i hi => by
      rw [show nxB on last + (on.length - nxB on last + i) = i + on.length by omega, Nat.add_mod_right, Nat.mod_eq_of_lt hi]
    have h := nxG_hit (on := on) (s := nxB on last) (k0 := on.length - nxB on last + j) (by rw [e2 j hj]; exact h1) on.length 0 (Nat.zero_le _) (by omega) (fun i _ hi => by
      rcases Nat.lt_or_ge i (on.length - nxB on last) with q | q
      · rw [e1 i q]; exact h0 _ (by omega) (by omega)
      · have e3 := e2 (i - (on.length - nxB on last)) (by omega)
        rw [show on.length - nxB on last + (i - (on.length - nxB on last)) = i by omega] at e3
        rw [e3]
        exact h2 _ (by omega))
    unfold nextS
    rw [h, e2 j hj]
noncomputable def rn2C : Cfg := ⟨goZ 60 [0] [.code (bodyOf Tryd.f18)], ⟨0, [], []⟩⟩
noncomputable def rn1C : Cfg := ⟨goZ 60 [1] [.code (bodyOf Tryd.f18)], ⟨0, [], []⟩⟩
noncomputable def rn1S (on : List Bool) (a : Option Addr) (cp j : Nat) : SS := ⟨39, [(0, .v (.slice a on.length cp)), (5, .v (.int .i64 (j : Int)))], []⟩
noncomputable def rn2S (on : List Bool) (a : Option Addr) (cp j : Nat) : SS := ⟨39, [(0, .v (.slice a on.length cp)), (6, .v (.int .i64 (j : Int)))], []⟩
set_option maxHeartbeats 8000000 in
theorem rn2_e (w0 : World) (on : List Bool) (a : Option Addr) (cp b o : Nat) (ha : on.length = 0 ∨ a = some ⟨b, o, none⟩) (hl : on.length ≤ 100000) (last : Int) (h0 : nxB on last = 0 ∨ ∀ i, nxB on last ≤ i → i < on.length → on.getD i false = false) (m : Nat) (hv : ∀ i, i < on.length → on.getD i false = false) (aa : Act) (w : World) (S : Sy w0 [] [] (rn2S on a cp (on.length)) [rfOn b o on] aa w) : post Tryd.prog (.rnd (m + 1) (bodyL rn2C) :: rn2C.k.tail) (bodyPost Tryd.prog Tryd.f18 (fun e w' => e = .returned (.int .i64 (nextS on last)) ∧ Below w0.heap.size w0 w')) .normal aa w := by
  refine sy_run (c := ⟨(.rnd (m + 1) (bodyL rn2C) :: rn2C.k.tail), rn2S on a cp (on.length)⟩) ⟨0, [8]⟩ 50 S fun bs aa w S => ?_
  refine sy_reg S fun S => ?_
  refine sy_ops 4 S fun bs aa w S => ?_
  refine sy_cast 31 S (congrArg Value.bool (decide_eq_false (by omega) : decide ((on.length : Int) < (on.length : Int)) = false)) (by kernel_rfl) fun S => ?_
  refine sy_run ⟨0, []⟩ 60 S fun bs aa w S => ?_
  rw [next_none last (cntF_none _ hv)]
  exact sy_ret S (by kernel_rfl) (by kernel_rfl) fun hg => ⟨rfl, bel_gr hg⟩
set_option maxHeartbeats 8000000 in
theorem rn2_s (w0 : World) (on : List Bool) (a : Option Addr) (cp b o : Nat) (ha : on.length = 0 ∨ a = some ⟨b, o, none⟩) (hl : on.length ≤ 100000) (last : Int) (h0 : nxB on last = 0 ∨ ∀ i, nxB on last ≤ i → i < on.length → on.getD i false = false) (m j : Nat) (hj : j < on.length) (hv : ∀ i, i < j → on.getD i false = false) (ih : on.getD j false = false → ∀ (aa : Act) (w : World) (S : Sy w0 [] [] (rn2S on a cp (j + 1)) [rfOn b o on] aa w), post Tryd.prog (.rnd (m) (bodyL rn2C) :: rn2C.k.tail) (bodyPost Tryd.prog Tryd.f18 (fun e w' => e = .returned (.int .i64 (nextS on last)) ∧ Below w0.heap.size w0 w')) .normal aa w) (aa : Act) (w : World) (S : Sy w0 [] [] (rn2S on a cp (j)) [rfOn b o on] aa w) : post Tryd.prog (.rnd (m + 1) (bodyL rn2C) :: rn2C.k.tail) (bodyPost Tryd.prog Tryd.f18 (fun e w' => e = .returned (.int .i64 (nextS on last)) ∧ Below w0.heap.size w0 w')) .normal aa w := by
  refine sy_run (c := ⟨(.rnd (m + 1) (bodyL rn2C) :: rn2C.k.tail), rn2S on a cp (j)⟩) ⟨0, [8]⟩ 50 S fun bs aa w S => ?_
  refine sy_reg S fun S => ?_
  refine sy_ops 4 S fun bs aa w S => ?_
  refine sy_cast 31 S (congrArg Value.bool (decide_eq_true (by omega) : decide ((j : Int) < (on.length : Int)) = true)) (by kernel_rfl) fun S => ?_
  refine sy_run ⟨0, [10]⟩ 60 S fun bs aa w S => ?_
  refine sy_reg S fun S => ?_
  refine sy_ops 2 S fun bs aa w S => ?_
  refine sy_ix (b := b) (off := o) (len := on.length) (n := j) (size := 1) (i := (j : Int)) S (by rw [← ha.resolve_left (by omega)]; kernel_rfl) rfl hj fun aa S => ?_
  cases hon : on.getD j false with
  | true =>
    refine sy_ldo S (ld_at (ty := 4) (v := .bool true) (b := b) (off := o + j * 1) (by kernel_rfl) (by rw [Nat.mul_one]; have q := S.fact (f := rfOn b o on) (by simp) j hj; rw [hon] at q; exact q)) (by kernel_rfl) fun aa S => ?_
    refine sy_run ⟨0, []⟩ 60 S fun bs aa w S => ?_
    rw [next_2 hj hon h0 hv]
    exact sy_ret S (by kernel_rfl) (by kernel_rfl) fun hg => ⟨rfl, bel_gr hg⟩
  | false =>
    refine sy_ldo S (ld_at (ty := 4) (v := .bool false) (b := b) (off := o + j * 1) (by kernel_rfl) (by rw [Nat.mul_one]; have q := S.fact (f := rfOn b o on) (by simp) j hj; rw [hon] at q; exact q)) (by kernel_rfl) fun aa S => ?_
    refine sy_run ⟨0, [9]⟩ 60 S fun bs aa w S => ?_
    refine sy_reg S fun S => ?_
    refine sy_ops 2 S fun bs aa w S => ?_
    refine sy_cast 33 S (congrArg (Value.int .i64) (by rw [IntKind.wrap_i64]; omega : IntKind.i64.wrap ((j : Int) + 1) = ((j + 1 : Nat) : Int))) (by kernel_rfl) fun S => ?_
    refine sy_run ⟨0, [999]⟩ 50 S fun bs aa w S => ?_
    have S2 := S.to [] (rn2S on a cp (j + 1)) (by kernel_rfl) (by kernel_rfl) (by kernel_rfl) (by kernel_rfl) (by kernel_rfl)
    refine sy_at2 (k' := (.rnd (m) (bodyL rn2C) :: rn2C.k.tail)) (by kernel_rfl) ?_
    exact ih hon aa w S2
theorem rn2_a (w0 : World) (on : List Bool) (a : Option Addr) (cp b o : Nat) (ha : on.length = 0 ∨ a = some ⟨b, o, none⟩) (hl : on.length ≤ 100000) (last : Int) (h0 : nxB on last = 0 ∨ ∀ i, nxB on last ≤ i → i < on.length → on.getD i false = false) : ∀ (m j : Nat), j + m = on.length → ∀ (hv : ∀ i, i < j → on.getD i false = false) (aa : Act) (w : World) (S : Sy w0 [] [] (rn2S on a cp (j)) [rfOn b o on] aa w), post Tryd.prog (.rnd (m + 1) (bodyL rn2C) :: rn2C.k.tail) (bodyPost Tryd.prog Tryd.f18 (fun e w' => e = .returned (.int .i64 (nextS on last)) ∧ Below w0.heap.size w0 w')) .normal aa w := by
  intro m
  induction m with
  | zero => intro j hj hv aa w S; obtain rfl : j = on.length := by omega
            exact rn2_e w0 on a cp b o ha hl last h0 0 hv aa w S
  | succ m ih => intro j hj hv aa w S; exact rn2_s w0 on a cp b o ha hl last h0 (m + 1) j (by omega) hv (fun hon aa w S => ih (j + 1) (by omega) (fun i hi => by rcases Nat.lt_or_ge i j with h | h; exact hv i h; rw [show i = j by omega]; exact hon) aa w S) aa w S
set_option maxHeartbeats 8000000 in
theorem rn1_e (w0 : World) (on : List Bool) (a : Option Addr) (cp b o : Nat) (ha : on.length = 0 ∨ a = some ⟨b, o, none⟩) (hl : on.length ≤ 100000) (last : Int)  (m : Nat) (hb : nxB on last ≤ on.length) (hv : ∀ i, nxB on last ≤ i → i < on.length → on.getD i false = false) (aa : Act) (w : World) (S : Sy w0 [] [] (rn1S on a cp (on.length)) [rfOn b o on] aa w) : post Tryd.prog (.rnd (m + 1) (bodyL rn1C) :: rn1C.k.tail) (bodyPost Tryd.prog Tryd.f18 (fun e w' => e = .returned (.int .i64 (nextS on last)) ∧ Below w0.heap.size w0 w')) .normal aa w := by
  refine sy_run (c := ⟨(.rnd (m + 1) (bodyL rn1C) :: rn1C.k.tail), rn1S on a cp (on.length)⟩) ⟨0, [3]⟩ 50 S fun bs aa w S => ?_
  refine sy_reg S fun S => ?_
  refine sy_ops 4 S fun bs aa w S => ?_
  refine sy_cast 20 S (congrArg Value.bool (decide_eq_false (by omega) : decide ((on.length : Int) < (on.length : Int)) = false)) (by kernel_rfl) fun S => ?_
  refine sy_run ⟨0, []⟩ 60 S fun bs aa w S => ?_
  have S2 := S.to [] (rn2S on a cp 0) (by kernel_rfl) (by kernel_rfl) (by kernel_rfl) (by kernel_rfl) (by kernel_rfl)
  refine sy_loop (on.length + 1) (by kernel_rfl) ?_
  refine sy_at2 (k' := (.rnd (on.length + 1) (bodyL rn2C) :: rn2C.k.tail)) (by kernel_rfl) ?_
  exact rn2_a w0 on a cp b o ha hl last (Or.inr hv) on.length 0 (by omega) (fun i hi => absurd hi (Nat.not_lt_zero _)) aa w S2
set_option maxHeartbeats 8000000 in
theorem rn1_s (w0 : World) (on : List Bool) (a : Option Addr) (cp b o : Nat) (ha : on.length = 0 ∨ a = some ⟨b, o, none⟩) (hl : on.length ≤ 100000) (last : Int)  (m j : Nat) (hj : j < on.length) (hb : nxB on last ≤ j) (hv : ∀ i, nxB on last ≤ i → i < j → on.getD i false = false) (ih : on.getD j false = false → ∀ (aa : Act) (w : World) (S : Sy w0 [] [] (rn1S on a cp (j + 1)) [rfOn b o on] aa w), post Tryd.prog (.rnd (m) (bodyL rn1C) :: rn1C.k.tail) (bodyPost Tryd.prog Tryd.f18 (fun e w' => e = .returned (.int .i64 (nextS on last)) ∧ Below w0.heap.size w0 w')) .normal aa w) (aa : Act) (w : World) (S : Sy w0 [] [] (rn1S on a cp (j)) [rfOn b o on] aa w) : post Tryd.prog (.rnd (m + 1) (bodyL rn1C) :: rn1C.k.tail) (bodyPost Tryd.prog Tryd.f18 (fun e w' => e = .returned (.int .i64 (nextS on last)) ∧ Below w0.heap.size w0 w')) .normal aa w := by
  refine sy_run (c := ⟨(.rnd (m + 1) (bodyL rn1C) :: rn1C.k.tail), rn1S on a cp (j)⟩) ⟨0, [3]⟩ 50 S fun bs aa w S => ?_
  refine sy_reg S fun S => ?_
  refine sy_ops 4 S fun bs aa w S => ?_
  refine sy_cast 20 S (congrArg Value.bool (decide_eq_true (by omega) : decide ((j : Int) < (on.length : Int)) = true)) (by kernel_rfl) fun S => ?_
  refine sy_run ⟨0, [5]⟩ 60 S fun bs aa w S => ?_
  refine sy_reg S fun S => ?_
  refine sy_ops 2 S fun bs aa w S => ?_
  refine sy_ix (b := b) (off := o) (len := on.length) (n := j) (size := 1) (i := (j : Int)) S (by rw [← ha.resolve_left (by omega)]; kernel_rfl) rfl hj fun aa S => ?_
  cases hon : on.getD j false with
  | true =>
    refine sy_ldo S (ld_at (ty := 4) (v := .bool true) (b := b) (off := o + j * 1) (by kernel_rfl) (by rw [Nat.mul_one]; have q := S.fact (f := rfOn b o on) (by simp) j hj; rw [hon] at q; exact q)) (by kernel_rfl) fun aa S => ?_
    refine sy_run ⟨0, []⟩ 60 S fun bs aa w S => ?_
    rw [next_1 hb hj hon hv]
    exact sy_ret S (by kernel_rfl) (by kernel_rfl) fun hg => ⟨rfl, bel_gr hg⟩
  | false =>
    refine sy_ldo S (ld_at (ty := 4) (v := .bool false) (b := b) (off := o + j * 1) (by kernel_rfl) (by rw [Nat.mul_one]; have q := S.fact (f := rfOn b o on) (by simp) j hj; rw [hon] at q; exact q)) (by kernel_rfl) fun aa S => ?_
    refine sy_run ⟨0, [4]⟩ 60 S fun bs aa w S => ?_
    refine sy_reg S fun S => ?_
    refine sy_ops 2 S fun bs aa w S => ?_
    refine sy_cast 22 S (congrArg (Value.int .i64) (by rw [IntKind.wrap_i64]; omega : IntKind.i64.wrap ((j : Int) + 1) = ((j + 1 : Nat) : Int))) (by kernel_rfl) fun S => ?_
    refine sy_run ⟨0, [999]⟩ 50 S fun bs aa w S => ?_
    have S2 := S.to [] (rn1S on a cp (j + 1)) (by kernel_rfl) (by kernel_rfl) (by kernel_rfl) (by kernel_rfl) (by kernel_rfl)
    refine sy_at2 (k' := (.rnd (m) (bodyL rn1C) :: rn1C.k.tail)) (by kernel_rfl) ?_
    exact ih hon aa w S2
theorem rn1_a (w0 : World) (on : List Bool) (a : Option Addr) (cp b o : Nat) (ha : on.length = 0 ∨ a = some ⟨b, o, none⟩) (hl : on.length ≤ 100000) (last : Int)  : ∀ (m j : Nat), j + m = on.length → ∀ (hb : nxB on last ≤ j) (hv : ∀ i, nxB on last ≤ i → i < j → on.getD i false = false) (aa : Act) (w : World) (S : Sy w0 [] [] (rn1S on a cp (j)) [rfOn b o on] aa w), post Tryd.prog (.rnd (m + 1) (bodyL rn1C) :: rn1C.k.tail) (bodyPost Tryd.prog Tryd.f18 (fun e w' => e = .returned (.int .i64 (nextS on last)) ∧ Below w0.heap.size w0 w')) .normal aa w := by
  intro m
  induction m with
  | zero => intro j hj hb hv aa w S; obtain rfl : j = on.length := by omega
            exact rn1_e w0 on a cp b o ha hl last  0 hb hv aa w S
  | succ m ih => intro j hj hb hv aa w S; exact rn1_s w0 on a cp b o ha hl last  (m + 1) j (by omega) hb hv (fun hon aa w S => ih (j + 1) (by omega) (by omega) (fun i hi hi2 => by rcases Nat.lt_or_ge i j with h | h; exact hv i hi h; rw [show i = j by omega]; exact hon) aa w S) aa w S
set_option maxHeartbeats 8000000 in
theorem rnext_t (w0 : World) (on : List Bool) (a : Option Addr) (cp b o : Nat) (ha : on.length = 0 ∨ a = some ⟨b, o, none⟩) (hl : on.length ≤ 100000) (hAt : OnAt w0 b o on) (last : Int) : Calls Tryd.prog 18 #[(.slice a on.length cp), .int .i64 last] w0 (fun e w' => e = .returned (.int .i64 (nextS on last)) ∧ Below w0.heap.size w0 w') := by
  refine sy_enterF [] [rfOn b o on] (by intro f hf; simp only [List.mem_singleton] at hf; subst hf; exact hAt) Tryd.func18 rfl rfl fun aa S => ?_
  refine sy_run ⟨0, [1]⟩ 60 S fun bs aa w S => ?_
  refine sy_reg S fun S => ?_
  refine sy_ops 2 S fun bs aa w S => ?_
  by_cases h1 : last < 0
  · have hb : nxB on last = 0 := if_pos (Or.inl h1)
    refine sy_cast 8 S (congrArg Value.bool (decide_eq_false (by omega) : decide (last ≥ 0) = false)) (by kernel_rfl) fun S => ?_
    refine sy_run ⟨0, []⟩ 60 S fun bs aa w S => ?_
    have S2 := S.to [] (rn2S on a cp 0) (by kernel_rfl) (by kernel_rfl) (by kernel_rfl) (by kernel_rfl) (by kernel_rfl)
    refine sy_loop (on.length + 1) (by kernel_rfl) ?_
    refine sy_at2 (k' := (.rnd (on.length + 1) (bodyL rn2C) :: rn2C.k.tail)) (by kernel_rfl) ?_
    exact rn2_a w0 on a cp b o ha hl last (Or.inl hb) on.length 0 (by omega) (fun i hi => absurd hi (Nat.not_lt_zero _)) aa w S2
  refine sy_cast 8 S (congrArg Value.bool (decide_eq_true (by omega) : decide (last ≥ 0) = true)) (by kernel_rfl) fun S => ?_
  refine sy_ops 5 S fun bs aa w S => ?_
  by_cases h2 : (on.length : Int) ≤ last
  · have hb : nxB on last = 0 := if_pos (Or.inr h2)
    refine sy_cast 13 S (congrArg Value.bool (decide_eq_false (by omega) : decide (last < (on.length : Int)) = false)) (by kernel_rfl) fun S => ?_
    refine sy_run ⟨0, []⟩ 60 S fun bs aa w S => ?_
    have S2 := S.to [] (rn2S on a cp 0) (by kernel_rfl) (by kernel_rfl) (by kernel_rfl) (by kernel_rfl) (by kernel_rfl)
    refine sy_loop (on.length + 1) (by kernel_rfl) ?_
    refine sy_at2 (k' := (.rnd (on.length + 1) (bodyL rn2C) :: rn2C.k.tail)) (by kernel_rfl) ?_
    exact rn2_a w0 on a cp b o ha hl last (Or.inl hb) on.length 0 (by omega) (fun i hi => absurd hi (Nat.not_lt_zero _)) aa w S2
  obtain ⟨l, rfl⟩ := Int.eq_ofNat_of_zero_le (show 0 ≤ last by omega)
  have hb : nxB on (l : Int) = l + 1 := by
    unfold nxB
    rw [if_neg (by omega), Int.toNat_natCast]
  refine sy_cast 13 S (congrArg Value.bool (decide_eq_true (by omega) : decide ((l : Int) < (on.length : Int)) = true)) (by kernel_rfl) fun S => ?_
  refine sy_run ⟨0, [2]⟩ 60 S fun bs aa w S => ?_
  refine sy_reg S fun S => ?_
  refine sy_ops 2 S fun bs aa w S => ?_
  refine sy_cast 16 S (congrArg (Value.int .i64) (by rw [IntKind.wrap_i64]; omega : IntKind.i64.wrap ((l : Int) + 1) = ((l + 1 : Nat) : Int))) (by kernel_rfl) fun S => ?_
  refine sy_run ⟨0, []⟩ 60 S fun bs aa w S => ?_
  have S2 := S.to [] (rn1S on a cp (l + 1)) (by kernel_rfl) (by kernel_rfl) (by kernel_rfl) (by kernel_rfl) (by kernel_rfl)
  refine sy_loop (on.length - (l + 1) + 1) (by kernel_rfl) ?_
  refine sy_at2 (k' := (.rnd (on.length - (l + 1) + 1) (bodyL rn1C) :: rn1C.k.tail)) (by kernel_rfl) ?_
  exact rn1_a w0 on a cp b o ha hl (l : Int) (on.length - (l + 1)) (l + 1) (by omega) (by omega) (fun i hi hi2 => by omega) aa w S2
end Go.Proofs.YtfkmcibglaiakaaDoor
