
/-
  Layer 22: a right device.
-/
import Derived.Test.YtnlcjlhcghgaoaaRows
import Derived.Test.YtnlcjlhcghgaoaaBase
import Derived.Test.YtnlcjlhcghgaoaaDk0
import Derived.WalkKit
namespace Go.Proofs.Ytnlcjlhcghgaoaa
open Go Go.RowKit SZ
set_option linter.unusedVariables false
set_option linter.unusedSimpArgs false
set_option maxRecDepth 100000
attribute [local irreducible] post GD Nxt NxtAll
/-- What is left to be done at a loop of a text. -/
def goZ : Nat → List Nat → List It → List It
  | n + 1, ch, .code (.seq x y) :: k => goZ n ch (.code x :: .code y :: k)
  | n + 1, ch, .code (.block id c) :: k => goZ n ch (.code c :: .blk id :: k)
  | n + 1, ch, .code (.region _ _ _) :: k => goZ n ch k
  | n + 1, ch, .code .skip :: k => goZ n ch k
  | n + 1, ch, .blk _ :: k => goZ n ch k
  | n + 1, c :: ch, .code (.cond _ x y) :: k => goZ n ch (.code (if c = 1 then x else y) :: k)
  | n + 1, _ :: ch, .code (.loop _) :: k => goZ n ch k
  | _, _, k => k
theorem sy_at2 {P : Program} {k k' : List It} (he : k = k') {Q : Exit → Act → World → Prop} {a : Act} {w : World} (h : post P k' Q .normal a w) : post P k Q .normal a w := by rw [he]; exact h
theorem ld_was {w : World} {b o j : Nat} {W : List (Int × ByteArray)} (h : WasAt w b o W) (hj : j < W.length) : (loadVar 46 ⟨b, o + j * 2, none⟩).run Try.prog w = .ok (.agg #[.int .i64 (W.getD j (0, ByteArray.empty)).1, .string (W.getD j (0, ByteArray.empty)).2]) w := by
  obtain ⟨h0, h1⟩ := h j hj
  refine run_loadVar_mid w b (o + j * 2) 46 [.int .i64 (W.getD j (0, ByteArray.empty)).1, .string (W.getD j (0, ByteArray.empty)).2] _ ?_ Try.underlying46 rfl (by kernel_rfl)
  intro i x hi
  match i, hi with
  | 0, hi => simp at hi; subst hi; exact h0
  | 1, hi => simp at hi; subst hi; exact h1
  | i + 2, hi => simp at hi
/-- A right device. -/
structure Dk.right (d : Dk) : Prop where
  s : ∀ j, j < d.sl → (d.S.getD j ByteArray.empty).size = 32
  w : ∀ j, j < d.tl → (0 ≤ (d.W.getD j (0, ByteArray.empty)).1 ∧ (d.W.getD j (0, ByteArray.empty)).1 < d.sl) ∧ (d.W.getD j (0, ByteArray.empty)).2.size = 32
def Dk.cs (d : Dk) : List Value := [.slice d.sa d.sl d.sc, .slice d.ta d.tl d.tc]
noncomputable def rt1 : Cfg := ⟨goZ 60 [0] [.code (bodyOf Try.f12)], ⟨0, [], []⟩⟩
noncomputable def rt2 : Cfg := ⟨goZ 60 [0, 9] [.code (bodyOf Try.f12)], ⟨0, [], []⟩⟩
noncomputable def rtS1 (d : Dk) (j : Nat) : SS := ⟨41, [(1, .p 0 0), (12, .v (.slice d.sa d.sl d.sc)), (13, .v (.int .i64 (d.sl : Int))), (14, .v (.int .i64 (j : Int)))], [⟨25, d.cs⟩]⟩
noncomputable def rtS2 (d : Dk) (j : Nat) : SS := ⟨41, [(1, .p 0 0), (23, .v (.slice d.ta d.tl d.tc)), (24, .v (.int .i64 (d.tl : Int))), (25, .v (.int .i64 (j : Int)))], [⟨25, d.cs⟩]⟩
set_option maxHeartbeats 8000000 in
theorem r2_end (w0 : World) (d : Dk) (hd : d.ok) (hr : d.right) (n : Nat) (bb : Nat) (aa : Act) (w : World) (S : Sy w0 [] [bb] (rtS2 d d.tl) [rfSt d.b d.o d.S, rfWs d.c d.p d.W] aa w) : post Try.prog (.rnd (n + 1) (bodyL rt2) :: rt2.k.tail) (bodyPost Try.prog Try.f12 fun e w' => e = .returned (.bool true) ∧ Below w0.heap.size w0 w') .normal aa w := by
  have h1 := hd.l2
  refine sy_run (c := ⟨(.rnd (n + 1) (bodyL rt2) :: rt2.k.tail), rtS2 d d.tl⟩) ⟨0, [10]⟩ 50 S fun bs aa w S => ?_
  refine sy_reg S fun S => ?_
  refine sy_ops 1 S fun bs aa w S => ?_
  refine sy_cast 26 S (congrArg Value.bool (by simp : decide ((d.tl : Int) < (d.tl : Int)) = false)) (by kernel_rfl) fun S => ?_
  refine sy_run ⟨0, []⟩ 60 S fun bs aa w S => ?_
  exact sy_ret S (by kernel_rfl) (by kernel_rfl) fun hg => ⟨rfl, bel_gr hg⟩
set_option maxHeartbeats 8000000 in
theorem r2_step (w0 : World) (d : Dk) (hd : d.ok) (hr : d.right) (n j : Nat) (hj : j < d.tl) (ih : ∀ (bb : Nat) (aa : Act) (w : World) (S : Sy w0 [] [bb] (rtS2 d (j + 1)) [rfSt d.b d.o d.S, rfWs d.c d.p d.W] aa w), post Try.prog (.rnd (n) (bodyL rt2) :: rt2.k.tail) (bodyPost Try.prog Try.f12 fun e w' => e = .returned (.bool true) ∧ Below w0.heap.size w0 w') .normal aa w) (bb : Nat) (aa : Act) (w : World) (S : Sy w0 [] [bb] (rtS2 d j) [rfSt d.b d.o d.S, rfWs d.c d.p d.W] aa w) : post Try.prog (.rnd (n + 1) (bodyL rt2) :: rt2.k.tail) (bodyPost Try.prog Try.f12 fun e w' => e = .returned (.bool true) ∧ Below w0.heap.size w0 w') .normal aa w := by
  have h1 := hd.l2
  obtain ⟨hw1, hw2⟩ := hr.w j hj
  refine sy_run (c := ⟨(.rnd (n + 1) (bodyL rt2) :: rt2.k.tail), rtS2 d j⟩) ⟨0, [10]⟩ 50 S fun bs aa w S => ?_
  refine sy_reg S fun S => ?_
  refine sy_ops 1 S fun bs aa w S => ?_
  refine sy_cast 26 S (congrArg Value.bool (by simp; omega : decide ((j : Int) < (d.tl : Int)) = true)) (by kernel_rfl) fun S => ?_
  refine sy_run ⟨0, [11]⟩ 60 S fun bs aa w S => ?_
  refine sy_reg S fun S => ?_
  refine sy_ix (b := d.c) (off := d.p) (len := d.tl) (n := j) (size := 2) (i := (j : Int)) S (by rw [← hd.hw.resolve_left (by omega)]; kernel_rfl) rfl hj fun aa S => ?_
  refine sy_ldo S (ld_was (j := j) (S.fact (f := rfWs d.c d.p d.W) (by simp)) (by rw [hd.hW]; exact hj)) (by kernel_rfl) fun aa S => ?_
  refine sy_run ⟨0, []⟩ 60 S fun bs aa w S => ?_
  refine sy_call1 S (has_t d (d.W.getD j (0, ByteArray.empty)).1 hw1 w) (by kernel_rfl) fun aa w hb S => ?_
  refine sy_ops 6 S fun bs aa w S => ?_
  refine sy_cast 38 S (congrArg Value.bool (by rw [hw2]; rfl : (!decide (((d.W.getD j (0, ByteArray.empty)).2.size : Int) = 32)) = false)) (by kernel_rfl) fun S => ?_
  refine sy_run ⟨0, [14]⟩ 60 S fun bs aa w S => ?_
  refine sy_reg S fun S => ?_
  refine sy_ops 1 S fun bs aa w S => ?_
  refine sy_cast 40 S (congrArg (Value.int .i64) (by rw [IntKind.wrap_i64]; omega : IntKind.i64.wrap ((j : Int) + 1) = ((j + 1 : Nat) : Int))) (by kernel_rfl) fun S => ?_
  refine sy_run ⟨0, [999]⟩ 50 S fun bs aa w S => ?_
  have S2 := S.to [0] (rtS2 d (j + 1)) (by kernel_rfl) (by kernel_rfl) (by kernel_rfl) (by kernel_rfl) (by kernel_rfl)
  refine sy_at2 (k' := (.rnd (n) (bodyL rt2) :: rt2.k.tail)) (by kernel_rfl) ?_
  exact ih _ aa w S2
theorem r2_all (w0 : World) (d : Dk) (hd : d.ok) (hr : d.right) : ∀ (r j : Nat), j + r = d.tl → ∀ (bb : Nat) (aa : Act) (w : World) (S : Sy w0 [] [bb] (rtS2 d j) [rfSt d.b d.o d.S, rfWs d.c d.p d.W] aa w), post Try.prog (.rnd (r + 1) (bodyL rt2) :: rt2.k.tail) (bodyPost Try.prog Try.f12 fun e w' => e = .returned (.bool true) ∧ Below w0.heap.size w0 w') .normal aa w := by
  intro r
  induction r with
  | zero => intro j hj bb aa w S; obtain rfl : j = d.tl := by omega
            exact r2_end w0 d hd hr 0 bb aa w S
  | succ r ih => intro j hj bb aa w S; exact r2_step w0 d hd hr (r + 1) j (by omega) (fun bb aa w S => ih (j + 1) (by omega) bb aa w S) bb aa w S
set_option maxHeartbeats 8000000 in
theorem r1_end (w0 : World) (d : Dk) (hd : d.ok) (hr : d.right) (n : Nat) (bb : Nat) (aa : Act) (w : World) (S : Sy w0 [] [bb] (rtS1 d d.sl) [rfSt d.b d.o d.S, rfWs d.c d.p d.W] aa w) : post Try.prog (.rnd (n + 1) (bodyL rt1) :: rt1.k.tail) (bodyPost Try.prog Try.f12 fun e w' => e = .returned (.bool true) ∧ Below w0.heap.size w0 w') .normal aa w := by
  have h1 := hd.l1
  refine sy_run (c := ⟨(.rnd (n + 1) (bodyL rt1) :: rt1.k.tail), rtS1 d d.sl⟩) ⟨0, [4]⟩ 50 S fun bs aa w S => ?_
  refine sy_reg S fun S => ?_
  refine sy_ops 1 S fun bs aa w S => ?_
  refine sy_cast 15 S (congrArg Value.bool (by simp : decide ((d.sl : Int) < (d.sl : Int)) = false)) (by kernel_rfl) fun S => ?_
  refine sy_run ⟨0, []⟩ 60 S fun bs aa w S => ?_
  have S' := S.to [0] (rtS2 d 0) (by kernel_rfl) (by kernel_rfl) (by kernel_rfl) (by kernel_rfl) (by kernel_rfl)
  refine sy_loop (d.tl + 1) (by kernel_rfl) ?_
  refine sy_at2 (k' := (.rnd (d.tl + 1) (bodyL rt2) :: rt2.k.tail)) (by kernel_rfl) ?_
  exact r2_all w0 d hd hr d.tl 0 (by omega) _ aa w S'
set_option maxHeartbeats 8000000 in
theorem r1_step (w0 : World) (d : Dk) (hd : d.ok) (hr : d.right) (n j : Nat) (hj : j < d.sl) (ih : ∀ (bb : Nat) (aa : Act) (w : World) (S : Sy w0 [] [bb] (rtS1 d (j + 1)) [rfSt d.b d.o d.S, rfWs d.c d.p d.W] aa w), post Try.prog (.rnd (n) (bodyL rt1) :: rt1.k.tail) (bodyPost Try.prog Try.f12 fun e w' => e = .returned (.bool true) ∧ Below w0.heap.size w0 w') .normal aa w) (bb : Nat) (aa : Act) (w : World) (S : Sy w0 [] [bb] (rtS1 d j) [rfSt d.b d.o d.S, rfWs d.c d.p d.W] aa w) : post Try.prog (.rnd (n + 1) (bodyL rt1) :: rt1.k.tail) (bodyPost Try.prog Try.f12 fun e w' => e = .returned (.bool true) ∧ Below w0.heap.size w0 w') .normal aa w := by
  have h1 := hd.l1
  have hs := hr.s j hj
  refine sy_run (c := ⟨(.rnd (n + 1) (bodyL rt1) :: rt1.k.tail), rtS1 d j⟩) ⟨0, [4]⟩ 50 S fun bs aa w S => ?_
  refine sy_reg S fun S => ?_
  refine sy_ops 1 S fun bs aa w S => ?_
  refine sy_cast 15 S (congrArg Value.bool (by simp; omega : decide ((j : Int) < (d.sl : Int)) = true)) (by kernel_rfl) fun S => ?_
  refine sy_run ⟨0, [5]⟩ 60 S fun bs aa w S => ?_
  refine sy_reg S fun S => ?_
  refine sy_ix (b := d.b) (off := d.o) (len := d.sl) (n := j) (size := 1) (i := (j : Int)) S (by rw [← hd.hs.resolve_left (by omega)]; kernel_rfl) rfl hj fun aa S => ?_
  refine sy_ldo S (ld_at (ty := 9) (b := d.b) (off := d.o + j * 1) (by kernel_rfl) (by rw [Nat.mul_one]; exact S.fact (f := rfSt d.b d.o d.S) (by simp) j (by rw [hd.hS]; exact hj))) (by kernel_rfl) fun aa S => ?_
  refine sy_run ⟨0, [6]⟩ 60 S fun bs aa w S => ?_
  refine sy_reg S fun S => ?_
  refine sy_ops 3 S fun bs aa w S => ?_
  refine sy_cast 20 S (congrArg Value.bool (by rw [hs]; rfl : (!decide (((d.S.getD j ByteArray.empty).size : Int) = 32)) = false)) (by kernel_rfl) fun S => ?_
  refine sy_run ⟨0, [8]⟩ 60 S fun bs aa w S => ?_
  refine sy_reg S fun S => ?_
  refine sy_ops 1 S fun bs aa w S => ?_
  refine sy_cast 21 S (congrArg (Value.int .i64) (by rw [IntKind.wrap_i64]; omega : IntKind.i64.wrap ((j : Int) + 1) = ((j + 1 : Nat) : Int))) (by kernel_rfl) fun S => ?_
  refine sy_run ⟨0, [999]⟩ 50 S fun bs aa w S => ?_
  have S2 := S.to [0] (rtS1 d (j + 1)) (by kernel_rfl) (by kernel_rfl) (by kernel_rfl) (by kernel_rfl) (by kernel_rfl)
  refine sy_at2 (k' := (.rnd (n) (bodyL rt1) :: rt1.k.tail)) (by kernel_rfl) ?_
  exact ih _ aa w S2
theorem r1_all (w0 : World) (d : Dk) (hd : d.ok) (hr : d.right) : ∀ (r j : Nat), j + r = d.sl → ∀ (bb : Nat) (aa : Act) (w : World) (S : Sy w0 [] [bb] (rtS1 d j) [rfSt d.b d.o d.S, rfWs d.c d.p d.W] aa w), post Try.prog (.rnd (r + 1) (bodyL rt1) :: rt1.k.tail) (bodyPost Try.prog Try.f12 fun e w' => e = .returned (.bool true) ∧ Below w0.heap.size w0 w') .normal aa w := by
  intro r
  induction r with
  | zero => intro j hj bb aa w S; obtain rfl : j = d.sl := by omega
            exact r1_end w0 d hd hr 0 bb aa w S
  | succ r ih => intro j hj bb aa w S; exact r1_step w0 d hd hr (r + 1) j (by omega) (fun bb aa w S => ih (j + 1) (by omega) bb aa w S) bb aa w S
set_option maxHeartbeats 8000000 in
theorem right_t (w0 : World) (d : Dk) (hd : d.ok) (hr : d.right) (hA : StrAt w0 d.b d.o d.S) (hB : WasAt w0 d.c d.p d.W) : Calls Try.prog 12 #[d.v] w0 fun e w' => e = .returned (.bool true) ∧ Below w0.heap.size w0 w' := by
  have h1 := hd.l1
  refine sy_enterF [] [rfSt d.b d.o d.S, rfWs d.c d.p d.W] (by intro f hf; simp only [List.mem_cons, List.not_mem_nil, or_false] at hf; rcases hf with rfl | rfl; exact hA; exact hB) Try.func12 rfl rfl fun aa S => ?_
  refine sy_run ⟨0, [1]⟩ 60 S fun bs aa w S => ?_
  refine sy_reg S fun S => ?_
  refine sy_ops 4 S fun bs aa w S => ?_
  refine sy_cast 10 S (congrArg Value.bool (decide_eq_false (by omega) : decide ((d.sl : Int) > 512) = false)) (by kernel_rfl) fun S => ?_
  refine sy_run ⟨0, []⟩ 60 S fun bs aa w S => ?_
  have S' := S.to [0] (rtS1 d 0) (by kernel_rfl) (by kernel_rfl) (by kernel_rfl) (by kernel_rfl) (by kernel_rfl)
  refine sy_loop (d.sl + 1) (by kernel_rfl) ?_
  refine sy_at2 (k' := (.rnd (d.sl + 1) (bodyL rt1) :: rt1.k.tail)) (by kernel_rfl) ?_
  exact r1_all w0 d hd hr d.sl 0 (by omega) _ aa w S'
end Go.Proofs.Ytnlcjlhcghgaoaa
