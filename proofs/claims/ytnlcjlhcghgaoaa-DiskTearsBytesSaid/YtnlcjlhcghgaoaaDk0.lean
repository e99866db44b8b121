
/-
  Layer 22: devices in memory; the simple functions.
-/
import Derived.Test.YtnlcjlhcghgaoaaRows
import Derived.Test.YtnlcjlhcghgaoaaBase
import Derived.Test.YtnlcjlhcghgaoaaZw
import Derived.WalkKit
namespace Go.Proofs.Ytnlcjlhcghgaoaa
open Go Go.RowKit SZ
set_option linter.unusedVariables false
set_option linter.unusedSimpArgs false
set_option maxRecDepth 100000
attribute [local irreducible] post GD Nxt NxtAll
/-- A device: where its sectors and writes lie, and what they are. -/
structure Dk where
  sa : Option Addr
  sl : Nat
  sc : Nat
  ta : Option Addr
  tl : Nat
  tc : Nat
  b : Nat
  o : Nat
  c : Nat
  p : Nat
  S : List ByteArray
  W : List (Int × ByteArray)
def Dk.v (d : Dk) : Value := .agg #[.slice d.sa d.sl d.sc, .slice d.ta d.tl d.tc]
structure Dk.ok (d : Dk) : Prop where
  hS : d.S.length = d.sl
  hs : d.sl = 0 ∨ d.sa = some ⟨d.b, d.o, none⟩
  hW : d.W.length = d.tl
  hw2 : (d.ta = none ∧ d.tl = 0 ∧ d.tc = 0) ∨ (d.ta = some ⟨d.c, d.p, none⟩ ∧ 0 < d.tl ∧ d.tl ≤ d.tc)
  l1 : d.sl ≤ 512
  l2 : d.tl ≤ 1000
theorem Dk.ok.hw {d : Dk} (h : d.ok) : d.tl = 0 ∨ d.ta = some ⟨d.c, d.p, none⟩ := h.hw2.elim (fun h => Or.inl h.2.1) (fun h => Or.inr h.1)
def StrAt (w : World) (b o : Nat) (S : List ByteArray) : Prop := ∀ j, j < S.length → w.cell? ⟨b, o + j, none⟩ = some (.string (S.getD j ByteArray.empty))
def WasAt (w : World) (b o : Nat) (W : List (Int × ByteArray)) : Prop := ∀ j, j < W.length → w.cell? ⟨b, o + j * 2, none⟩ = some (.int .i64 (W.getD j (0, ByteArray.empty)).1) ∧ w.cell? ⟨b, o + j * 2 + 1, none⟩ = some (.string (W.getD j (0, ByteArray.empty)).2)
def rfSt (b o : Nat) (S : List ByteArray) : RF := ⟨fun b' => b' = b ∧ S.length ≠ 0, fun w => StrAt w b o S, fun w h b' hb => by
  obtain ⟨rfl, hl⟩ := hb
  exact World.block_lt_of_cell? w _ (h 0 (by omega)), fun w w' h hb j hj => (World.cell?_of_block (a := ⟨b, o + j, none⟩) (hb b ⟨rfl, by omega⟩)).trans (h j hj)⟩
def rfWs (b o : Nat) (W : List (Int × ByteArray)) : RF := ⟨fun b' => b' = b ∧ W.length ≠ 0, fun w => WasAt w b o W, fun w h b' hb => by
  obtain ⟨rfl, hl⟩ := hb
  exact World.block_lt_of_cell? w _ (h 0 (by omega)).1, fun w w' h hb j hj => ⟨(World.cell?_of_block (a := ⟨b, o + j * 2, none⟩) (hb b ⟨rfl, by omega⟩)).trans (h j hj).1, (World.cell?_of_block (a := ⟨b, o + j * 2 + 1, none⟩) (hb b ⟨rfl, by omega⟩)).trans (h j hj).2⟩⟩
theorem bel_gr {w w' : World} (h : Gr w w' []) : Below w.heap.size w w' := ⟨h.os, h.tape, h.output, h.size, fun k hk => h.block k hk (by simp)⟩
theorem StrAt.keep {w w' : World} {b o : Nat} {S : List ByteArray} (h : StrAt w b o S) (hb : Below w.heap.size w w') : StrAt w' b o S := fun j hj => (World.cell?_of_block (a := ⟨b, o + j, none⟩) (hb.block b (World.block_lt_of_cell? w _ (h j hj)))).trans (h j hj)
theorem WasAt.keep {w w' : World} {b o : Nat} {W : List (Int × ByteArray)} (h : WasAt w b o W) (hb : Below w.heap.size w w') : WasAt w' b o W := fun j hj => ⟨(World.cell?_of_block (a := ⟨b, o + j * 2, none⟩) (hb.block b (World.block_lt_of_cell? w _ (h j hj).1))).trans (h j hj).1, (World.cell?_of_block (a := ⟨b, o + j * 2 + 1, none⟩) (hb.block b (World.block_lt_of_cell? w _ (h j hj).1))).trans (h j hj).2⟩
set_option maxHeartbeats 8000000 in
theorem has_t (d : Dk) (at_ : Int) (h : 0 ≤ at_ ∧ at_ < d.sl) (w : World) : Calls Try.prog 27 #[d.v, .int .i64 at_] w fun e w' => e = .returned (.bool true) ∧ Below w.heap.size w w' := by
  refine sy_enterF [] [] (by intro f hf; cases hf) Try.func27 rfl rfl fun aa S => ?_
  refine sy_run ⟨0, [1]⟩ 60 S fun bs aa w S => ?_
  refine sy_reg S fun S => ?_
  refine sy_ops 2 S fun bs aa w S => ?_
  refine sy_cast 6 S (congrArg Value.bool (decide_eq_true h.1 : decide (at_ ≥ 0) = true)) (by kernel_rfl) fun S => ?_
  refine sy_ops 6 S fun bs aa w S => ?_
  refine sy_cast 12 S (congrArg Value.bool (decide_eq_true h.2 : decide (at_ < (d.sl : Int)) = true)) (by kernel_rfl) fun S => ?_
  refine sy_run ⟨0, []⟩ 60 S fun bs aa w S => ?_
  exact sy_ret S (by kernel_rfl) (by kernel_rfl) fun hg => ⟨rfl, bel_gr hg⟩
set_option maxHeartbeats 8000000 in
theorem read_t (d : Dk) (hd : d.ok) (j : Nat) (hj : j < d.sl) (w : World) (hA : StrAt w d.b d.o d.S) : Calls Try.prog 15 #[d.v, .int .i64 (j : Int)] w fun e w' => e = .returned (.tuple #[.string (d.S.getD j ByteArray.empty), .int .i64 0]) ∧ Below w.heap.size w w' := by
  refine sy_enterF [] [rfSt d.b d.o d.S] (by intro f hf; simp at hf; subst hf; exact hA) Try.func15 rfl rfl fun aa S => ?_
  refine sy_run ⟨0, []⟩ 60 S fun bs aa w S => ?_
  refine sy_call1 S (has_t d (j : Int) ⟨by omega, by omega⟩ w) (by kernel_rfl) fun aa w hb S => ?_
  refine sy_run ⟨0, [3]⟩ 60 S fun bs aa w S => ?_
  refine sy_reg S fun S => ?_
  refine sy_ops 3 S fun bs aa w S => ?_
  refine sy_ix (b := d.b) (off := d.o) (len := d.sl) (n := j) (size := 1) (i := (j : Int)) S (by rw [← hd.hs.resolve_left (by omega)]; kernel_rfl) rfl hj fun aa S => ?_
  refine sy_ldo S (ld_at (ty := 9) (b := d.b) (off := d.o + j * 1) (by kernel_rfl) (by rw [Nat.mul_one]; exact S.fact (f := rfSt d.b d.o d.S) (by simp) j (by rw [hd.hS]; exact hj))) (by kernel_rfl) fun aa S => ?_
  refine sy_run ⟨0, []⟩ 60 S fun bs aa w S => ?_
  exact sy_ret S (by kernel_rfl) (by kernel_rfl) fun hg => ⟨rfl, bel_gr hg⟩
set_option maxHeartbeats 8000000 in
theorem sync_t (d : Dk) (w : World) : Calls Try.prog 19 #[d.v] w fun e w' => e = .returned (.agg #[.slice d.sa d.sl d.sc, .slice none 0 0]) ∧ Below w.heap.size w w' := by
  refine sy_enterF [] [] (by intro f hf; cases hf) Try.func19 rfl rfl fun aa S => ?_
  refine sy_run ⟨0, []⟩ 60 S fun bs aa w S => ?_
  exact sy_ret S (by kernel_rfl) (by kernel_rfl) fun hg => ⟨rfl, bel_gr hg⟩
end Go.Proofs.Ytnlcjlhcghgaoaa
