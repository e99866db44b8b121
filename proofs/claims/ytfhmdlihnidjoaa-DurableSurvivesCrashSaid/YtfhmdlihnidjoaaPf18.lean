/-
  Merged: BkA
-/
import Derived.RangeFuncBox
import Derived.RangeFuncNested
import Derived.RangeFuncLeaves
import Derived.Shelf.Abstract
import Derived.WalkKit
import Derived.OwnWalkIn
import Derived.TacticsInMore
import Derived.LoopNIn
import Derived.LoopIn
import Derived.Test.YtfhmdlihnidjoaaPf1
namespace Go.Proofs.Ytfhmdlihnidjoaa
set_option linter.unusedVariables false
set_option linter.unusedSectionVars false
set_option linter.unusedSimpArgs false
set_option maxRecDepth 100000
set_option maxHeartbeats 4000000
open Go.ChangeShapes Go.WideShapes Go.ChangeAt Go.RowKit Go.Shelf
attribute [local go_sem] Oper.semAt_some
structure En where
  ver : Int
  a : Option Addr
  c : Nat
  ws : List (Int × Int)
deriving Inhabited
abbrev En.sl (e : En) : Value := .slice e.a e.ws.length e.c
def WsAt (n0 : Nat) (W : World) (e : En) : Prop := e.ws = [] ∨ ∃ b o, e.a = some ⟨b, o, none⟩ ∧ b < n0 ∧ ∀ j, j < e.ws.length → W.cell? ⟨b, o + j * 2, none⟩ = some (.int .i64 (e.ws[j]?.getD (0, 0)).1) ∧ W.cell? ⟨b, o + j * 2 + 1, none⟩ = some (.int .i64 (e.ws[j]?.getD (0, 0)).2)
def EsAt (n0 : Nat) (W : World) (b off : Nat) (es : List En) : Prop := b < n0 ∧ ∀ j, j < es.length → W.cell? ⟨b, off + j * 2, none⟩ = some (.int .i64 (es[j]?.getD default).ver) ∧ W.cell? ⟨b, off + j * 2 + 1, none⟩ = some (es[j]?.getD default).sl
theorem EsAt.below {n0 : Nat} {A B : World} {b off : Nat} {es : List En} (hb : Below n0 A B) (h : EsAt n0 A b off es) : EsAt n0 B b off es := ⟨h.1, fun j hj => ⟨(hb.cell (p := ⟨b, off + j * 2, none⟩) h.1).trans (h.2 j hj).1, (hb.cell (p := ⟨b, off + j * 2 + 1, none⟩) h.1).trans (h.2 j hj).2⟩⟩
def bkL (n m : Nat) : List Nat := (List.range (n - m)).map fun k => n - 1 - k
theorem QgJ (n j : Nat) (h : j < n) : bkL n j = bkL n (j + 1) ++ [j] := by
  unfold bkL
  rw [show n - j = (n - (j + 1)) + 1 by omega, List.range_succ, List.map_append]
  simp only [List.map_cons, List.map_nil]
  rw [show n - 1 - (n - (j + 1)) = j by omega]
theorem bkL_len (n m : Nat) : (bkL n m).length = n - m := by simp [bkL]
theorem bkL_all (n : Nat) : bkL n n = [] := by simp [bkL]
def KpB (n0 Bs : Nat) (W W' : World) : Prop := Below n0 W W' ∧ W'.heap[Bs]? = W.heap[Bs]?
theorem KpB.trans {n0 Bs : Nat} {A B C : World} (h : KpB n0 Bs A B) (k : KpB n0 Bs B C) : KpB n0 Bs A C := ⟨h.1.trans k.1, k.2.trans h.2⟩
theorem KpB.cell {n0 Bs : Nat} {A B : World} (h : KpB n0 Bs A B) {v : Value} (hc : A.cell? ⟨Bs, 0, none⟩ = some v) : B.cell? ⟨Bs, 0, none⟩ = some v := by
  unfold World.cell? at hc ⊢
  rw [h.2]
  exact hc
theorem KpB.putObj {n0 Bs : Nat} {w : World} (hn : n0 ≤ w.heap.size) (hB : Bs < w.heap.size) (W : World) (l : Nat) (o o' : Obj) (hl : w.heap.size ≤ l) (h : W.heap[l]? = some o) (h1 : o.isCells = false) (h2 : o.isWalk = false) : KpB n0 Bs W (W.putObj l o') :=
  ⟨belowK_b hn W l o o' hl h h1 h2, (grownBy_putObj' W l o').block Bs (by have := (Array.getElem?_eq_some_iff.1 h).1; omega) (fun e => by cases e; omega)⟩
abbrev bkV (es : List En) (j : Nat) : Array Value := #[.int .i64 j, .agg #[.int .i64 (es[j]?.getD default).ver, (es[j]?.getD default).sl]]
theorem back1_in (n : Nat) (hn : 1 ≤ n) (l Bs n0 b off cap : Nat) (a : Option Addr) (es : List En) (hreach : es.length ≤ 9223372036854775807) (J Jx : List Nat → World → Prop)
    (hY : ∀ pre x W, J pre W → pre.length < es.length → YieldAt Fence.wide (n - 1) Try.prog l (bkV es x) W fun e W' =>
      (e = .returned (.bool true) ∧ J (pre ++ [x]) W' ∧ KpB n0 Bs W W') ∨ (e = .returned (.bool false) ∧ Jx (pre ++ [x]) W'))
    (W : World) (hBs : W.cell? ⟨Bs, 0, none⟩ = some (.slice a es.length cap)) (ha : 0 < es.length → a = some ⟨b, off, none⟩) (hc : 0 < es.length → EsAt n0 W b off es) (h0 : J [] W) :
    CallsIn Fence.wide n Try.prog 59 #[.func (.yield l) #[] #[], .pointer (some ⟨Bs, 0, none⟩)] W fun e W' => (∃ v, e = .returned v) ∧
      ((∃ ys, ys = bkL es.length 0 ∧ J ys W') ∨ (∃ pre, (∃ m, m ≤ es.length ∧ pre = bkL es.length m) ∧ Jx pre W')) := by
  refine callsIn_of_wp Try.func59 rfl trivial ?_ rfl
  simp only [Try.ntmps59, List.size_toArray, List.length_cons, List.length_nil, Nat.reduceAdd, Nat.reduceSub, Array.replicate_succ, Array.replicate_zero, List.push_toArray, List.append_toArray, List.nil_append, List.cons_append]
  have hw1 : wrap64 ((es.length : Int) - 1) = (es.length : Int) - 1 := Qks (by unfold I64; omega)
  gi_wp2
  gi_loopw [3] (fun i wr => ∃ m : Nat, m ≤ es.length ∧ i = .int .i64 ((m : Int) - 1) ∧ J (bkL es.length m) wr ∧ KpB n0 Bs W wr)
    (fun i _ => (intOf i + 1).toNat)
  case atStart => exact ⟨es.length, Nat.le_refl _, rfl, by rw [bkL_all]; exact h0, Below.refl _ _, rfl⟩
  case round =>
    obtain ⟨m, hm, rfl, hJs, hnx⟩ := hrel
    cases m with
    | zero =>
      gi_wp2
      go_end0
      exact ⟨⟨_, rfl⟩, .inl ⟨_, rfl, hJs⟩⟩
    | succ j =>
      have ej : (((j + 1 : Nat) : Int) - 1) = (j : Int) := by omega
      rw [ej]
      have hpos : 0 < es.length := by omega
      obtain rfl := ha hpos
      obtain ⟨c1, c2⟩ := ((hc hpos).below hnx.1).2 j (by omega)
      have hBs' := hnx.cell hBs
      obtain ⟨fn, tmps, assign, body, hy, hR⟩ := hY _ j wr hJs (by rw [bkL_len]; omega)
      dsimp only [bkV, En.sl] at hy
      gi_wp2
      refine hR.mono ?_
      rintro e W3 (⟨rfl, hJ3, hk3⟩ | ⟨rfl, hJx3⟩)
      · gi_wp2
        go_roundw
        case rel => exact ⟨j, by omega, by simp, by rw [QgJ es.length j (by omega)]; exact hJ3, hnx.trans hk3⟩
        case measure => first | (simp [intOf]; done) | (simp [intOf]; omega)
      · gi_wp2
        refine bodyPost_ret (results_none rfl _ _ _) rfl ?_
        exact ⟨⟨_, rfl⟩, .inr ⟨_, ⟨j, by omega, (QgJ es.length j (by omega)).symm⟩, hJx3⟩⟩
theorem back_in (n : Nat) (a : Option Addr) (len cap : Nat) (w : World) :
    CallsIn Fence.wide n Try.prog 38 #[.slice a len cap] w fun e w' => e = .returned (.func (.func 59) #[] #[.pointer (some ⟨w.heap.size, 0, none⟩)]) ∧ w' = w.alloc (.cells #[.slice a len cap] 38) := by
  refine callsIn_of_wp Try.func38 rfl trivial ?_ rfl
  simp only [Try.ntmps38, List.size_toArray, List.length_cons, List.length_nil, Nat.reduceAdd, Nat.reduceSub, Array.replicate_succ, Array.replicate_zero, List.push_toArray, List.append_toArray, List.nil_append, List.cons_append]
  gi_wp2
  go_ret
  exact ⟨rfl, rfl⟩
end Go.Proofs.Ytfhmdlihnidjoaa
