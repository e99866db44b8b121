
/-
  A walk by computation: runs of operations over a log as facts: the program's Run, the reference's Cur.
-/
import Derived.Test.YtmjfnlangebhlaaRows
import Derived.Test.YtmjfnlangebhlaaBase
import Derived.Test.YtmjfnlangebhlaaStepC
import Derived.Test.YtmjfnlangebhlaaStepD
import Derived.Test.YtmjfnlangebhlaaStepF
import Derived.Test.YtmjfnlangebhlaaCurA
import Derived.Test.YtmjfnlangebhlaaCurC
import Derived.Test.YtmjfnlangebhlaaCurD
import Derived.Test.YtmjfnlangebhlaaSx
namespace Go.Proofs.Ytmjfnlangebhlaa.SX
open Go Go.RowKit
set_option linter.unusedVariables false
set_option maxRecDepth 10000

theorem runAt_le {w w' : World} {g : Nat} {l : List (Int × Bool)} (h : RunAt w g l) (hb : ∀ b, b ≤ g → w'.heap[b]? = w.heap[b]?) : RunAt w' g l := by
  obtain ⟨a, c, h1, h2, h3, h4, h5⟩ := h
  refine ⟨a, c, (World.cell?_of_block (a := ⟨g, 0, none⟩) (hb g (Nat.le_refl _))).trans h1, (World.frozen?_of_block (a := ⟨g, 0, none⟩) (hb g (Nat.le_refl _))).trans h2, h3, h4, ?_⟩
  rcases h5 with h5 | ⟨b, o, rfl, h5, h6⟩
  · exact Or.inl h5
  · exact Or.inr ⟨b, o, rfl, h5, fun j hj => ⟨(World.cell?_of_block (a := ⟨b, o + j * 2, none⟩) (hb b (by omega))).trans (h6 j hj).1, (World.cell?_of_block (a := ⟨b, o + j * 2 + 1, none⟩) (hb b (by omega))).trans (h6 j hj).2⟩⟩
/-- The run at the block g has these results before it. -/
def rfRun (g : Nat) (l : List (Int × Bool)) : RF := ⟨fun b => b ≤ g, fun w => RunAt w g l, fun w h b hb => Nat.lt_of_le_of_lt hb (runAt_lt h), fun w w' h hb => runAt_le h hb⟩
theorem curAt_le {w w' : World} {g : Nat} {s : CSt} (h : CurAt w g s) (hb : ∀ b, b ≤ g → w'.heap[b]? = w.heap[b]?) : CurAt w' g s := by
  obtain ⟨a, c, at_, all, h0, h1, h2, h3, h4, h5, h6, h7, h8, h9, h10, h11, h12⟩ := h
  have k : ∀ o v, w.cell? ⟨g, o, none⟩ = some v → w'.cell? ⟨g, o, none⟩ = some v := fun o v h => (World.cell?_of_block (a := ⟨g, o, none⟩) (hb g (Nat.le_refl _))).trans h
  refine ⟨a, c, at_, all, k _ _ h0, k _ _ h1, k _ _ h2, k _ _ h3, k _ _ h4, k _ _ h5, k _ _ h6, k _ _ h7, fun o => (World.frozen?_of_block (a := ⟨g, o, none⟩) (hb g (Nat.le_refl _))).trans (h8 o), h9, h10, h11, ?_⟩
  rcases h12 with h12 | ⟨b, o, rfl, h13, h14⟩
  · exact Or.inl h12
  · exact Or.inr ⟨b, o, rfl, h13, fun j hj => ⟨(World.cell?_of_block (a := ⟨b, o + j * 2, none⟩) (hb b (by omega))).trans (h14 j hj).1, (World.cell?_of_block (a := ⟨b, o + j * 2 + 1, none⟩) (hb b (by omega))).trans (h14 j hj).2⟩⟩
/-- The reference's run at the block g. -/
def rfCur (g : Nat) (x : CSt) : RF := ⟨fun b => b ≤ g, fun w => CurAt w g x, fun w h b hb => Nat.lt_of_le_of_lt hb (curAt_lt h), fun w w' h hb => curAt_le h hb⟩
theorem logOf_st {w w' : World} {v : Value} {l : List (Int × Bool)} (h : LogOf w v l) (hb : ∀ b, v.ownBlock = some b → w'.heap[b]? = w.heap[b]?) : LogOf w' v l := by
  obtain ⟨a, c, rfl, h1, h2, h3⟩ := h
  refine ⟨a, c, rfl, h1, h2, ?_⟩
  rcases h3 with h3 | ⟨b, o, rfl, h3⟩
  · exact Or.inl h3
  · have hb' := hb b rfl
    exact Or.inr ⟨b, o, rfl, fun j hj => ⟨(World.cell?_of_block (a := ⟨b, o + j * 2, none⟩) hb').trans (h3 j hj).1, (World.cell?_of_block (a := ⟨b, o + j * 2 + 1, none⟩) hb').trans (h3 j hj).2⟩⟩
/-- The slice v holds these results. -/
def rfLog (v : Value) (l : List (Int × Bool)) : RF := ⟨fun b => v.ownBlock = some b ∧ l.length ≠ 0, fun w => LogOf w v l, fun w h b hb => by
  obtain ⟨a, c, rfl, h1, h2, h3⟩ := h
  rcases h3 with h3 | ⟨b', o, rfl, h3⟩
  · exact absurd h3 hb.2
  · have := World.block_lt_of_cell? w _ (h3 0 (by omega)).1
    have e : some b' = some b := hb.1
    cases e
    exact this, fun w w' h hb => by
  by_cases h0 : l.length = 0
  · obtain ⟨a, c, rfl, h1, h2, _⟩ := h
    exact ⟨a, c, rfl, h1, h2, Or.inl h0⟩
  · exact logOf_st h (fun b he => hb b ⟨he, h0⟩)⟩

section
variable {P : Program} {w0 : World} {r : Option Nat} {bs : List Nat} {s : SS} {F : List RF} {a : Act} {w : World}
theorem Sy.run {g : Nat} {l : List (Int × Bool)} (S : Sy w0 r bs s (rfRun g l :: F) a w) : RunAt w g l := S.fact (f := rfRun g l) (by simp)
theorem Sy.cur {g : Nat} {x : CSt} (S : Sy w0 r bs s (rfCur g x :: F) a w) : CurAt w g x := S.fact (f := rfCur g x) (by simp)
/-- A call that takes an access of a run. -/
theorem sy_acc {g : Nat} {l l' : List (Int × Bool)} {c : Cfg} (S : Sy w0 r bs c.s (rfRun g l :: F) a w) (h0 : r = some g ∨ w0.heap.size ≤ g) {v : Value} {f : FuncId} {args : Array Value} {Q : Exit → Act → World → Prop}
    (hC : Calls P f args w fun e w' => e = .returned v ∧ RunAt w' g l' ∧ w.grownBy w' (some g))
    (hh : (headC P c).map (fun q => (q.1, q.2.map (den bs))) = some (f, args.toList)) (hF : ∀ f ∈ F, ¬f.bl g)
    (h : ∀ a' w', Sy w0 r bs (aftC c (.v v)).s (rfRun g l' :: F) a' w' → post P (aftC c (.v v)).k Q .normal a' w') : post P c.k Q .normal a w := by
  have hap := (S.fs _ (by simp : rfRun g l ∈ rfRun g l :: F)).2
  refine sy_callG S h0 (X := Unit) (val := fun _ => v) (C := fun _ w' => RunAt w' g l') (hC.mono fun e w' h => ⟨(), h.1, h.2⟩) hh F (fun f hf => ⟨List.mem_cons_of_mem _ hf, hF f hf⟩) (fun i hi he => hap i hi (by show _ ≤ g; rw [he]; exact Nat.le_refl _)) ?_
  intro _ a' w' hR _ S'
  exact h a' w' (S'.add (rfRun g l') hR hap)
theorem sy_cur {g : Nat} {x x' : CSt} {c : Cfg} (S : Sy w0 r bs c.s (rfCur g x :: F) a w) (h0 : r = some g ∨ w0.heap.size ≤ g) {v : Value} {f : FuncId} {args : Array Value} {Q : Exit → Act → World → Prop}
    (hC : Calls P f args w fun e w' => e = .returned v ∧ CurAt w' g x' ∧ w.grownBy w' (some g))
    (hh : (headC P c).map (fun q => (q.1, q.2.map (den bs))) = some (f, args.toList)) (hF : ∀ f ∈ F, ¬f.bl g)
    (h : ∀ a' w', Sy w0 r bs (aftC c (.v v)).s (rfCur g x' :: F) a' w' → post P (aftC c (.v v)).k Q .normal a' w') : post P c.k Q .normal a w := by
  have hap := (S.fs _ (by simp : rfCur g x ∈ rfCur g x :: F)).2
  refine sy_callG S h0 (X := Unit) (val := fun _ => v) (C := fun _ w' => CurAt w' g x') (hC.mono fun e w' h => ⟨(), h.1, h.2⟩) hh F (fun f hf => ⟨List.mem_cons_of_mem _ hf, hF f hf⟩) (fun i hi he => hap i hi (by show _ ≤ g; rw [he]; exact Nat.le_refl _)) ?_
  intro _ a' w' hR _ S'
  exact h a' w' (S'.add (rfCur g x') hR hap)
end
end Go.Proofs.Ytmjfnlangebhlaa.SX
