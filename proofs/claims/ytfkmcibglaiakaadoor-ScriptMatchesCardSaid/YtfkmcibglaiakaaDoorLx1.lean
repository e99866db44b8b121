
/-
  Layer 4: ranges over strings; classes of characters.
-/
import Derived.Test.YtfkmcibglaiakaaDoorRows
import Derived.Test.YtfkmcibglaiakaaDoorBase
import Derived.Test.YtfkmcibglaiakaaDoorLx0
import Derived.Laws.RangeString
import Derived.WalkKit
namespace Go.Proofs.YtfkmcibglaiakaaDoor
open Go Go.RowKit SZ
set_option linter.unusedVariables false
set_option linter.unusedSimpArgs false
set_option maxRecDepth 100000
attribute [local irreducible] post GD Nxt NxtAll
def rfIt (g : Nat) (p : ByteArray) (pos : Nat) : RF := ⟨fun b => b = g, fun w => w.heap[g]? = some (.stringIter p pos), fun w h b hb => by subst hb; exact (Array.getElem?_eq_some_iff.1 h).1, fun w w' h hb => (hb g rfl).trans h⟩
section
variable [DF]
variable {P : Program} {w0 : World} {r : List Nat} {bs : List Nat} {s : SS} {F : List RF} {a : Act} {w : World}
theorem sy_rng {c : Cfg} {t ty : TypeId} {x : Operand} {p : ByteArray} (S : Sy w0 r bs c.s F a w) (ht : P.underlying t = some .string) (ho : (headV c).map (fun o => (o.op, o.type)) = some (.range t x, ty)) (hx : c.s.val x = some (.v (.string p))) {Q : Exit → Act → World → Prop}
    (h : ∀ g a' w', w0.heap.size ≤ g → (∀ f ∈ F, ¬f.bl g) → Sy w0 r bs (aftC c (.v (.pointer (some ⟨g, 0, none⟩)))).s (rfIt g p 0 :: F) a' w' → post P (aftC c (.v (.pointer (some ⟨g, 0, none⟩)))).k Q .normal a' w') : post P c.k Q .normal a w := by
  have hlt := fun i hi => S.lt (i := i) hi
  have hs0 := S.gr.size
  have hfl : ∀ f ∈ F, ¬f.bl w.heap.size := fun f hf hb => by have := f.lt w (S.fs f hf).1 _ hb; omega
  refine sy_exB (C := fun v w' => v = .pointer (some ⟨w.heap.size, 0, none⟩) ∧ w'.heap[w.heap.size]? = some (.stringIter p 0)) S ho (fun o ρ h1 h2 h3 => ?_) fun v a' w' hC hb S => ?_
  · have e1 : ρ x = .string p := h3 x _ hx
    refine ⟨_, w.iter p 0, ?_, ⟨rfl, World.iter_heap w p 0⟩, (Below.refl _ _).alloc (Nat.le_refl _) _⟩
    unfold execOp
    simp only [h1, e1, Sem.run_bind, Sem.run_pure, Result.andThen_ok, run_range_string w t p ht]
  · obtain ⟨rfl, hh⟩ := hC
    exact h w.heap.size a' w' hs0 hfl (S.add (rfIt w.heap.size p 0) hh (fun i hi he => by have h1 := hlt i hi; have h2 : _ = w.heap.size := he; omega))
theorem sy_nxt {c : Cfg} {ty : TypeId} {x : Operand} {p : ByteArray} {g pos : Nat} (S : Sy w0 r bs c.s (rfIt g p pos :: F) a w) (hg : w0.heap.size ≤ g) (hF : ∀ f ∈ F, ¬f.bl g) (ho : (headV c).map (fun o => (o.op, o.type)) = some (.next x true, ty)) (hx : c.s.val x = some (.v (.pointer (some ⟨g, 0, none⟩)))) (hp : pos < p.size) (cc wd : Nat) (hd : Utf8.decode p pos = (cc, wd)) {Q : Exit → Act → World → Prop}
    (h : ∀ a' w', Sy w0 r bs (aftC c (.v (.tuple #[.bool true, .int .i64 (pos : Int), .int .i32 (cc : Int)]))).s (rfIt g p (pos + wd) :: F) a' w' → post P (aftC c (.v (.tuple #[.bool true, .int .i64 (pos : Int), .int .i32 (cc : Int)]))).k Q .normal a' w') : post P c.k Q .normal a w := by
  have hit : w.heap[g]? = some (.stringIter p pos) := S.fact (f := rfIt g p pos) (by simp)
  have hgl := (Array.getElem?_eq_some_iff.1 hit).1
  have hown := (S.fs (rfIt g p pos) (by simp)).2
  refine sy_exG (.slice (some ⟨g, 0, none⟩) 0 0) F (C := fun v w' => v = .tuple #[.bool true, .int .i64 (pos : Int), .int .i32 (cc : Int)] ∧ w'.heap[g]? = some (.stringIter p (pos + wd))) S ho (fun o ρ h1 h2 h3 => ?_) (fun g' he => ?_) (fun f hf => ⟨by simp [hf], fun g' he => ?_⟩) (fun i hi he => ?_) fun v a' w' hC S => ?_
  · have e1 : ρ x = .pointer (some ⟨g, 0, none⟩) := h3 x _ hx
    refine ⟨_, { w with heap := w.heap.setIfInBounds g (.stringIter p (pos + wd)) }, ?_, ⟨rfl, ?_⟩, ⟨rfl, rfl, rfl, by simp, fun k hk hne => ?_⟩⟩
    · unfold execOp
      simp only [h1, e1, Sem.run_bind, Sem.run_pure, Result.andThen_ok, Instr.next, getObj, setObj, Sem.run, hit, Result.andThen, hp, if_true, hd]
      simp [goInt, Sem.run, hit]
    · simp [Array.getElem?_setIfInBounds, hgl]
    · have hkg : ¬g = k := fun e => hne (by simp [Value.ownBlock, e])
      simp [Array.getElem?_setIfInBounds, hkg]
  · simp only [Value.ownBlock, Option.some.injEq] at he
    subst he
    exact Or.inr hg
  · simp only [Value.ownBlock, Option.some.injEq] at he
    subst he
    exact hF f hf
  · simp only [Value.ownBlock, Option.some.injEq] at he
    exact hown i hi he.symm
  · obtain ⟨rfl, hh⟩ := hC
    exact h a' w' (S.add (rfIt g p (pos + wd)) hh (fun i hi he => hown i hi he))
theorem sy_nxe {c : Cfg} {ty : TypeId} {x : Operand} {p : ByteArray} {g pos : Nat} (S : Sy w0 r bs c.s (rfIt g p pos :: F) a w) (ho : (headV c).map (fun o => (o.op, o.type)) = some (.next x true, ty)) (hx : c.s.val x = some (.v (.pointer (some ⟨g, 0, none⟩)))) (hp : ¬pos < p.size) {Q : Exit → Act → World → Prop}
    (h : ∀ a', Sy w0 r bs (aftC c (.v (.tuple #[.bool false]))).s (rfIt g p pos :: F) a' w → post P (aftC c (.v (.tuple #[.bool false]))).k Q .normal a' w) : post P c.k Q .normal a w := by
  have hit : w.heap[g]? = some (.stringIter p pos) := S.fact (f := rfIt g p pos) (by simp)
  refine sy_exW S ho (fun o ρ h1 h2 h3 => ?_) h
  have e1 : ρ x = .pointer (some ⟨g, 0, none⟩) := h3 x _ hx
  unfold execOp
  simp only [h1, e1, Sem.run_bind, Sem.run_pure, Result.andThen_ok, Instr.next, getObj, Sem.run, hit, Result.andThen, hp, if_false]
end
def lettB (c : Nat) : Bool := (decide (97 ≤ c) && decide (c ≤ 122)) || (decide (65 ≤ c) && decide (c ≤ 90))
def digB (c : Nat) : Bool := decide (48 ≤ c) && decide (c ≤ 57)
def wordB (c : Nat) : Bool := lettB c || digB c || decide (c = 95)
def spcB (c : Nat) : Bool := decide (c = 9) || decide (c = 10) || decide (c = 32)
end Go.Proofs.YtfkmcibglaiakaaDoor
