/-
  Merged: SxR, Vh0, VisA, VisC, VisB, VisD
-/
import Derived.Test.YtfahnmpcclhjlaaGreatRows
import Derived.Test.YtfahnmpcclhjlaaGreatPv3
import Derived.Test.YtfahnmpcclhjlaaGreatPv5
import Derived.Test.YtfahnmpcclhjlaaGreatPv6
import Derived.Test.YtfahnmpcclhjlaaGreatPv7
import Derived.Test.YtfahnmpcclhjlaaGreatPv1
import Derived.Test.YtfahnmpcclhjlaaGreatPv4
import Derived.WalkKit
namespace Go.Proofs.YtfahnmpcclhjlaaGreat.SX
open Go Go.RowKit
set_option linter.unusedVariables false
set_option linter.unusedSectionVars false
set_option maxRecDepth 10000
theorem runAt_le {w w' : World} {g : Nat} {l : List (Int × Bool)} (h : RunAt w g l) (hb : ∀ b, b ≤ g → w'.heap[b]? = w.heap[b]?) : RunAt w' g l := by
  obtain ⟨a, c, h1, h2, h3, h4, h5⟩ := h
  refine ⟨a, c, (World.cell?_of_block (a := ⟨g, 0, none⟩) (hb g (Nat.le_refl _))).trans h1, (World.frozen?_of_block (a := ⟨g, 0, none⟩) (hb g (Nat.le_refl _))).trans h2, h3, h4, ?_⟩
  rcases h5 with h5 | ⟨b, o, rfl, h5, h6⟩
  · exact Or.inl h5
  · exact Or.inr ⟨b, o, rfl, h5, fun j hj => ⟨(World.cell?_of_block (a := ⟨b, o + j * 2, none⟩) (hb b (by omega))).trans (h6 j hj).1, (World.cell?_of_block (a := ⟨b, o + j * 2 + 1, none⟩) (hb b (by omega))).trans (h6 j hj).2⟩⟩
def rfRun (g : Nat) (l : List (Int × Bool)) : RF := ⟨fun b => b ≤ g, fun w => RunAt w g l, fun w h b hb => Nat.lt_of_le_of_lt hb (runAt_lt h), fun w w' h hb => runAt_le h hb⟩
theorem curAt_le {w w' : World} {g : Nat} {s : CSt} (h : CurAt w g s) (hb : ∀ b, b ≤ g → w'.heap[b]? = w.heap[b]?) : CurAt w' g s := by
  obtain ⟨a, c, at_, all, h0, h1, h2, h3, h4, h5, h6, h7, h8, h9, h10, h11, h12⟩ := h
  have k : ∀ o v, w.cell? ⟨g, o, none⟩ = some v → w'.cell? ⟨g, o, none⟩ = some v := fun o v h => (World.cell?_of_block (a := ⟨g, o, none⟩) (hb g (Nat.le_refl _))).trans h
  refine ⟨a, c, at_, all, k _ _ h0, k _ _ h1, k _ _ h2, k _ _ h3, k _ _ h4, k _ _ h5, k _ _ h6, k _ _ h7, fun o => (World.frozen?_of_block (a := ⟨g, o, none⟩) (hb g (Nat.le_refl _))).trans (h8 o), h9, h10, h11, ?_⟩
  rcases h12 with h12 | ⟨b, o, rfl, h13, h14⟩
  · exact Or.inl h12
  · exact Or.inr ⟨b, o, rfl, h13, fun j hj => ⟨(World.cell?_of_block (a := ⟨b, o + j * 2, none⟩) (hb b (by omega))).trans (h14 j hj).1, (World.cell?_of_block (a := ⟨b, o + j * 2 + 1, none⟩) (hb b (by omega))).trans (h14 j hj).2⟩⟩
def rfCur (g : Nat) (x : CSt) : RF := ⟨fun b => b ≤ g, fun w => CurAt w g x, fun w h b hb => Nat.lt_of_le_of_lt hb (curAt_lt h), fun w w' h hb => curAt_le h hb⟩
theorem logOf_st {w w' : World} {v : Value} {l : List (Int × Bool)} (h : LogOf w v l) (hb : ∀ b, v.ownBlock = some b → w'.heap[b]? = w.heap[b]?) : LogOf w' v l := by
  obtain ⟨a, c, rfl, h1, h2, h3⟩ := h
  refine ⟨a, c, rfl, h1, h2, ?_⟩
  rcases h3 with h3 | ⟨b, o, rfl, h3⟩
  · exact Or.inl h3
  · have hb' := hb b rfl
    exact Or.inr ⟨b, o, rfl, fun j hj => ⟨(World.cell?_of_block (a := ⟨b, o + j * 2, none⟩) hb').trans (h3 j hj).1, (World.cell?_of_block (a := ⟨b, o + j * 2 + 1, none⟩) hb').trans (h3 j hj).2⟩⟩
def rfLog (v : Value) (l : List (Int × Bool)) : RF := ⟨fun b => v.ownBlock = some b ∧ l.length ≠ 0, fun w => LogOf w v l, fun w h b hb => by
  obtain ⟨a, c, rfl, h1, h2, h3⟩ := h
  rcases h3 with h3 | ⟨b', o, rfl, h3⟩
  · exact absurd h3 hb.2
  · have := World.block_lt_of_cell? w _ (h3 0 (by omega)).1
    have e : some b' = some b := hb.1
    cases e
    exact this, fun w w' h hb => by
  by_cases h0 : l.length = 0
  · obtain ⟨a, c, rfl, h1, h2, _⟩ := h
    exact ⟨a, c, rfl, h1, h2, Or.inl h0⟩
  · exact logOf_st h (fun b he => hb b ⟨he, h0⟩)⟩
section
variable {P : Program} {w0 : World} {r : Option Nat} {bs : List Nat} {s : SS} {F : List RF} {a : Act} {w : World}
theorem Sy.run {g : Nat} {l : List (Int × Bool)} (S : Sy w0 r bs s (rfRun g l :: F) a w) : RunAt w g l := S.fact (f := rfRun g l) (by simp)
theorem Sy.cur {g : Nat} {x : CSt} (S : Sy w0 r bs s (rfCur g x :: F) a w) : CurAt w g x := S.fact (f := rfCur g x) (by simp)
theorem sy_acc {g : Nat} {l l' : List (Int × Bool)} {c : Cfg} (S : Sy w0 r bs c.s (rfRun g l :: F) a w) (h0 : r = some g ∨ w0.heap.size ≤ g) {v : Value} {f : FuncId} {args : Array Value} {Q : Exit → Act → World → Prop}
    (hC : Calls P f args w fun e w' => e = .returned v ∧ RunAt w' g l' ∧ w.grownBy w' (some g))
    (hh : (headC P c).map (fun q => (q.1, q.2.map (den bs))) = some (f, args.toList)) (hF : ∀ f ∈ F, ¬f.bl g)
    (h : ∀ a' w', Sy w0 r bs (aftC c (.v v)).s (rfRun g l' :: F) a' w' → post P (aftC c (.v v)).k Q .normal a' w') : post P c.k Q .normal a w := by
  have hap := (S.fs _ (by simp : rfRun g l ∈ rfRun g l :: F)).2
  refine sy_callG S h0 (X := Unit) (val := fun _ => v) (C := fun _ w' => RunAt w' g l') (hC.mono fun e w' h => ⟨(), h.1, h.2⟩) hh F (fun f hf => ⟨List.mem_cons_of_mem _ hf, hF f hf⟩) (fun i hi he => hap i hi (by show _ ≤ g; rw [he]; exact Nat.le_refl _)) ?_
  intro _ a' w' hR _ S'
  exact h a' w' (S'.add (rfRun g l') hR hap)
theorem sy_cur {g : Nat} {x x' : CSt} {c : Cfg} (S : Sy w0 r bs c.s (rfCur g x :: F) a w) (h0 : r = some g ∨ w0.heap.size ≤ g) {v : Value} {f : FuncId} {args : Array Value} {Q : Exit → Act → World → Prop}
    (hC : Calls P f args w fun e w' => e = .returned v ∧ CurAt w' g x' ∧ w.grownBy w' (some g))
    (hh : (headC P c).map (fun q => (q.1, q.2.map (den bs))) = some (f, args.toList)) (hF : ∀ f ∈ F, ¬f.bl g)
    (h : ∀ a' w', Sy w0 r bs (aftC c (.v v)).s (rfCur g x' :: F) a' w' → post P (aftC c (.v v)).k Q .normal a' w') : post P c.k Q .normal a w := by
  have hap := (S.fs _ (by simp : rfCur g x ∈ rfCur g x :: F)).2
  refine sy_callG S h0 (X := Unit) (val := fun _ => v) (C := fun _ w' => CurAt w' g x') (hC.mono fun e w' h => ⟨(), h.1, h.2⟩) hh F (fun f hf => ⟨List.mem_cons_of_mem _ hf, hF f hf⟩) (fun i hi he => hap i hi (by show _ ≤ g; rw [he]; exact Nat.le_refl _)) ?_
  intro _ a' w' hR _ S'
  exact h a' w' (S'.add (rfCur g x') hR hap)
end
end Go.Proofs.YtfahnmpcclhjlaaGreat.SX

namespace Go.Proofs.YtfahnmpcclhjlaaGreat
open Go Go.RowKit SX
set_option linter.unusedVariables false
set_option linter.unusedSectionVars false
set_option linter.unusedSimpArgs false
set_option maxRecDepth 100000
theorem getD_drop (l : List (Int × Bool)) (k j : Nat) (d : Int × Bool) : (l.drop k).getD j d = l.getD (k + j) d := by simp [List.getD, List.getElem?_drop]
theorem getD_take (l : List (Int × Bool)) (k j : Nat) (d : Int × Bool) (h : j < k) : (l.take k).getD j d = l.getD j d := by simp [List.getD, List.getElem?_take, h]
def RunA (w : World) (g : Nat) (a : Option Addr) (c : Nat) (l : List (Int × Bool)) : Prop :=
  w.cell? ⟨g, 0, none⟩ = some (.slice a l.length c) ∧ w.frozen? ⟨g, 0, none⟩ = false ∧ l.length ≤ c ∧ c ≤ 9223372036854775807 ∧ (l.length = 0 ∨ ∃ b o, a = some ⟨b, o, none⟩ ∧ b < g ∧ ∀ j, j < l.length → w.cell? ⟨b, o + j * 2, none⟩ = some (.int .i64 (l.getD j (0, false)).1) ∧ w.cell? ⟨b, o + j * 2 + 1, none⟩ = some (.bool (l.getD j (0, false)).2))
theorem runA_le {w w' : World} {g c : Nat} {a : Option Addr} {l : List (Int × Bool)} (h : RunA w g a c l) (hb : ∀ b, b ≤ g → w'.heap[b]? = w.heap[b]?) : RunA w' g a c l := by
  obtain ⟨h1, h2, h3, h4, h5⟩ := h
  refine ⟨(World.cell?_of_block (a := ⟨g, 0, none⟩) (hb g (Nat.le_refl _))).trans h1, (World.frozen?_of_block (a := ⟨g, 0, none⟩) (hb g (Nat.le_refl _))).trans h2, h3, h4, ?_⟩
  rcases h5 with h5 | ⟨b, o, rfl, h5, h6⟩
  · exact Or.inl h5
  · exact Or.inr ⟨b, o, rfl, h5, fun j hj => ⟨(World.cell?_of_block (a := ⟨b, o + j * 2, none⟩) (hb b (by omega))).trans (h6 j hj).1, (World.cell?_of_block (a := ⟨b, o + j * 2 + 1, none⟩) (hb b (by omega))).trans (h6 j hj).2⟩⟩
def rfRunA (g : Nat) (a : Option Addr) (c : Nat) (l : List (Int × Bool)) : RF := ⟨fun b => b ≤ g, fun w => RunA w g a c l, fun w h b hb => Nat.lt_of_le_of_lt hb (World.block_lt_of_cell? w _ h.1), fun w w' h hb => runA_le h hb⟩
section
variable {w : World} {g k c : Nat} {a : Option Addr} {l : List (Int × Bool)} (h : RunA w g a c l)
include w g k c a l h
theorem runA_cut (hk : k ≤ l.length) : RunAt (w.setCell ⟨g, 0, none⟩ (.slice (slA c k 2 a) (l.length - k) (c - k))) g (l.drop k) := by
  obtain ⟨h1, h2, h3, h4, h5⟩ := h
  refine ⟨slA c k 2 a, c - k, ?_, by simpa using h2, by simp; omega, by omega, ?_⟩
  · rw [List.length_drop]; exact World.cell?_setCell_same _ _ _ h1
  · by_cases he : k = l.length
    · exact Or.inl (by simp; omega)
    · rcases h5 with h5 | ⟨b, o, rfl, h5, h6⟩
      · omega
      · refine Or.inr ⟨b, o + k * 2, ?_, h5, fun j hj => ?_⟩
        · unfold slA
          rw [if_neg (by omega)]
          simp [addr_addS]
        · simp only [List.length_drop] at hj
          obtain ⟨q1, q2⟩ := h6 (k + j) (by omega)
          rw [getD_drop, show o + k * 2 + j * 2 = o + (k + j) * 2 by omega]
          exact ⟨keepA_ q1 (Or.inl (by omega)), keepA_ q2 (Or.inl (by omega))⟩
theorem logOf_cut (hk : k ≤ l.length) : LogOf w (.slice (slA c 0 2 a) k c) (l.take k) := by
  obtain ⟨h1, h2, h3, h4, h5⟩ := h
  have hl : (l.take k).length = k := by simp; omega
  refine ⟨slA c 0 2 a, c, by rw [hl], by rw [hl]; omega, h4, ?_⟩
  by_cases hk0 : k = 0
  · exact Or.inl (by omega)
  · rcases h5 with h5 | ⟨b, o, rfl, h5, h6⟩
    · omega
    · refine Or.inr ⟨b, o, ?_, fun j hj => ?_⟩
      · unfold slA
        rw [if_neg (by omega)]
        simp [addr_addS]
      · rw [hl] at hj
        rw [getD_take _ _ _ _ hj]
        exact h6 j (by omega)
theorem runA_own : ∀ b, (Value.slice (slA c 0 2 a) k c).ownBlock = some b → (l.take k).length ≠ 0 → b < g := by
  intro b hb hk
  obtain ⟨h1, h2, h3, h4, h5⟩ := h
  rcases h5 with h5 | ⟨b', o, rfl, h5, h6⟩
  · rw [List.length_take] at hk; omega
  · have h8 : 0 < l.length := by rw [List.length_take] at hk; omega
    have h9 : slA c 0 2 (some ⟨b', o, none⟩) = some ⟨b', o, none⟩ := by
      unfold slA
      rw [if_neg (by omega)]
      simp [addr_addS]
    rw [h9] at hb
    have e : some b' = some b := hb
    cases e
    exact h5
end
attribute [local irreducible] post
noncomputable def caC (g : Nat) (c0 c1 : Value) : Cfg := runC Tryz.prog ⟨0, []⟩ 50 (cfg0 Tryz.f38 #[.pointer (some ⟨g, 0, none⟩), (.func (.func 39) #[] #[c0, c1])])
noncomputable def caS (g : Nat) (c0 c1 : Value) (j : Nat) : SS := ⟨(caC g c0 c1).s.n, [(0, .v (.pointer (some ⟨g, 0, none⟩))), (1, .v (.func (.func 39) #[] #[c0, c1])), (4, .p 0 0), (5, .v (.int .i64 (j : Int)))], [⟨42, [.int .i64 0, .int .i64 0, .int .i64 0, .int .i64 0, .bool false, .bool false, .int .i64 0]⟩]⟩
def CaF (w : World) (g : Nat) (l : List (Int × Bool)) (c0 c1 : Value) (X : List (Int × Bool) → Ask ⊕ OutD) : Prop :=
  ∀ w2 v k, w.grownBy w2 (some g) → k ≤ l.length → LogOf w2 v (l.take k) → (∀ b, v.ownBlock = some b → (l.take k).length ≠ 0 → b < g) → Calls Tryz.prog 39 #[v, c0, c1] w2 fun e w' => e = .returned (nextV (X (l.take k))) ∧ Below w2.heap.size w2 w'
section
variable (w0 : World) (g : Nat) (c0 c1 : Value) (l : List (Int × Bool)) (hl : l.length ≤ 1000000) (X : List (Int × Bool) → Ask ⊕ OutD) (hF : CaF w0 g l c0 c1 X)
include w0 g c0 c1 l hl X hF
section
variable (ad : Option Addr) (cp : Nat) (hcp : l.length ≤ cp)
include ad cp hcp
set_option maxHeartbeats 8000000 in
theorem ca_more (n j : Nat) (hj : j < l.length) (q : Ask) (hx : X (l.take j) = .inl q) {R : Ending → World → Prop} (ih : ∀ (bs : List Nat) (aa : Act) (w : World), Sy w0 (some g) bs (caS g c0 c1 (j + 1)) [rfRunA g ad cp l] aa w → post Tryz.prog (.rnd n (bodyL (caC g c0 c1)) :: (caC g c0 c1).k.tail) (bodyPost Tryz.prog Tryz.f38 R) .normal aa w) (bs : List Nat) (aa : Act) (w : World) (S : Sy w0 (some g) bs (caS g c0 c1 j) [rfRunA g ad cp l] aa w) : post Tryz.prog (.rnd (n + 1) (bodyL (caC g c0 c1)) :: (caC g c0 c1).k.tail) (bodyPost Tryz.prog Tryz.f38 R) .normal aa w := by
  refine sy_run (c := ⟨.rnd (n + 1) (bodyL (caC g c0 c1)) :: (caC g c0 c1).k.tail, caS g c0 c1 j⟩) ⟨0, [3]⟩ 50 S fun bs aa w S => ?_
  refine sy_reg S fun S => ?_
  refine sy_ops 4 S fun bs aa w S => ?_
  refine sy_ldf S (S.fact (f := rfRunA g ad cp l) (by simp)).1 (by kernel_rfl) fun aa S => ?_
  refine sy_ops 1 S fun bs aa w S => ?_
  refine sy_slh (ad := ad) (len := l.length) (cap := cp) (n := j) (size := 2) S (by kernel_rfl) rfl (by omega) fun aa S => ?_
  have hC := hF w (.slice (slA cp 0 2 ad) j cp) j S.gr (by omega) (logOf_cut (S.fact (f := rfRunA g ad cp l) (by simp)) (by omega)) (runA_own (S.fact (f := rfRunA g ad cp l) (by simp)))
  rw [hx] at hC
  refine sy_call1 S hC (by kernel_rfl) fun aa w hb S => ?_
  refine sy_run ⟨0, [5, 7]⟩ 80 S fun bs aa w S => ?_
  refine sy_reg S fun S => ?_
  refine sy_ops 4 S fun bs aa w S => ?_
  refine sy_ldf S (S.fact (f := rfRunA g ad cp l) (by simp)).1 (by kernel_rfl) fun aa S => ?_
  refine sy_ops 3 S fun bs aa w S => ?_
  refine sy_cond false S (by simp; omega : decide ((j : Int) = (l.length : Int)) = false) (by kernel_rfl) fun S => ?_
  refine sy_run ⟨0, [2]⟩ 50 S fun bs aa w S => ?_
  refine sy_reg S fun S => ?_
  refine sy_ops 2 S fun bs aa w S => ?_
  refine sy_cast 10 S (congrArg (Value.int .i64) (by rw [IntKind.wrap_i64]; omega : IntKind.i64.wrap ((j : Int) + 1) = ((j + 1 : Nat) : Int))) (by kernel_rfl) fun S => ?_
  refine sy_run ⟨0, [999]⟩ 50 S fun bs aa w S => ?_
  have S' := S.to [0] (caS g c0 c1 (j + 1)) (by kernel_rfl) (by kernel_rfl) (by kernel_rfl) (by kernel_rfl) (by kernel_rfl)
  refine sy_at (k := .rnd n (bodyL (caC g c0 c1)) :: (caC g c0 c1).k.tail) (by kernel_rfl) ?_
  exact ih _ aa w S'
set_option maxHeartbeats 8000000 in
theorem ca_last (n : Nat) (q : Ask) (hx : X l = .inl q) (bs : List Nat) (aa : Act) (w : World) (S : Sy w0 (some g) bs (caS g c0 c1 l.length) [rfRunA g ad cp l] aa w) : post Tryz.prog (.rnd (n + 1) (bodyL (caC g c0 c1)) :: (caC g c0 c1).k.tail) (bodyPost Tryz.prog Tryz.f38 (fun e w' => e = .panicked [{ v := .iface 78 q.v, recovered := false }] ∧ w0.grownBy w' (some g))) .normal aa w := by
  obtain ⟨j, hj⟩ : ∃ j, j = l.length := ⟨_, rfl⟩
  rw [← hj] at S
  have hx : X (l.take j) = .inl q := by rw [hj, List.take_length]; exact hx
  refine sy_run (c := ⟨.rnd (n + 1) (bodyL (caC g c0 c1)) :: (caC g c0 c1).k.tail, caS g c0 c1 j⟩) ⟨0, [3]⟩ 50 S fun bs aa w S => ?_
  refine sy_reg S fun S => ?_
  refine sy_ops 4 S fun bs aa w S => ?_
  refine sy_ldf S (S.fact (f := rfRunA g ad cp l) (by simp)).1 (by kernel_rfl) fun aa S => ?_
  refine sy_ops 1 S fun bs aa w S => ?_
  refine sy_slh (ad := ad) (len := l.length) (cap := cp) (n := j) (size := 2) S (by kernel_rfl) rfl (by omega) fun aa S => ?_
  have hC := hF w (.slice (slA cp 0 2 ad) j cp) j S.gr (by omega) (logOf_cut (S.fact (f := rfRunA g ad cp l) (by simp)) (by omega)) (runA_own (S.fact (f := rfRunA g ad cp l) (by simp)))
  rw [hx] at hC
  refine sy_call1 S hC (by kernel_rfl) fun aa w hb S => ?_
  refine sy_run ⟨0, [5, 7]⟩ 80 S fun bs aa w S => ?_
  refine sy_reg S fun S => ?_
  refine sy_ops 4 S fun bs aa w S => ?_
  refine sy_ldf S (S.fact (f := rfRunA g ad cp l) (by simp)).1 (by kernel_rfl) fun aa S => ?_
  refine sy_ops 3 S fun bs aa w S => ?_
  refine sy_cond true S (by simp; omega : decide ((j : Int) = (l.length : Int)) = true) (by kernel_rfl) fun S => ?_
  refine sy_run ⟨0, []⟩ 50 S fun bs aa w S => ?_
  exact sy_thr S (by kernel_rfl) ⟨rfl, S.gr⟩
set_option maxHeartbeats 8000000 in
theorem ca_done (n j : Nat) (hj : j ≤ l.length) (o : OutD) (hx : X (l.take j) = .inr o) (bs : List Nat) (aa : Act) (w : World) (S : Sy w0 (some g) bs (caS g c0 c1 j) [rfRunA g ad cp l] aa w) : post Tryz.prog (.rnd (n + 1) (bodyL (caC g c0 c1)) :: (caC g c0 c1).k.tail) (bodyPost Tryz.prog Tryz.f38 (fun e w' => e = .returned o.v ∧ RunAt w' g (l.drop j) ∧ w0.grownBy w' (some g))) .normal aa w := by
  refine sy_run (c := ⟨.rnd (n + 1) (bodyL (caC g c0 c1)) :: (caC g c0 c1).k.tail, caS g c0 c1 j⟩) ⟨0, [3]⟩ 50 S fun bs aa w S => ?_
  refine sy_reg S fun S => ?_
  refine sy_ops 4 S fun bs aa w S => ?_
  refine sy_ldf S (S.fact (f := rfRunA g ad cp l) (by simp)).1 (by kernel_rfl) fun aa S => ?_
  refine sy_ops 1 S fun bs aa w S => ?_
  refine sy_slh (ad := ad) (len := l.length) (cap := cp) (n := j) (size := 2) S (by kernel_rfl) rfl (by omega) fun aa S => ?_
  have hC := hF w (.slice (slA cp 0 2 ad) j cp) j S.gr (by omega) (logOf_cut (S.fact (f := rfRunA g ad cp l) (by simp)) (by omega)) (runA_own (S.fact (f := rfRunA g ad cp l) (by simp)))
  rw [hx] at hC
  refine sy_call1 S hC (by kernel_rfl) fun aa w hb S => ?_
  refine sy_run ⟨0, [5, 7]⟩ 80 S fun bs aa w S => ?_
  refine sy_reg S fun S => ?_
  refine sy_ops 4 S fun bs aa w S => ?_
  refine sy_ldf S (S.fact (f := rfRunA g ad cp l) (by simp)).1 (by kernel_rfl) fun aa S => ?_
  refine sy_ops 1 S fun bs aa w S => ?_
  refine sy_sll (ad := ad) (len := l.length) (cap := cp) (n := j) (size := 2) S (by kernel_rfl) rfl (by omega) fun aa S => ?_
  refine sy_run ⟨0, []⟩ 50 S fun bs aa w S => ?_
  have hap := (S.fs _ (by simp : rfRunA g ad cp l ∈ [rfRunA g ad cp l])).2
  have hA : RunA w g ad cp l := S.fact (f := rfRunA g ad cp l) (by simp)
  refine sy_stf (g := g) (o := 0) (ty := 33) (v := .slice (slA cp j 2 ad) (l.length - j) (cp - j)) S (by kernel_rfl) (by kernel_rfl) rfl rfl (by rw [hA.1]; rfl) hA.2.1 (fun i hi he => hap i hi (by show _ ≤ g; omega)) [] (by simp) fun aa S => ?_
  have S := S.add (rfRun g (l.drop j)) (runA_cut hA hj) hap
  refine sy_run ⟨0, []⟩ 50 S fun bs aa w S => ?_
  exact sy_ret S (by kernel_rfl) (by kernel_rfl) fun hg => ⟨rfl, S.run, hg⟩
theorem ca_ret (k : Nat) (hk : k ≤ l.length) (o : OutD) (hx : X (l.take k) = .inr o) (hlt : ∀ j, j < k → ∃ q, X (l.take j) = .inl q) :
    ∀ (r j n : Nat), j + r = k → r < n → ∀ (bs : List Nat) (aa : Act) (w : World), Sy w0 (some g) bs (caS g c0 c1 j) [rfRunA g ad cp l] aa w → post Tryz.prog (.rnd n (bodyL (caC g c0 c1)) :: (caC g c0 c1).k.tail) (bodyPost Tryz.prog Tryz.f38 (fun e w' => e = .returned o.v ∧ RunAt w' g (l.drop k) ∧ w0.grownBy w' (some g))) .normal aa w := by
  intro r
  induction r with
  | zero =>
    intro j n hj hn bs aa w S
    obtain ⟨n, rfl⟩ : ∃ m, n = m + 1 := ⟨n - 1, by omega⟩
    obtain rfl : j = k := by omega
    exact ca_done w0 g c0 c1 l hl X hF ad cp hcp n j hk o hx bs aa w S
  | succ r ih =>
    intro j n hj hn bs aa w S
    obtain ⟨n, rfl⟩ : ∃ m, n = m + 1 := ⟨n - 1, by omega⟩
    obtain ⟨q, hq⟩ := hlt j (by omega)
    exact ca_more w0 g c0 c1 l hl X hF ad cp hcp n j (by omega) q hq (fun bs aa w S => ih (j + 1) n (by omega) (by omega) bs aa w S) bs aa w S
theorem ca_pan (q : Ask) (hx : X l = .inl q) (hlt : ∀ j, j < l.length → ∃ q, X (l.take j) = .inl q) :
    ∀ (r j n : Nat), j + r = l.length → r < n → ∀ (bs : List Nat) (aa : Act) (w : World), Sy w0 (some g) bs (caS g c0 c1 j) [rfRunA g ad cp l] aa w → post Tryz.prog (.rnd n (bodyL (caC g c0 c1)) :: (caC g c0 c1).k.tail) (bodyPost Tryz.prog Tryz.f38 (fun e w' => e = .panicked [{ v := .iface 78 q.v, recovered := false }] ∧ w0.grownBy w' (some g))) .normal aa w := by
  intro r
  induction r with
  | zero =>
    intro j n hj hn bs aa w S
    obtain ⟨n, rfl⟩ : ∃ m, n = m + 1 := ⟨n - 1, by omega⟩
    obtain rfl : j = l.length := by omega
    exact ca_last w0 g c0 c1 l hl X hF ad cp hcp n q hx bs aa w S
  | succ r ih =>
    intro j n hj hn bs aa w S
    obtain ⟨n, rfl⟩ : ∃ m, n = m + 1 := ⟨n - 1, by omega⟩
    obtain ⟨q, hq⟩ := hlt j (by omega)
    exact ca_more w0 g c0 c1 l hl X hF ad cp hcp n j (by omega) q hq (fun bs aa w S => ih (j + 1) n (by omega) (by omega) bs aa w S) bs aa w S
end
set_option maxHeartbeats 4000000 in
theorem call_ret (hR : RunAt w0 g l) (k : Nat) (hk : k ≤ l.length) (o : OutD) (hx : X (l.take k) = .inr o) (hlt : ∀ j, j < k → ∃ q, X (l.take j) = .inl q) : Calls Tryz.prog 38 #[.pointer (some ⟨g, 0, none⟩), (.func (.func 39) #[] #[c0, c1])] w0 fun e w' => e = .returned o.v ∧ RunAt w' g (l.drop k) ∧ w0.grownBy w' (some g) := by
  obtain ⟨ad, cp, hR⟩ := hR
  refine sy_enterF (some g) [rfRunA g ad cp l] (by intro f hf; simp at hf; subst hf; exact hR) Tryz.func38 rfl fun aa S => ?_
  refine sy_run ⟨0, []⟩ 50 S fun bs aa w1 S => ?_
  have S' := S.to [0] (caS g c0 c1 0) (by kernel_rfl) (by kernel_rfl) (by kernel_rfl) (by kernel_rfl) (by kernel_rfl)
  refine sy_loop (l.length + 1) (by kernel_rfl) ?_
  exact ca_ret w0 g c0 c1 l hl X hF ad cp hR.2.2.1 k hk o hx hlt k 0 (l.length + 1) (by omega) (by omega) _ aa w1 S'
set_option maxHeartbeats 4000000 in
theorem call_pan (hR : RunAt w0 g l) (q : Ask) (hx : X l = .inl q) (hlt : ∀ j, j < l.length → ∃ q, X (l.take j) = .inl q) : Calls Tryz.prog 38 #[.pointer (some ⟨g, 0, none⟩), (.func (.func 39) #[] #[c0, c1])] w0 fun e w' => e = .panicked [{ v := .iface 78 q.v, recovered := false }] ∧ w0.grownBy w' (some g) := by
  obtain ⟨ad, cp, hR⟩ := hR
  refine sy_enterF (some g) [rfRunA g ad cp l] (by intro f hf; simp at hf; subst hf; exact hR) Tryz.func38 rfl fun aa S => ?_
  refine sy_run ⟨0, []⟩ 50 S fun bs aa w1 S => ?_
  have S' := S.to [0] (caS g c0 c1 0) (by kernel_rfl) (by kernel_rfl) (by kernel_rfl) (by kernel_rfl) (by kernel_rfl)
  refine sy_loop (l.length + 1) (by kernel_rfl) ?_
  exact ca_pan w0 g c0 c1 l hl X hF ad cp hR.2.2.1 q hx hlt l.length 0 (l.length + 1) (by omega) (by omega) _ aa w1 S'
end
end Go.Proofs.YtfahnmpcclhjlaaGreat

namespace Go.Proofs.YtfahnmpcclhjlaaGreat
open Go Go.RowKit SX
set_option linter.unusedVariables false
set_option linter.unusedSectionVars false
set_option maxRecDepth 100000
attribute [local irreducible] post
theorem toBelow {P : Program} {f : FuncId} {args : Array Value} {w : World} {v : Value} (h : Calls P f args w fun e w' => e = .returned v ∧ w = w') : Calls P f args w fun e w' => e = .returned v ∧ Below w.heap.size w w' :=
  h.mono fun e w' ⟨h1, h2⟩ => ⟨h1, h2 ▸ Below.refl _ _⟩
theorem join_any (t m : Int) (hm : I64 m) (w : World) : Calls Tryz.prog 76 #[.agg #[.int .i64 t], .int .i64 m] w fun e w' => e = .returned (.int .i64 (withT m t)) ∧ Below w.heap.size w w' := by
  refine sy_enter Tryz.func76 rfl fun a S => ?_
  refine sy_run ⟨0, []⟩ 100 S fun bs a w1 S => ?_
  refine sy_call1 S (toBelow (wwith_any m t hm w1)) (by kernel_rfl) fun a w2 hb S => ?_
  refine sy_run ⟨0, []⟩ 100 S fun bs a w3 S => ?_
  exact sy_ret S (by kernel_rfl) (by kernel_rfl) fun g => ⟨rfl, below_of_gr g⟩
theorem quit_any (t m : Int) (hm : I64 m) (w : World) : Calls Tryz.prog 77 #[.agg #[.int .i64 t], .int .i64 m] w fun e w' => e = .returned (.int .i64 (sansT m t)) ∧ Below w.heap.size w w' := by
  refine sy_enter Tryz.func77 rfl fun a S => ?_
  refine sy_run ⟨0, []⟩ 100 S fun bs a w1 S => ?_
  refine sy_call1 S (toBelow (wwithout_any m t hm w1)) (by kernel_rfl) fun a w2 hb S => ?_
  refine sy_run ⟨0, []⟩ 100 S fun bs a w3 S => ?_
  exact sy_ret S (by kernel_rfl) (by kernel_rfl) fun g => ⟨rfl, below_of_gr g⟩
def runV (ap : Int → Int) (cell : Int) : List (Int × Bool) → Ask ⊕ OutD
  | [] => .inl ⟨1, cell, 0, 0⟩
  | r :: l => if ap r.1 = r.1 then .inr {} else match l with
    | [] => .inl ⟨3, cell, r.1, ap r.1⟩
    | (_, true) :: _ => .inr { ok := true }
    | (_, false) :: l => runV ap cell l
noncomputable def vc_join (cell t : Int) (g : Nat) : Cfg := runC Tryz.prog ⟨0, []⟩ 50 (cfg0 Tryz.f58 #[.agg #[.int .i64 cell, .func (.func 76) #[.agg #[.int .i64 t]] #[]], .pointer (some ⟨g, 0, none⟩)])
noncomputable def vs_join (cell t : Int) (g : Nat) : SS := ⟨26, [(1, .v (.pointer (some ⟨g, 0, none⟩))), (2, .p 0 0), (4, .p 1 0)], [⟨105, [.int .i64 cell, .func (.func 76) #[.agg #[.int .i64 t]] #[]]⟩, ⟨42, [.int .i64 0, .int .i64 0, .int .i64 0, .int .i64 0, .bool false, .bool false, .int .i64 0]⟩]⟩
set_option maxHeartbeats 8000000 in
theorem vk_join (w0 : World) (cell t : Int) (g : Nat) (N : Nat) : ∀ (l : List (Int × Bool)) (n : Nat) (bs : List Nat) (a : Act) (w : World), l.length < N → l.length < n → (∀ x ∈ l, I64 x.1) → Sy w0 (some g) bs (vs_join cell t g) [rfRun g l] a w →
    post Tryz.prog (.rnd n (bodyL (vc_join cell t g)) :: (vc_join cell t g).k.tail) (bodyPost Tryz.prog Tryz.f58 (OpPost (runV (fun m => withT m t) cell l) g w0)) .normal a w := by
  induction N with
  | zero => intro l n bs a w h; omega
  | succ N ih =>
    intro l n bs a w hN hn hI S
    obtain ⟨n, rfl⟩ : ∃ m, n = m + 1 := ⟨n - 1, by omega⟩
    rcases l with _ | ⟨r, l⟩
    · refine sy_run (c := ⟨.rnd (n + 1) (bodyL (vc_join cell t g)) :: (vc_join cell t g).k.tail, vs_join cell t g⟩) ⟨0, []⟩ 50 S fun bs a w S => ?_
      exact sy_panic S ((load_none w g cell S.run).mono fun e w' h => ⟨h.1, gb_of_below _ h.2⟩) (by kernel_rfl) fun w' hg => ⟨rfl, hg⟩
    · rcases Decidable.em ((fun m => withT m t) r.1 = r.1) with hr | hr
      · have e : runV (fun m => withT m t) cell (r :: l) = .inr {} := by unfold runV; rw [if_pos hr]
        refine sy_run (c := ⟨.rnd (n + 1) (bodyL (vc_join cell t g)) :: (vc_join cell t g).k.tail, vs_join cell t g⟩) ⟨0, []⟩ 50 S fun bs a w S => ?_
        refine sy_acc S (Or.inl rfl) (load_some w g r l cell S.run) (by kernel_rfl) (by simp) fun a w S => ?_
        refine sy_run ⟨0, []⟩ 50 S fun bs a w S => ?_
        refine sy_call1 S (join_any t r.1 (hI r (by simp)) w) (by kernel_rfl) fun a w hb S => ?_
        refine sy_run ⟨0, [3]⟩ 50 S fun bs a w S => ?_
        refine sy_reg S fun S => ?_
        refine sy_ops 4 S fun bs a w S => ?_
        refine sy_cond true S (by simpa using hr : decide ((fun m => withT m t) r.1 = r.1) = true) (by kernel_rfl) fun S => ?_
        refine sy_run ⟨0, []⟩ 50 S fun bs a w S => ?_
        exact sy_ret S (by kernel_rfl) (by kernel_rfl) fun hg => by rw [e]; exact ⟨rfl, hg⟩
      · rcases l with _ | ⟨⟨y, b⟩, l⟩
        · have e : runV (fun m => withT m t) cell [r] = .inl ⟨3, cell, r.1, (fun m => withT m t) r.1⟩ := by unfold runV; rw [if_neg hr]
          refine sy_run (c := ⟨.rnd (n + 1) (bodyL (vc_join cell t g)) :: (vc_join cell t g).k.tail, vs_join cell t g⟩) ⟨0, []⟩ 50 S fun bs a w S => ?_
          refine sy_acc S (Or.inl rfl) (load_some w g r [] cell S.run) (by kernel_rfl) (by simp) fun a w S => ?_
          refine sy_run ⟨0, []⟩ 50 S fun bs a w S => ?_
          refine sy_call1 S (join_any t r.1 (hI r (by simp)) w) (by kernel_rfl) fun a w hb S => ?_
          refine sy_run ⟨0, [3]⟩ 50 S fun bs a w S => ?_
          refine sy_reg S fun S => ?_
          refine sy_ops 4 S fun bs a w S => ?_
          refine sy_cond false S (by simpa using hr : decide ((fun m => withT m t) r.1 = r.1) = false) (by kernel_rfl) fun S => ?_
          refine sy_run ⟨0, []⟩ 50 S fun bs a w S => ?_
          exact sy_panic S ((swap_none w g cell r.1 ((fun m => withT m t) r.1) S.run).mono fun e w' h => ⟨h.1, gb_of_below _ h.2⟩) (by kernel_rfl) fun w' hg => by rw [e]; exact ⟨rfl, hg⟩
        · cases b with
          | true =>
            have e : runV (fun m => withT m t) cell (r :: (y, true) :: l) = .inr { ok := true } := by unfold runV; rw [if_neg hr]
            refine sy_run (c := ⟨.rnd (n + 1) (bodyL (vc_join cell t g)) :: (vc_join cell t g).k.tail, vs_join cell t g⟩) ⟨0, []⟩ 50 S fun bs a w S => ?_
            refine sy_acc S (Or.inl rfl) (load_some w g r ((y, true) :: l) cell S.run) (by kernel_rfl) (by simp) fun a w S => ?_
            refine sy_run ⟨0, []⟩ 50 S fun bs a w S => ?_
            refine sy_call1 S (join_any t r.1 (hI r (by simp)) w) (by kernel_rfl) fun a w hb S => ?_
            refine sy_run ⟨0, [3]⟩ 50 S fun bs a w S => ?_
            refine sy_reg S fun S => ?_
            refine sy_ops 4 S fun bs a w S => ?_
            refine sy_cond false S (by simpa using hr : decide ((fun m => withT m t) r.1 = r.1) = false) (by kernel_rfl) fun S => ?_
            refine sy_run ⟨0, []⟩ 50 S fun bs a w S => ?_
            refine sy_acc S (Or.inl rfl) (swap_some w g (y, true) l cell r.1 ((fun m => withT m t) r.1) S.run) (by kernel_rfl) (by simp) fun a w S => ?_
            refine sy_run ⟨0, []⟩ 50 S fun bs a w S => ?_
            exact sy_ret S (by kernel_rfl) (by kernel_rfl) fun hg => by rw [e]; exact ⟨rfl, hg⟩
          | false =>
            have e : runV (fun m => withT m t) cell (r :: (y, false) :: l) = runV (fun m => withT m t) cell l := by rw [runV, if_neg hr]
            rw [e]
            refine sy_run (c := ⟨.rnd (n + 1) (bodyL (vc_join cell t g)) :: (vc_join cell t g).k.tail, vs_join cell t g⟩) ⟨0, []⟩ 50 S fun bs a w S => ?_
            refine sy_acc S (Or.inl rfl) (load_some w g r ((y, false) :: l) cell S.run) (by kernel_rfl) (by simp) fun a w S => ?_
            refine sy_run ⟨0, []⟩ 50 S fun bs a w S => ?_
            refine sy_call1 S (join_any t r.1 (hI r (by simp)) w) (by kernel_rfl) fun a w hb S => ?_
            refine sy_run ⟨0, [3]⟩ 50 S fun bs a w S => ?_
            refine sy_reg S fun S => ?_
            refine sy_ops 4 S fun bs a w S => ?_
            refine sy_cond false S (by simpa using hr : decide ((fun m => withT m t) r.1 = r.1) = false) (by kernel_rfl) fun S => ?_
            refine sy_run ⟨0, []⟩ 50 S fun bs a w S => ?_
            refine sy_acc S (Or.inl rfl) (swap_some w g (y, false) l cell r.1 ((fun m => withT m t) r.1) S.run) (by kernel_rfl) (by simp) fun a w S => ?_
            refine sy_run ⟨0, [999]⟩ 50 S fun bs a w S => ?_
            have S' := S.to [0, 1] (vs_join cell t g) (by kernel_rfl) (by kernel_rfl) (by kernel_rfl) (by kernel_rfl) (by kernel_rfl)
            refine sy_at (k := .rnd n (bodyL (vc_join cell t g)) :: (vc_join cell t g).k.tail) (by kernel_rfl) ?_
            exact ih l n _ a w (by simp at hN; omega) (by simp at hn; omega) (fun x hx => hI x (by simp [hx])) S'
theorem crun_join (cell t : Int) (g : Nat) (l : List (Int × Bool)) (hI : ∀ x ∈ l, I64 x.1) (w : World) (hR : RunAt w g l) : Calls Tryz.prog 58 #[.agg #[.int .i64 cell, .func (.func 76) #[.agg #[.int .i64 t]] #[]], .pointer (some ⟨g, 0, none⟩)] w (OpPost (runV (fun m => withT m t) cell l) g w) := by
  refine sy_enterF (some g) [rfRun g l] (by intro f hf; simp at hf; subst hf; exact hR) Tryz.func58 rfl fun a S => ?_
  refine sy_run ⟨0, []⟩ 50 S fun bs a w1 S => ?_
  have S' := S.to [0, 1] (vs_join cell t g) (by kernel_rfl) (by kernel_rfl) (by kernel_rfl) (by kernel_rfl) (by kernel_rfl)
  refine sy_loop (l.length + 1) (by kernel_rfl) ?_
  exact vk_join w cell t g (l.length + 1) l (l.length + 1) _ a w1 (by omega) (by omega) hI S'
noncomputable def vc_quit (cell t : Int) (g : Nat) : Cfg := runC Tryz.prog ⟨0, []⟩ 50 (cfg0 Tryz.f58 #[.agg #[.int .i64 cell, .func (.func 77) #[.agg #[.int .i64 t]] #[]], .pointer (some ⟨g, 0, none⟩)])
noncomputable def vs_quit (cell t : Int) (g : Nat) : SS := ⟨26, [(1, .v (.pointer (some ⟨g, 0, none⟩))), (2, .p 0 0), (4, .p 1 0)], [⟨105, [.int .i64 cell, .func (.func 77) #[.agg #[.int .i64 t]] #[]]⟩, ⟨42, [.int .i64 0, .int .i64 0, .int .i64 0, .int .i64 0, .bool false, .bool false, .int .i64 0]⟩]⟩
set_option maxHeartbeats 8000000 in
theorem vk_quit (w0 : World) (cell t : Int) (g : Nat) (N : Nat) : ∀ (l : List (Int × Bool)) (n : Nat) (bs : List Nat) (a : Act) (w : World), l.length < N → l.length < n → (∀ x ∈ l, I64 x.1) → Sy w0 (some g) bs (vs_quit cell t g) [rfRun g l] a w →
    post Tryz.prog (.rnd n (bodyL (vc_quit cell t g)) :: (vc_quit cell t g).k.tail) (bodyPost Tryz.prog Tryz.f58 (OpPost (runV (fun m => sansT m t) cell l) g w0)) .normal a w := by
  induction N with
  | zero => intro l n bs a w h; omega
  | succ N ih =>
    intro l n bs a w hN hn hI S
    obtain ⟨n, rfl⟩ : ∃ m, n = m + 1 := ⟨n - 1, by omega⟩
    rcases l with _ | ⟨r, l⟩
    · refine sy_run (c := ⟨.rnd (n + 1) (bodyL (vc_quit cell t g)) :: (vc_quit cell t g).k.tail, vs_quit cell t g⟩) ⟨0, []⟩ 50 S fun bs a w S => ?_
      exact sy_panic S ((load_none w g cell S.run).mono fun e w' h => ⟨h.1, gb_of_below _ h.2⟩) (by kernel_rfl) fun w' hg => ⟨rfl, hg⟩
    · rcases Decidable.em ((fun m => sansT m t) r.1 = r.1) with hr | hr
      · have e : runV (fun m => sansT m t) cell (r :: l) = .inr {} := by unfold runV; rw [if_pos hr]
        refine sy_run (c := ⟨.rnd (n + 1) (bodyL (vc_quit cell t g)) :: (vc_quit cell t g).k.tail, vs_quit cell t g⟩) ⟨0, []⟩ 50 S fun bs a w S => ?_
        refine sy_acc S (Or.inl rfl) (load_some w g r l cell S.run) (by kernel_rfl) (by simp) fun a w S => ?_
        refine sy_run ⟨0, []⟩ 50 S fun bs a w S => ?_
        refine sy_call1 S (quit_any t r.1 (hI r (by simp)) w) (by kernel_rfl) fun a w hb S => ?_
        refine sy_run ⟨0, [3]⟩ 50 S fun bs a w S => ?_
        refine sy_reg S fun S => ?_
        refine sy_ops 4 S fun bs a w S => ?_
        refine sy_cond true S (by simpa using hr : decide ((fun m => sansT m t) r.1 = r.1) = true) (by kernel_rfl) fun S => ?_
        refine sy_run ⟨0, []⟩ 50 S fun bs a w S => ?_
        exact sy_ret S (by kernel_rfl) (by kernel_rfl) fun hg => by rw [e]; exact ⟨rfl, hg⟩
      · rcases l with _ | ⟨⟨y, b⟩, l⟩
        · have e : runV (fun m => sansT m t) cell [r] = .inl ⟨3, cell, r.1, (fun m => sansT m t) r.1⟩ := by unfold runV; rw [if_neg hr]
          refine sy_run (c := ⟨.rnd (n + 1) (bodyL (vc_quit cell t g)) :: (vc_quit cell t g).k.tail, vs_quit cell t g⟩) ⟨0, []⟩ 50 S fun bs a w S => ?_
          refine sy_acc S (Or.inl rfl) (load_some w g r [] cell S.run) (by kernel_rfl) (by simp) fun a w S => ?_
          refine sy_run ⟨0, []⟩ 50 S fun bs a w S => ?_
          refine sy_call1 S (quit_any t r.1 (hI r (by simp)) w) (by kernel_rfl) fun a w hb S => ?_
          refine sy_run ⟨0, [3]⟩ 50 S fun bs a w S => ?_
          refine sy_reg S fun S => ?_
          refine sy_ops 4 S fun bs a w S => ?_
          refine sy_cond false S (by simpa using hr : decide ((fun m => sansT m t) r.1 = r.1) = false) (by kernel_rfl) fun S => ?_
          refine sy_run ⟨0, []⟩ 50 S fun bs a w S => ?_
          exact sy_panic S ((swap_none w g cell r.1 ((fun m => sansT m t) r.1) S.run).mono fun e w' h => ⟨h.1, gb_of_below _ h.2⟩) (by kernel_rfl) fun w' hg => by rw [e]; exact ⟨rfl, hg⟩
        · cases b with
          | true =>
            have e : runV (fun m => sansT m t) cell (r :: (y, true) :: l) = .inr { ok := true } := by unfold runV; rw [if_neg hr]
            refine sy_run (c := ⟨.rnd (n + 1) (bodyL (vc_quit cell t g)) :: (vc_quit cell t g).k.tail, vs_quit cell t g⟩) ⟨0, []⟩ 50 S fun bs a w S => ?_
            refine sy_acc S (Or.inl rfl) (load_some w g r ((y, true) :: l) cell S.run) (by kernel_rfl) (by simp) fun a w S => ?_
            refine sy_run ⟨0, []⟩ 50 S fun bs a w S => ?_
            refine sy_call1 S (quit_any t r.1 (hI r (by simp)) w) (by kernel_rfl) fun a w hb S => ?_
            refine sy_run ⟨0, [3]⟩ 50 S fun bs a w S => ?_
            refine sy_reg S fun S => ?_
            refine sy_ops 4 S fun bs a w S => ?_
            refine sy_cond false S (by simpa using hr : decide ((fun m => sansT m t) r.1 = r.1) = false) (by kernel_rfl) fun S => ?_
            refine sy_run ⟨0, []⟩ 50 S fun bs a w S => ?_
            refine sy_acc S (Or.inl rfl) (swap_some w g (y, true) l cell r.1 ((fun m => sansT m t) r.1) S.run) (by kernel_rfl) (by simp) fun a w S => ?_
            refine sy_run ⟨0, []⟩ 50 S fun bs a w S => ?_
            exact sy_ret S (by kernel_rfl) (by kernel_rfl) fun hg => by rw [e]; exact ⟨rfl, hg⟩
          | false =>
            have e : runV (fun m => sansT m t) cell (r :: (y, false) :: l) = runV (fun m => sansT m t) cell l := by rw [runV, if_neg hr]
            rw [e]
            refine sy_run (c := ⟨.rnd (n + 1) (bodyL (vc_quit cell t g)) :: (vc_quit cell t g).k.tail, vs_quit cell t g⟩) ⟨0, []⟩ 50 S fun bs a w S => ?_
            refine sy_acc S (Or.inl rfl) (load_some w g r ((y, false) :: l) cell S.run) (by kernel_rfl) (by simp) fun a w S => ?_
            refine sy_run ⟨0, []⟩ 50 S fun bs a w S => ?_
            refine sy_call1 S (quit_any t r.1 (hI r (by simp)) w) (by kernel_rfl) fun a w hb S => ?_
            refine sy_run ⟨0, [3]⟩ 50 S fun bs a w S => ?_
            refine sy_reg S fun S => ?_
            refine sy_ops 4 S fun bs a w S => ?_
            refine sy_cond false S (by simpa using hr : decide ((fun m => sansT m t) r.1 = r.1) = false) (by kernel_rfl) fun S => ?_
            refine sy_run ⟨0, []⟩ 50 S fun bs a w S => ?_
            refine sy_acc S (Or.inl rfl) (swap_some w g (y, false) l cell r.1 ((fun m => sansT m t) r.1) S.run) (by kernel_rfl) (by simp) fun a w S => ?_
            refine sy_run ⟨0, [999]⟩ 50 S fun bs a w S => ?_
            have S' := S.to [0, 1] (vs_quit cell t g) (by kernel_rfl) (by kernel_rfl) (by kernel_rfl) (by kernel_rfl) (by kernel_rfl)
            refine sy_at (k := .rnd n (bodyL (vc_quit cell t g)) :: (vc_quit cell t g).k.tail) (by kernel_rfl) ?_
            exact ih l n _ a w (by simp at hN; omega) (by simp at hn; omega) (fun x hx => hI x (by simp [hx])) S'
theorem crun_quit (cell t : Int) (g : Nat) (l : List (Int × Bool)) (hI : ∀ x ∈ l, I64 x.1) (w : World) (hR : RunAt w g l) : Calls Tryz.prog 58 #[.agg #[.int .i64 cell, .func (.func 77) #[.agg #[.int .i64 t]] #[]], .pointer (some ⟨g, 0, none⟩)] w (OpPost (runV (fun m => sansT m t) cell l) g w) := by
  refine sy_enterF (some g) [rfRun g l] (by intro f hf; simp at hf; subst hf; exact hR) Tryz.func58 rfl fun a S => ?_
  refine sy_run ⟨0, []⟩ 50 S fun bs a w1 S => ?_
  have S' := S.to [0, 1] (vs_quit cell t g) (by kernel_rfl) (by kernel_rfl) (by kernel_rfl) (by kernel_rfl) (by kernel_rfl)
  refine sy_loop (l.length + 1) (by kernel_rfl) ?_
  exact vk_quit w cell t g (l.length + 1) l (l.length + 1) _ a w1 (by omega) (by omega) hI S'
end Go.Proofs.YtfahnmpcclhjlaaGreat

namespace Go.Proofs.YtfahnmpcclhjlaaGreat
open Go Go.RowKit SX
set_option linter.unusedVariables false
set_option linter.unusedSectionVars false
set_option maxRecDepth 100000
attribute [local irreducible] post GD
theorem curAt_stop {w : World} {g : Nat} {s : CSt} (h : CurAt w g s) : w.cell? ⟨g, 7, none⟩ = some (.bool s.2.isSome) := by
  obtain ⟨a, c, at_, all, h0, h1, h2, h3, h4, h5, h6, h7, h8⟩ := h
  exact h7
def runP (has : Int → Bool) (ap : Int → Int) (cell : Int) : List (Int × Bool) → Bool × CSt
  | [] => (false, ([], some ⟨1, cell, 0, 0⟩))
  | r :: l => if has r.1 = true then (false, (l, none)) else match l with
    | [] => (false, ([], some ⟨3, cell, r.1, ap r.1⟩))
    | (_, true) :: l => (true, (l, none))
    | (_, false) :: l => runP has ap cell l
section
variable {t : Int} (ht : 0 ≤ t ∧ t ≤ 61)
include t ht
theorem pw_pos : 0 < pw t := by
  obtain ⟨n, rfl⟩ := Int.eq_ofNat_of_zero_le ht.1
  rw [pw_in (by omega)]
  exact pow_pos' n
theorem has_with (m : Int) : (isIn m t = true) = (withT m t = m) := by
  have := pw_pos ht
  unfold withT
  cases isIn m t
  · simp; omega
  · simp
theorem has_sans (m : Int) : ((!isIn m t) = true) = (sansT m t = m) := by
  have := pw_pos ht
  unfold sansT
  cases isIn m t
  · simp
  · simp; omega
end
theorem isIn_zero (t : Int) : isIn 0 t = false := by unfold isIn tb; simp
noncomputable def pc_put (cell t : Int) (g : Nat) : Cfg := runC Tryz.prog ⟨0, []⟩ 50 (cfg0 Tryz.f32 #[.pointer (some ⟨g, 0, none⟩), .int .i64 cell, .int .i64 t])
noncomputable def ps_put (cell t : Int) (g : Nat) : SS := ⟨(pc_put cell t g).s.n, [(0, .v (.pointer (some ⟨g, 0, none⟩))), (1, .v (.int .i64 cell)), (2, .v (.int .i64 t))], []⟩
set_option maxHeartbeats 8000000 in
theorem pk_put (w0 : World) (cell t : Int) (g : Nat) (N : Nat) : ∀ (l : List (Int × Bool)) (n : Nat) (bs : List Nat) (aa : Act) (w : World), l.length < N → l.length < n → (∀ x ∈ l, I64 x.1) → Sy w0 (some g) bs (ps_put cell t g) [rfCur g (l, none)] aa w →
    post Tryz.prog (.rnd (n + 1) (bodyL (pc_put cell t g)) :: (pc_put cell t g).k.tail) (bodyPost Tryz.prog Tryz.f32 (fun e w' => e = .returned (.bool (runP (fun m => isIn m t) (fun m => withT m t) cell l).1) ∧ CurAt w' g (runP (fun m => isIn m t) (fun m => withT m t) cell l).2 ∧ w0.grownBy w' (some g))) .normal aa w := by
  induction N with
  | zero => intro l n bs a w h; omega
  | succ N ih =>
    intro l n bs aa w hN hn hI S
    obtain ⟨n, rfl⟩ : ∃ m, n = m + 1 := ⟨n - 1, by omega⟩
    rcases l with _ | ⟨r, l⟩
    · have e : runP (fun m => isIn m t) (fun m => withT m t) cell [] = (false, ([], some ⟨1, cell, 0, 0⟩)) := rfl
      refine sy_run (c := ⟨.rnd (n + 1 + 1) (bodyL (pc_put cell t g)) :: (pc_put cell t g).k.tail, ps_put cell t g⟩) ⟨0, []⟩ 50 S fun bs aa w S => ?_
      refine sy_ldf S (curAt_stop S.cur) (by kernel_rfl) fun aa S => ?_
      refine sy_run ⟨0, []⟩ 50 S fun bs aa w S => ?_
      refine sy_cur (x' := ([], some ⟨1, cell, 0, 0⟩)) (v := .int .i64 0) S (Or.inl rfl) (rload_any02 w g ([], none) cell S.cur) (by kernel_rfl) (by simp) fun aa w S => ?_
      refine sy_run ⟨0, []⟩ 50 S fun bs aa w S => ?_
      refine sy_call1 S (toBelow (rin_any 0 t ⟨by decide, by decide⟩ w)) (by kernel_rfl) fun aa w hb S => ?_
      refine sy_run ⟨0, [4]⟩ 50 S fun bs aa w S => ?_
      refine sy_reg S fun S => ?_
      refine sy_ops 2 S fun bs aa w S => ?_
      refine sy_cond false S (isIn_zero t) (by kernel_rfl) fun S => ?_
      refine sy_run ⟨0, []⟩ 50 S fun bs aa w S => ?_
      refine sy_call1 S (toBelow (rwith_any 0 t ⟨by decide, by decide⟩ w)) (by kernel_rfl) fun aa w hb S => ?_
      refine sy_cur (x' := ([], some ⟨1, cell, 0, 0⟩)) (v := .bool false) S (Or.inl rfl) (rcas_any02 w g ([], some ⟨1, cell, 0, 0⟩) cell 0 ((fun m => withT m t) 0) S.cur) (by kernel_rfl) (by simp) fun aa w S => ?_
      refine sy_run ⟨0, []⟩ 50 S fun bs aa w S => ?_
      refine sy_ldf S (curAt_stop S.cur) (by kernel_rfl) fun aa S => ?_
      refine sy_run ⟨0, []⟩ 50 S fun bs aa w S => ?_
      exact sy_ret S (by kernel_rfl) (by kernel_rfl) fun hg => by rw [e]; exact ⟨rfl, S.cur, hg⟩
    · cases hr : (fun m => isIn m t) r.1 with
      | true =>
        have e : runP (fun m => isIn m t) (fun m => withT m t) cell (r :: l) = (false, (l, none)) := by unfold runP; rw [if_pos hr]
        refine sy_run (c := ⟨.rnd (n + 1 + 1) (bodyL (pc_put cell t g)) :: (pc_put cell t g).k.tail, ps_put cell t g⟩) ⟨0, []⟩ 50 S fun bs aa w S => ?_
        refine sy_ldf S (curAt_stop S.cur) (by kernel_rfl) fun aa S => ?_
        refine sy_run ⟨0, []⟩ 50 S fun bs aa w S => ?_
        refine sy_cur (x' := (l, none)) (v := .int .i64 r.1) S (Or.inl rfl) (rload_any02 w g (r :: l, none) cell S.cur) (by kernel_rfl) (by simp) fun aa w S => ?_
        refine sy_run ⟨0, []⟩ 50 S fun bs aa w S => ?_
        refine sy_call1 S (toBelow (rin_any r.1 t (hI r (by simp)) w)) (by kernel_rfl) fun aa w hb S => ?_
        refine sy_run ⟨0, [4]⟩ 50 S fun bs aa w S => ?_
        refine sy_reg S fun S => ?_
        refine sy_ops 2 S fun bs aa w S => ?_
        refine sy_cond true S (hr) (by kernel_rfl) fun S => ?_
        refine sy_run ⟨0, []⟩ 50 S fun bs aa w S => ?_
        exact sy_ret S (by kernel_rfl) (by kernel_rfl) fun hg => by rw [e]; exact ⟨rfl, S.cur, hg⟩
      | false =>
        have hr' : ¬ (fun m => isIn m t) r.1 = true := by rw [hr]; decide
        rcases l with _ | ⟨⟨y, b⟩, l⟩
        · have e : runP (fun m => isIn m t) (fun m => withT m t) cell [r] = (false, ([], some ⟨3, cell, r.1, (fun m => withT m t) r.1⟩)) := by unfold runP; rw [if_neg hr']
          refine sy_run (c := ⟨.rnd (n + 1 + 1) (bodyL (pc_put cell t g)) :: (pc_put cell t g).k.tail, ps_put cell t g⟩) ⟨0, []⟩ 50 S fun bs aa w S => ?_
          refine sy_ldf S (curAt_stop S.cur) (by kernel_rfl) fun aa S => ?_
          refine sy_run ⟨0, []⟩ 50 S fun bs aa w S => ?_
          refine sy_cur (x' := ([], none)) (v := .int .i64 r.1) S (Or.inl rfl) (rload_any02 w g ([r], none) cell S.cur) (by kernel_rfl) (by simp) fun aa w S => ?_
          refine sy_run ⟨0, []⟩ 50 S fun bs aa w S => ?_
          refine sy_call1 S (toBelow (rin_any r.1 t (hI r (by simp)) w)) (by kernel_rfl) fun aa w hb S => ?_
          refine sy_run ⟨0, [4]⟩ 50 S fun bs aa w S => ?_
          refine sy_reg S fun S => ?_
          refine sy_ops 2 S fun bs aa w S => ?_
          refine sy_cond false S (hr) (by kernel_rfl) fun S => ?_
          refine sy_run ⟨0, []⟩ 50 S fun bs aa w S => ?_
          refine sy_call1 S (toBelow (rwith_any r.1 t (hI r (by simp)) w)) (by kernel_rfl) fun aa w hb S => ?_
          refine sy_cur (x' := ([], some ⟨3, cell, r.1, (fun m => withT m t) r.1⟩)) (v := .bool false) S (Or.inl rfl) (rcas_any02 w g ([], none) cell r.1 ((fun m => withT m t) r.1) S.cur) (by kernel_rfl) (by simp) fun aa w S => ?_
          refine sy_run ⟨0, []⟩ 50 S fun bs aa w S => ?_
          refine sy_ldf S (curAt_stop S.cur) (by kernel_rfl) fun aa S => ?_
          refine sy_run ⟨0, []⟩ 50 S fun bs aa w S => ?_
          exact sy_ret S (by kernel_rfl) (by kernel_rfl) fun hg => by rw [e]; exact ⟨rfl, S.cur, hg⟩
        · cases b with
          | true =>
            have e : runP (fun m => isIn m t) (fun m => withT m t) cell (r :: (y, true) :: l) = (true, (l, none)) := by unfold runP; rw [if_neg hr']
            refine sy_run (c := ⟨.rnd (n + 1 + 1) (bodyL (pc_put cell t g)) :: (pc_put cell t g).k.tail, ps_put cell t g⟩) ⟨0, []⟩ 50 S fun bs aa w S => ?_
            refine sy_ldf S (curAt_stop S.cur) (by kernel_rfl) fun aa S => ?_
            refine sy_run ⟨0, []⟩ 50 S fun bs aa w S => ?_
            refine sy_cur (x' := ((y, true) :: l, none)) (v := .int .i64 r.1) S (Or.inl rfl) (rload_any02 w g (r :: (y, true) :: l, none) cell S.cur) (by kernel_rfl) (by simp) fun aa w S => ?_
            refine sy_run ⟨0, []⟩ 50 S fun bs aa w S => ?_
            refine sy_call1 S (toBelow (rin_any r.1 t (hI r (by simp)) w)) (by kernel_rfl) fun aa w hb S => ?_
            refine sy_run ⟨0, [4]⟩ 50 S fun bs aa w S => ?_
            refine sy_reg S fun S => ?_
            refine sy_ops 2 S fun bs aa w S => ?_
            refine sy_cond false S (hr) (by kernel_rfl) fun S => ?_
            refine sy_run ⟨0, []⟩ 50 S fun bs aa w S => ?_
            refine sy_call1 S (toBelow (rwith_any r.1 t (hI r (by simp)) w)) (by kernel_rfl) fun aa w hb S => ?_
            refine sy_cur (x' := (l, none)) (v := .bool true) S (Or.inl rfl) (rcas_any02 w g ((y, true) :: l, none) cell r.1 ((fun m => withT m t) r.1) S.cur) (by kernel_rfl) (by simp) fun aa w S => ?_
            refine sy_run ⟨0, []⟩ 50 S fun bs aa w S => ?_
            exact sy_ret S (by kernel_rfl) (by kernel_rfl) fun hg => by rw [e]; exact ⟨rfl, S.cur, hg⟩
          | false =>
            have e : runP (fun m => isIn m t) (fun m => withT m t) cell (r :: (y, false) :: l) = runP (fun m => isIn m t) (fun m => withT m t) cell l := by rw [runP, if_neg hr']
            rw [e]
            refine sy_run (c := ⟨.rnd (n + 1 + 1) (bodyL (pc_put cell t g)) :: (pc_put cell t g).k.tail, ps_put cell t g⟩) ⟨0, []⟩ 50 S fun bs aa w S => ?_
            refine sy_ldf S (curAt_stop S.cur) (by kernel_rfl) fun aa S => ?_
            refine sy_run ⟨0, []⟩ 50 S fun bs aa w S => ?_
            refine sy_cur (x' := ((y, false) :: l, none)) (v := .int .i64 r.1) S (Or.inl rfl) (rload_any02 w g (r :: (y, false) :: l, none) cell S.cur) (by kernel_rfl) (by simp) fun aa w S => ?_
            refine sy_run ⟨0, []⟩ 50 S fun bs aa w S => ?_
            refine sy_call1 S (toBelow (rin_any r.1 t (hI r (by simp)) w)) (by kernel_rfl) fun aa w hb S => ?_
            refine sy_run ⟨0, [4]⟩ 50 S fun bs aa w S => ?_
            refine sy_reg S fun S => ?_
            refine sy_ops 2 S fun bs aa w S => ?_
            refine sy_cond false S (hr) (by kernel_rfl) fun S => ?_
            refine sy_run ⟨0, []⟩ 50 S fun bs aa w S => ?_
            refine sy_call1 S (toBelow (rwith_any r.1 t (hI r (by simp)) w)) (by kernel_rfl) fun aa w hb S => ?_
            refine sy_cur (x' := (l, none)) (v := .bool false) S (Or.inl rfl) (rcas_any02 w g ((y, false) :: l, none) cell r.1 ((fun m => withT m t) r.1) S.cur) (by kernel_rfl) (by simp) fun aa w S => ?_
            refine sy_run ⟨0, [999]⟩ 50 S fun bs aa w S => ?_
            have S' := S.to [] (ps_put cell t g) (by kernel_rfl) (by kernel_rfl) (by kernel_rfl) (by kernel_rfl) (by kernel_rfl)
            refine sy_at (k := .rnd (n + 1) (bodyL (pc_put cell t g)) :: (pc_put cell t g).k.tail) (by kernel_rfl) ?_
            exact ih l n _ aa w (by simp at hN; omega) (by simp at hn; omega) (fun x hx => hI x (by simp [hx])) S'
set_option maxHeartbeats 4000000 in
theorem pput_any (cell t : Int) (g : Nat) (l : List (Int × Bool)) (hI : ∀ x ∈ l, I64 x.1) (w0 : World) (hR : CurAt w0 g (l, none)) : Calls Tryz.prog 32 #[.pointer (some ⟨g, 0, none⟩), .int .i64 cell, .int .i64 t] w0 (fun e w' => e = .returned (.bool (runP (fun m => isIn m t) (fun m => withT m t) cell l).1) ∧ CurAt w' g (runP (fun m => isIn m t) (fun m => withT m t) cell l).2 ∧ w0.grownBy w' (some g)) := by
  refine sy_enterF (some g) [rfCur g (l, none)] (by intro f hf; simp at hf; subst hf; exact hR) Tryz.func32 rfl fun aa S => ?_
  refine sy_run ⟨0, []⟩ 50 S fun bs aa w1 S => ?_
  have S' := S.to [] (ps_put cell t g) (by kernel_rfl) (by kernel_rfl) (by kernel_rfl) (by kernel_rfl) (by kernel_rfl)
  refine sy_loop (l.length + 1 + 1) (by kernel_rfl) ?_
  exact pk_put w0 cell t g (l.length + 1) l (l.length + 1) _ aa w1 (by omega) (by omega) hI S'
noncomputable def pc_out (cell t : Int) (g : Nat) : Cfg := runC Tryz.prog ⟨0, []⟩ 50 (cfg0 Tryz.f35 #[.pointer (some ⟨g, 0, none⟩), .int .i64 cell, .int .i64 t])
noncomputable def ps_out (cell t : Int) (g : Nat) : SS := ⟨(pc_out cell t g).s.n, [(0, .v (.pointer (some ⟨g, 0, none⟩))), (1, .v (.int .i64 cell)), (2, .v (.int .i64 t))], []⟩
set_option maxHeartbeats 8000000 in
theorem pk_out (w0 : World) (cell t : Int) (g : Nat) (N : Nat) : ∀ (l : List (Int × Bool)) (n : Nat) (bs : List Nat) (aa : Act) (w : World), l.length < N → l.length < n → (∀ x ∈ l, I64 x.1) → Sy w0 (some g) bs (ps_out cell t g) [rfCur g (l, none)] aa w →
    post Tryz.prog (.rnd (n + 1) (bodyL (pc_out cell t g)) :: (pc_out cell t g).k.tail) (bodyPost Tryz.prog Tryz.f35 (fun e w' => e = .returned (.bool (runP (fun m => !isIn m t) (fun m => sansT m t) cell l).1) ∧ CurAt w' g (runP (fun m => !isIn m t) (fun m => sansT m t) cell l).2 ∧ w0.grownBy w' (some g))) .normal aa w := by
  induction N with
  | zero => intro l n bs a w h; omega
  | succ N ih =>
    intro l n bs aa w hN hn hI S
    obtain ⟨n, rfl⟩ : ∃ m, n = m + 1 := ⟨n - 1, by omega⟩
    rcases l with _ | ⟨r, l⟩
    · have e : runP (fun m => !isIn m t) (fun m => sansT m t) cell [] = (false, ([], some ⟨1, cell, 0, 0⟩)) := rfl
      refine sy_run (c := ⟨.rnd (n + 1 + 1) (bodyL (pc_out cell t g)) :: (pc_out cell t g).k.tail, ps_out cell t g⟩) ⟨0, []⟩ 50 S fun bs aa w S => ?_
      refine sy_ldf S (curAt_stop S.cur) (by kernel_rfl) fun aa S => ?_
      refine sy_run ⟨0, []⟩ 50 S fun bs aa w S => ?_
      refine sy_cur (x' := ([], some ⟨1, cell, 0, 0⟩)) (v := .int .i64 0) S (Or.inl rfl) (rload_any02 w g ([], none) cell S.cur) (by kernel_rfl) (by simp) fun aa w S => ?_
      refine sy_run ⟨0, []⟩ 50 S fun bs aa w S => ?_
      refine sy_call1 S (toBelow (rin_any 0 t ⟨by decide, by decide⟩ w)) (by kernel_rfl) fun aa w hb S => ?_
      refine sy_run ⟨0, [4]⟩ 50 S fun bs aa w S => ?_
      refine sy_reg S fun S => ?_
      refine sy_ops 3 S fun bs aa w S => ?_
      refine sy_cond true S (show (!isIn 0 t) = true by rw [isIn_zero t]; rfl) (by kernel_rfl) fun S => ?_
      refine sy_run ⟨0, []⟩ 50 S fun bs aa w S => ?_
      exact sy_ret S (by kernel_rfl) (by kernel_rfl) fun hg => by rw [e]; exact ⟨rfl, S.cur, hg⟩
    · cases hr : (fun m => !isIn m t) r.1 with
      | true =>
        have e : runP (fun m => !isIn m t) (fun m => sansT m t) cell (r :: l) = (false, (l, none)) := by unfold runP; rw [if_pos hr]
        refine sy_run (c := ⟨.rnd (n + 1 + 1) (bodyL (pc_out cell t g)) :: (pc_out cell t g).k.tail, ps_out cell t g⟩) ⟨0, []⟩ 50 S fun bs aa w S => ?_
        refine sy_ldf S (curAt_stop S.cur) (by kernel_rfl) fun aa S => ?_
        refine sy_run ⟨0, []⟩ 50 S fun bs aa w S => ?_
        refine sy_cur (x' := (l, none)) (v := .int .i64 r.1) S (Or.inl rfl) (rload_any02 w g (r :: l, none) cell S.cur) (by kernel_rfl) (by simp) fun aa w S => ?_
        refine sy_run ⟨0, []⟩ 50 S fun bs aa w S => ?_
        refine sy_call1 S (toBelow (rin_any r.1 t (hI r (by simp)) w)) (by kernel_rfl) fun aa w hb S => ?_
        refine sy_run ⟨0, [4]⟩ 50 S fun bs aa w S => ?_
        refine sy_reg S fun S => ?_
        refine sy_ops 3 S fun bs aa w S => ?_
        refine sy_cond true S (hr) (by kernel_rfl) fun S => ?_
        refine sy_run ⟨0, []⟩ 50 S fun bs aa w S => ?_
        exact sy_ret S (by kernel_rfl) (by kernel_rfl) fun hg => by rw [e]; exact ⟨rfl, S.cur, hg⟩
      | false =>
        have hr' : ¬ (fun m => !isIn m t) r.1 = true := by rw [hr]; decide
        rcases l with _ | ⟨⟨y, b⟩, l⟩
        · have e : runP (fun m => !isIn m t) (fun m => sansT m t) cell [r] = (false, ([], some ⟨3, cell, r.1, (fun m => sansT m t) r.1⟩)) := by unfold runP; rw [if_neg hr']
          refine sy_run (c := ⟨.rnd (n + 1 + 1) (bodyL (pc_out cell t g)) :: (pc_out cell t g).k.tail, ps_out cell t g⟩) ⟨0, []⟩ 50 S fun bs aa w S => ?_
          refine sy_ldf S (curAt_stop S.cur) (by kernel_rfl) fun aa S => ?_
          refine sy_run ⟨0, []⟩ 50 S fun bs aa w S => ?_
          refine sy_cur (x' := ([], none)) (v := .int .i64 r.1) S (Or.inl rfl) (rload_any02 w g ([r], none) cell S.cur) (by kernel_rfl) (by simp) fun aa w S => ?_
          refine sy_run ⟨0, []⟩ 50 S fun bs aa w S => ?_
          refine sy_call1 S (toBelow (rin_any r.1 t (hI r (by simp)) w)) (by kernel_rfl) fun aa w hb S => ?_
          refine sy_run ⟨0, [4]⟩ 50 S fun bs aa w S => ?_
          refine sy_reg S fun S => ?_
          refine sy_ops 3 S fun bs aa w S => ?_
          refine sy_cond false S (hr) (by kernel_rfl) fun S => ?_
          refine sy_run ⟨0, []⟩ 50 S fun bs aa w S => ?_
          refine sy_call1 S (toBelow (rwithout_any r.1 t (hI r (by simp)) w)) (by kernel_rfl) fun aa w hb S => ?_
          refine sy_cur (x' := ([], some ⟨3, cell, r.1, (fun m => sansT m t) r.1⟩)) (v := .bool false) S (Or.inl rfl) (rcas_any02 w g ([], none) cell r.1 ((fun m => sansT m t) r.1) S.cur) (by kernel_rfl) (by simp) fun aa w S => ?_
          refine sy_run ⟨0, []⟩ 50 S fun bs aa w S => ?_
          refine sy_ldf S (curAt_stop S.cur) (by kernel_rfl) fun aa S => ?_
          refine sy_run ⟨0, []⟩ 50 S fun bs aa w S => ?_
          exact sy_ret S (by kernel_rfl) (by kernel_rfl) fun hg => by rw [e]; exact ⟨rfl, S.cur, hg⟩
        · cases b with
          | true =>
            have e : runP (fun m => !isIn m t) (fun m => sansT m t) cell (r :: (y, true) :: l) = (true, (l, none)) := by unfold runP; rw [if_neg hr']
            refine sy_run (c := ⟨.rnd (n + 1 + 1) (bodyL (pc_out cell t g)) :: (pc_out cell t g).k.tail, ps_out cell t g⟩) ⟨0, []⟩ 50 S fun bs aa w S => ?_
            refine sy_ldf S (curAt_stop S.cur) (by kernel_rfl) fun aa S => ?_
            refine sy_run ⟨0, []⟩ 50 S fun bs aa w S => ?_
            refine sy_cur (x' := ((y, true) :: l, none)) (v := .int .i64 r.1) S (Or.inl rfl) (rload_any02 w g (r :: (y, true) :: l, none) cell S.cur) (by kernel_rfl) (by simp) fun aa w S => ?_
            refine sy_run ⟨0, []⟩ 50 S fun bs aa w S => ?_
            refine sy_call1 S (toBelow (rin_any r.1 t (hI r (by simp)) w)) (by kernel_rfl) fun aa w hb S => ?_
            refine sy_run ⟨0, [4]⟩ 50 S fun bs aa w S => ?_
            refine sy_reg S fun S => ?_
            refine sy_ops 3 S fun bs aa w S => ?_
            refine sy_cond false S (hr) (by kernel_rfl) fun S => ?_
            refine sy_run ⟨0, []⟩ 50 S fun bs aa w S => ?_
            refine sy_call1 S (toBelow (rwithout_any r.1 t (hI r (by simp)) w)) (by kernel_rfl) fun aa w hb S => ?_
            refine sy_cur (x' := (l, none)) (v := .bool true) S (Or.inl rfl) (rcas_any02 w g ((y, true) :: l, none) cell r.1 ((fun m => sansT m t) r.1) S.cur) (by kernel_rfl) (by simp) fun aa w S => ?_
            refine sy_run ⟨0, []⟩ 50 S fun bs aa w S => ?_
            exact sy_ret S (by kernel_rfl) (by kernel_rfl) fun hg => by rw [e]; exact ⟨rfl, S.cur, hg⟩
          | false =>
            have e : runP (fun m => !isIn m t) (fun m => sansT m t) cell (r :: (y, false) :: l) = runP (fun m => !isIn m t) (fun m => sansT m t) cell l := by rw [runP, if_neg hr']
            rw [e]
            refine sy_run (c := ⟨.rnd (n + 1 + 1) (bodyL (pc_out cell t g)) :: (pc_out cell t g).k.tail, ps_out cell t g⟩) ⟨0, []⟩ 50 S fun bs aa w S => ?_
            refine sy_ldf S (curAt_stop S.cur) (by kernel_rfl) fun aa S => ?_
            refine sy_run ⟨0, []⟩ 50 S fun bs aa w S => ?_
            refine sy_cur (x' := ((y, false) :: l, none)) (v := .int .i64 r.1) S (Or.inl rfl) (rload_any02 w g (r :: (y, false) :: l, none) cell S.cur) (by kernel_rfl) (by simp) fun aa w S => ?_
            refine sy_run ⟨0, []⟩ 50 S fun bs aa w S => ?_
            refine sy_call1 S (toBelow (rin_any r.1 t (hI r (by simp)) w)) (by kernel_rfl) fun aa w hb S => ?_
            refine sy_run ⟨0, [4]⟩ 50 S fun bs aa w S => ?_
            refine sy_reg S fun S => ?_
            refine sy_ops 3 S fun bs aa w S => ?_
            refine sy_cond false S (hr) (by kernel_rfl) fun S => ?_
            refine sy_run ⟨0, []⟩ 50 S fun bs aa w S => ?_
            refine sy_call1 S (toBelow (rwithout_any r.1 t (hI r (by simp)) w)) (by kernel_rfl) fun aa w hb S => ?_
            refine sy_cur (x' := (l, none)) (v := .bool false) S (Or.inl rfl) (rcas_any02 w g ((y, false) :: l, none) cell r.1 ((fun m => sansT m t) r.1) S.cur) (by kernel_rfl) (by simp) fun aa w S => ?_
            refine sy_run ⟨0, [999]⟩ 50 S fun bs aa w S => ?_
            have S' := S.to [] (ps_out cell t g) (by kernel_rfl) (by kernel_rfl) (by kernel_rfl) (by kernel_rfl) (by kernel_rfl)
            refine sy_at (k := .rnd (n + 1) (bodyL (pc_out cell t g)) :: (pc_out cell t g).k.tail) (by kernel_rfl) ?_
            exact ih l n _ aa w (by simp at hN; omega) (by simp at hn; omega) (fun x hx => hI x (by simp [hx])) S'
set_option maxHeartbeats 4000000 in
theorem pout_any (cell t : Int) (g : Nat) (l : List (Int × Bool)) (hI : ∀ x ∈ l, I64 x.1) (w0 : World) (hR : CurAt w0 g (l, none)) : Calls Tryz.prog 35 #[.pointer (some ⟨g, 0, none⟩), .int .i64 cell, .int .i64 t] w0 (fun e w' => e = .returned (.bool (runP (fun m => !isIn m t) (fun m => sansT m t) cell l).1) ∧ CurAt w' g (runP (fun m => !isIn m t) (fun m => sansT m t) cell l).2 ∧ w0.grownBy w' (some g)) := by
  refine sy_enterF (some g) [rfCur g (l, none)] (by intro f hf; simp at hf; subst hf; exact hR) Tryz.func35 rfl fun aa S => ?_
  refine sy_run ⟨0, []⟩ 50 S fun bs aa w1 S => ?_
  have S' := S.to [] (ps_out cell t g) (by kernel_rfl) (by kernel_rfl) (by kernel_rfl) (by kernel_rfl) (by kernel_rfl)
  refine sy_loop (l.length + 1 + 1) (by kernel_rfl) ?_
  exact pk_out w0 cell t g (l.length + 1) l (l.length + 1) _ aa w1 (by omega) (by omega) hI S'
end Go.Proofs.YtfahnmpcclhjlaaGreat

namespace Go.Proofs.YtfahnmpcclhjlaaGreat
open Go Go.RowKit SX
set_option linter.unusedVariables false
set_option linter.unusedSectionVars false
set_option maxRecDepth 100000
attribute [local irreducible] post GD
def kd (k a b ty : Int) (ms mk ma : Int) (sa wa da : Option Addr) (sl sc wl wc dl dc : Nat) : Value := .agg #[.int .i64 k, .int .i64 a, .int .i64 b, .int .i64 ty, .int .i64 ms, .int .i64 mk, .int .i64 ma, .slice sa sl sc, .slice wa wl wc, .slice da dl dc]
def chJ (c t : Int) : Value := .agg #[.int .i64 c, .func (.func 76) #[.agg #[.int .i64 t]] #[]]
def chQ (c t : Int) : Value := .agg #[.int .i64 c, .func (.func 77) #[.agg #[.int .i64 t]] #[]]
section
variable (w : World) (L : Ly) (hok : L.ok) (t : Int) (a b ty : Int) (ms mk ma : Int) (sa wa da : Option Addr) (sl sc wl wc dl dc : Nat)
include w L hok t a b ty ms mk ma sa wa da sl sc wl wc dl dc
set_option maxHeartbeats 4000000 in
theorem chof_1 : Calls Tryz.prog 57 #[L.v, .agg #[.int .i64 t], (kd 1 a b ty ms mk ma sa wa da sl sc wl wc dl dc)] w fun e w' => e = .returned (.tuple #[chJ (atReaders L a) t, .bool true]) ∧ Below w.heap.size w w' := by
  refine sy_enter Tryz.func57 rfl fun aa S => ?_
  refine sy_run ⟨0, []⟩ 60 S fun bs aa w1 S => ?_
  refine dr_enter [0, 1, 2] (by kernel_rfl) (by kernel_rfl) S (by kernel_rfl) fun aa w2 D => ?_
  refine dr_call1 3 D (by kernel_rfl) (by kernel_rfl) (by kernel_rfl) (readers_any L a w2 hok) (by kernel_rfl) fun aa w3 hb D => ?_
  refine dr_op 7 D (by kernel_rfl) (by kernel_rfl) (by kernel_rfl) (by simp) (by kernel_rfl) (by kernel_rfl) fun bs2 aa w4 D hl => ?_
  refine dr_end D (by kernel_rfl) fun S => ?_
  refine sy_run ⟨0, []⟩ 60 S fun bs aa w5 S => ?_
  exact sy_ret S (by kernel_rfl) (by kernel_rfl) fun g => ⟨rfl, below_of_gr g⟩
set_option maxHeartbeats 4000000 in
theorem chof_2 : Calls Tryz.prog 57 #[L.v, .agg #[.int .i64 t], (kd 2 a b ty ms mk ma sa wa da sl sc wl wc dl dc)] w fun e w' => e = .returned (.tuple #[chQ (atReaders L a) t, .bool true]) ∧ Below w.heap.size w w' := by
  refine sy_enter Tryz.func57 rfl fun aa S => ?_
  refine sy_run ⟨0, []⟩ 60 S fun bs aa w1 S => ?_
  refine dr_enter [0, 1, 2] (by kernel_rfl) (by kernel_rfl) S (by kernel_rfl) fun aa w2 D => ?_
  refine dr_call1 3 D (by kernel_rfl) (by kernel_rfl) (by kernel_rfl) (readers_any L a w2 hok) (by kernel_rfl) fun aa w3 hb D => ?_
  refine dr_op 7 D (by kernel_rfl) (by kernel_rfl) (by kernel_rfl) (by simp) (by kernel_rfl) (by kernel_rfl) fun bs2 aa w4 D hl => ?_
  refine dr_end D (by kernel_rfl) fun S => ?_
  refine sy_run ⟨0, []⟩ 60 S fun bs aa w5 S => ?_
  exact sy_ret S (by kernel_rfl) (by kernel_rfl) fun g => ⟨rfl, below_of_gr g⟩
section
variable (v : Value) (l : List (Int × Bool)) (hv : LogOf w v l) (hI : ∀ x ∈ l, I64 x.1) (hc : decide (atReaders L a < 0) = false) (hs : decide (atStatus L t < 0) = false) (x : Ask ⊕ OutD)
include v l hv hI hc hs x
set_option maxHeartbeats 4000000 in
theorem nxtc_1 (hx : runV (fun m => withT m t) (atReaders L a) l = x) : Calls Tryz.prog 40 #[L.v, .int .i64 t, (kd 1 a b ty ms mk ma sa wa da sl sc wl wc dl dc), v] w fun e w' => e = .returned (nextV x) ∧ Below w.heap.size w w' := by
  refine sy_enterF none [rfLog v l] (by intro f hf; simp at hf; subst hf; exact hv) Tryz.func40 rfl fun aa S => ?_
  refine sy_run ⟨0, []⟩ 60 S fun bs aa w1 S => ?_
  refine sy_call1 S (chof_1 w1 L hok t a b ty ms mk ma sa wa da sl sc wl wc dl dc) (by kernel_rfl) fun aa w2 hb S => ?_
  refine sy_run ⟨0, [2]⟩ 60 S fun bs aa w1 S => ?_
  refine sy_reg S fun S => ?_
  refine sy_ops 8 S fun bs aa w1 S => ?_
  refine sy_cast 28 S (congrArg Value.bool hc) (by kernel_rfl) fun S => ?_
  refine sy_run ⟨0, []⟩ 60 S fun bs aa w1 S => ?_
  refine sy_call1 S (status_any L t w1 hok) (by kernel_rfl) fun aa w2 hb S => ?_
  refine sy_ops 3 S fun bs aa w1 S => ?_
  refine sy_cond false S hs (by kernel_rfl) fun S => ?_
  refine sy_run ⟨0, []⟩ 60 S fun bs aa w1 S => ?_
  cases x with
  | inl o =>
    refine sy_call1 S (of_m1 w1 v l 58 (by intro args w; rfl) (chJ (atReaders L a) t) (.inl o) (S.fact (f := rfLog v l) (by simp)) (fun w1 g hb hg hR => by rw [← hx]; exact crun_join _ t g l hI w1 hR)) (by kernel_rfl) fun aa w2 hb S => ?_
    refine sy_run ⟨0, []⟩ 60 S fun bs aa w1 S => ?_
    exact sy_ret S (by kernel_rfl) (by kernel_rfl) fun g => ⟨rfl, below_of_gr g⟩
  | inr o =>
    refine sy_call1 S (of_m1 w1 v l 58 (by intro args w; rfl) (chJ (atReaders L a) t) (.inr o) (S.fact (f := rfLog v l) (by simp)) (fun w1 g hb hg hR => by rw [← hx]; exact crun_join _ t g l hI w1 hR)) (by kernel_rfl) fun aa w2 hb S => ?_
    refine sy_run ⟨0, []⟩ 60 S fun bs aa w1 S => ?_
    exact sy_ret S (by kernel_rfl) (by kernel_rfl) fun g => ⟨rfl, below_of_gr g⟩
set_option maxHeartbeats 4000000 in
theorem nxtc_2 (hx : runV (fun m => sansT m t) (atReaders L a) l = x) : Calls Tryz.prog 40 #[L.v, .int .i64 t, (kd 2 a b ty ms mk ma sa wa da sl sc wl wc dl dc), v] w fun e w' => e = .returned (nextV x) ∧ Below w.heap.size w w' := by
  refine sy_enterF none [rfLog v l] (by intro f hf; simp at hf; subst hf; exact hv) Tryz.func40 rfl fun aa S => ?_
  refine sy_run ⟨0, []⟩ 60 S fun bs aa w1 S => ?_
  refine sy_call1 S (chof_2 w1 L hok t a b ty ms mk ma sa wa da sl sc wl wc dl dc) (by kernel_rfl) fun aa w2 hb S => ?_
  refine sy_run ⟨0, [2]⟩ 60 S fun bs aa w1 S => ?_
  refine sy_reg S fun S => ?_
  refine sy_ops 8 S fun bs aa w1 S => ?_
  refine sy_cast 28 S (congrArg Value.bool hc) (by kernel_rfl) fun S => ?_
  refine sy_run ⟨0, []⟩ 60 S fun bs aa w1 S => ?_
  refine sy_call1 S (status_any L t w1 hok) (by kernel_rfl) fun aa w2 hb S => ?_
  refine sy_ops 3 S fun bs aa w1 S => ?_
  refine sy_cond false S hs (by kernel_rfl) fun S => ?_
  refine sy_run ⟨0, []⟩ 60 S fun bs aa w1 S => ?_
  cases x with
  | inl o =>
    refine sy_call1 S (of_m1 w1 v l 58 (by intro args w; rfl) (chQ (atReaders L a) t) (.inl o) (S.fact (f := rfLog v l) (by simp)) (fun w1 g hb hg hR => by rw [← hx]; exact crun_quit _ t g l hI w1 hR)) (by kernel_rfl) fun aa w2 hb S => ?_
    refine sy_run ⟨0, []⟩ 60 S fun bs aa w1 S => ?_
    exact sy_ret S (by kernel_rfl) (by kernel_rfl) fun g => ⟨rfl, below_of_gr g⟩
  | inr o =>
    refine sy_call1 S (of_m1 w1 v l 58 (by intro args w; rfl) (chQ (atReaders L a) t) (.inr o) (S.fact (f := rfLog v l) (by simp)) (fun w1 g hb hg hR => by rw [← hx]; exact crun_quit _ t g l hI w1 hR)) (by kernel_rfl) fun aa w2 hb S => ?_
    refine sy_run ⟨0, []⟩ 60 S fun bs aa w1 S => ?_
    exact sy_ret S (by kernel_rfl) (by kernel_rfl) fun g => ⟨rfl, below_of_gr g⟩
end
end
end Go.Proofs.YtfahnmpcclhjlaaGreat

namespace Go.Proofs.YtfahnmpcclhjlaaGreat
open Go Go.RowKit SX
set_option linter.unusedVariables false
set_option linter.unusedSectionVars false
set_option maxRecDepth 100000
theorem cur_box {w0 : World} {bs : List Nat} {s : SS} {F : List RF} {a : Act} {w : World} (S : Sy w0 none bs s F a w) (i : Nat) {la : Option Addr} {lc : Nat} {l : List (Int × Bool)}
    (hk : s.K[i]? = some ⟨67, [.slice la l.length lc, .int .i64 0, .int .i64 0, .int .i64 0, .int .i64 0, .int .i64 0, .string ⟨#[]⟩, .bool false]⟩)
    (hv0 : LogOf w0 (.slice la l.length lc) l) (hv : LogOf w (.slice la l.length lc) l) (hl : l.length ≤ 1000000) : CurAt w (bs.getD i 0) (l, none) := by
  have hb := S.bx i _ hk
  have hi : i < bs.length := by rw [S.bl]; exact (List.getElem?_eq_some_iff.1 hk).1
  have c := fun (o : Nat) => cell_of_heap (o := o) hb
  refine ⟨la, lc, 0, l, c 0, c 1, c 2, c 3, c 4, c 5, c 6, c 7, fun o => frozen_of_heap hb, Nat.zero_le _, rfl, hl, ?_⟩
  obtain ⟨a0, c0, e0, _, _, h0⟩ := hv0
  obtain ⟨a1, c1, e1, _, _, h1⟩ := hv
  cases e0; cases e1
  rcases h1 with h1 | ⟨b, o, hab, h1⟩
  · exact Or.inl h1
  · rcases Nat.eq_zero_or_pos l.length with hz | hz
    · exact Or.inl hz
    · refine Or.inr ⟨b, o, hab, ?_, h1⟩
      rcases h0 with h0 | ⟨b', o', hab', h0⟩
      · omega
      · rw [hab] at hab'; cases hab'
        have := World.block_lt_of_cell? w0 _ (h0 0 hz).1
        have h2 := S.lo0 i hi
        simp at this
        omega
theorem own_ne4 {w0 : World} {r : Option Nat} {bs : List Nat} {s : SS} {F : List RF} {a : Act} {w : World} (S : Sy w0 r bs s F a w) (h : (s.K.length == 5) = true) : ∀ i, i < 4 → bs.getD i 0 = bs.getD 4 0 → False := fun i hi he => by
  have hl : bs.length = 5 := by rw [S.bl]; simpa using h
  have := S.nd i 4 (by omega) (by omega) he
  omega
theorem own_ge4 {w0 : World} {bs : List Nat} {s : SS} {F : List RF} {a : Act} {w : World} (S : Sy w0 none bs s F a w) (h : (s.K.length == 5) = true) : w0.heap.size ≤ bs.getD 4 0 := by
  have hl : bs.length = 5 := by rw [S.bl]; simpa using h
  exact S.lo0 4 (by omega)
attribute [local irreducible] post GD
def needsV (M A : Int) : Bool := if M = 1 then true else if M = 3 then decide (2 ≤ A) else false
section
variable (w : World) (L : Ly) (s k A : Int)
include w L s k A
set_option maxHeartbeats 4000000 in
theorem needs_any1 (h1 : decide (L.c.m = 1) = true) : Calls Tryz.prog 27 #[L.v, .agg #[.int .i64 s, .int .i64 k, .int .i64 A]] w fun e w' => e = .returned (.bool true) ∧ Below w.heap.size w w' := by
  refine sy_enter Tryz.func27 rfl fun aa S => ?_
  refine sy_run ⟨0, [2]⟩ 80 S fun bs aa w1 S => ?_
  refine sy_reg S fun S => ?_
  refine sy_ops 3 S fun bs aa w1 S => ?_
  refine sy_cond true S h1 (by kernel_rfl) fun S => ?_
  refine sy_run ⟨0, []⟩ 80 S fun bs aa w1 S => ?_
  exact sy_ret S (by kernel_rfl) (by kernel_rfl) fun g => ⟨rfl, below_of_gr g⟩
set_option maxHeartbeats 4000000 in
theorem needs_any3 (h1 : decide (L.c.m = 1) = false) (h3 : decide (L.c.m = 3) = true) : Calls Tryz.prog 27 #[L.v, .agg #[.int .i64 s, .int .i64 k, .int .i64 A]] w fun e w' => e = .returned (.bool (decide (A ≥ 2))) ∧ Below w.heap.size w w' := by
  refine sy_enter Tryz.func27 rfl fun aa S => ?_
  refine sy_run ⟨0, [2]⟩ 80 S fun bs aa w1 S => ?_
  refine sy_reg S fun S => ?_
  refine sy_ops 3 S fun bs aa w1 S => ?_
  refine sy_cond false S h1 (by kernel_rfl) fun S => ?_
  refine sy_run ⟨0, [4]⟩ 80 S fun bs aa w1 S => ?_
  refine sy_reg S fun S => ?_
  refine sy_ops 3 S fun bs aa w1 S => ?_
  refine sy_cond true S h3 (by kernel_rfl) fun S => ?_
  refine sy_run ⟨0, []⟩ 80 S fun bs aa w1 S => ?_
  exact sy_ret S (by kernel_rfl) (by kernel_rfl) fun g => ⟨rfl, below_of_gr g⟩
set_option maxHeartbeats 4000000 in
theorem needs_any0 (h1 : decide (L.c.m = 1) = false) (h3 : decide (L.c.m = 3) = false) : Calls Tryz.prog 27 #[L.v, .agg #[.int .i64 s, .int .i64 k, .int .i64 A]] w fun e w' => e = .returned (.bool false) ∧ Below w.heap.size w w' := by
  refine sy_enter Tryz.func27 rfl fun aa S => ?_
  refine sy_run ⟨0, [2]⟩ 80 S fun bs aa w1 S => ?_
  refine sy_reg S fun S => ?_
  refine sy_ops 3 S fun bs aa w1 S => ?_
  refine sy_cond false S h1 (by kernel_rfl) fun S => ?_
  refine sy_run ⟨0, [4]⟩ 80 S fun bs aa w1 S => ?_
  refine sy_reg S fun S => ?_
  refine sy_ops 3 S fun bs aa w1 S => ?_
  refine sy_cond false S h3 (by kernel_rfl) fun S => ?_
  refine sy_run ⟨0, []⟩ 80 S fun bs aa w1 S => ?_
  exact sy_ret S (by kernel_rfl) (by kernel_rfl) fun g => ⟨rfl, below_of_gr g⟩
theorem needs_any : Calls Tryz.prog 27 #[L.v, .agg #[.int .i64 s, .int .i64 k, .int .i64 A]] w fun e w' => e = .returned (.bool (needsV L.c.m A)) ∧ Below w.heap.size w w' := by
  unfold needsV
  by_cases h1 : L.c.m = 1
  · rw [if_pos h1]; exact needs_any1 w L s k A (decide_eq_true h1)
  · rw [if_neg h1]
    by_cases h3 : L.c.m = 3
    · rw [if_pos h3, show decide (2 ≤ A) = decide (A ≥ 2) by simp]; exact needs_any3 w L s k A (decide_eq_false h1) (decide_eq_true h3)
    · rw [if_neg h3]; exact needs_any0 w L s k A (decide_eq_false h1) (decide_eq_false h3)
set_option maxHeartbeats 4000000 in
theorem rneeds_any1 (h1 : decide (L.c.m = 1) = true) : Calls Tryz.prog 31 #[L.v, .agg #[.int .i64 s, .int .i64 k, .int .i64 A]] w fun e w' => e = .returned (.bool true) ∧ Below w.heap.size w w' := by
  refine sy_enter Tryz.func31 rfl fun aa S => ?_
  refine sy_run ⟨0, [1]⟩ 80 S fun bs aa w1 S => ?_
  refine sy_reg S fun S => ?_
  refine sy_ops 5 S fun bs aa w1 S => ?_
  refine sy_cond true S h1 (by kernel_rfl) fun S => ?_
  refine sy_run ⟨0, []⟩ 80 S fun bs aa w1 S => ?_
  exact sy_ret S (by kernel_rfl) (by kernel_rfl) fun g => ⟨rfl, below_of_gr g⟩
set_option maxHeartbeats 4000000 in
theorem rneeds_any3 (h1 : decide (L.c.m = 1) = false) (h3 : decide (L.c.m = 3) = true) : Calls Tryz.prog 31 #[L.v, .agg #[.int .i64 s, .int .i64 k, .int .i64 A]] w fun e w' => e = .returned (.bool (decide (A > 1))) ∧ Below w.heap.size w w' := by
  refine sy_enter Tryz.func31 rfl fun aa S => ?_
  refine sy_run ⟨0, [1]⟩ 80 S fun bs aa w1 S => ?_
  refine sy_reg S fun S => ?_
  refine sy_ops 5 S fun bs aa w1 S => ?_
  refine sy_cond false S h1 (by kernel_rfl) fun S => ?_
  refine sy_run ⟨0, [3]⟩ 80 S fun bs aa w1 S => ?_
  refine sy_reg S fun S => ?_
  refine sy_ops 5 S fun bs aa w1 S => ?_
  refine sy_cast 13 S (congrArg Value.bool h3) (by kernel_rfl) fun S => ?_
  refine sy_run ⟨0, []⟩ 80 S fun bs aa w1 S => ?_
  exact sy_ret S (by kernel_rfl) (by kernel_rfl) fun g => ⟨rfl, below_of_gr g⟩
set_option maxHeartbeats 4000000 in
theorem rneeds_any0 (h1 : decide (L.c.m = 1) = false) (h3 : decide (L.c.m = 3) = false) : Calls Tryz.prog 31 #[L.v, .agg #[.int .i64 s, .int .i64 k, .int .i64 A]] w fun e w' => e = .returned (.bool false) ∧ Below w.heap.size w w' := by
  refine sy_enter Tryz.func31 rfl fun aa S => ?_
  refine sy_run ⟨0, [1]⟩ 80 S fun bs aa w1 S => ?_
  refine sy_reg S fun S => ?_
  refine sy_ops 5 S fun bs aa w1 S => ?_
  refine sy_cond false S h1 (by kernel_rfl) fun S => ?_
  refine sy_run ⟨0, [3]⟩ 80 S fun bs aa w1 S => ?_
  refine sy_reg S fun S => ?_
  refine sy_ops 5 S fun bs aa w1 S => ?_
  refine sy_cast 13 S (congrArg Value.bool h3) (by kernel_rfl) fun S => ?_
  refine sy_run ⟨0, []⟩ 80 S fun bs aa w1 S => ?_
  exact sy_ret S (by kernel_rfl) (by kernel_rfl) fun g => ⟨rfl, below_of_gr g⟩
theorem rneeds_any : Calls Tryz.prog 31 #[L.v, .agg #[.int .i64 s, .int .i64 k, .int .i64 A]] w fun e w' => e = .returned (.bool (needsV L.c.m A)) ∧ Below w.heap.size w w' := by
  unfold needsV
  by_cases h1 : L.c.m = 1
  · rw [if_pos h1]; exact rneeds_any1 w L s k A (decide_eq_true h1)
  · rw [if_neg h1]
    by_cases h3 : L.c.m = 3
    · rw [if_pos h3, show decide (2 ≤ A) = decide (A > 1) by simp; omega]; exact rneeds_any3 w L s k A (decide_eq_false h1) (decide_eq_true h3)
    · rw [if_neg h3]; exact rneeds_any0 w L s k A (decide_eq_false h1) (decide_eq_false h3)
end
end Go.Proofs.YtfahnmpcclhjlaaGreat
