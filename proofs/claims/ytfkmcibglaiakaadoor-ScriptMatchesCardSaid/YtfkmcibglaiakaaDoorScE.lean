
/-
  Layer 27: a word.
-/
import Derived.Test.YtfkmcibglaiakaaDoorRows
import Derived.Test.YtfkmcibglaiakaaDoorBase
import Derived.Test.YtfkmcibglaiakaaDoorScD
import Derived.WalkKit
namespace Go.Proofs.YtfkmcibglaiakaaDoor
open Go Go.RowKit SZ
set_option linter.unusedVariables false
set_option linter.unusedSimpArgs false
set_option maxRecDepth 100000
attribute [local irreducible] post GD Nxt NxtAll
theorem form_call {f : FuncId} {args : Array Value} {w : World} {q : Nat} {pv : Value} {o : Option (Pw × Nat)} {b : Bool} (h : Calls Tryd.prog f args w (FormP w q pv o)) (ho : o.isSome = b) : Calls Tryd.prog f args w fun e w' => ∃ x : Int × Pk, e = .returned (.tuple #[.int .i64 x.1, .bool b]) ∧ ((rfBox q 48 [.int .i64 x.2.k, .int .i64 x.2.a, .int .i64 x.2.b, .slice x.2.s x.2.c.length x.2.cp, pv]).P w' ∧ ∀ y, o = some y → x.1 = (y.2 : Int) ∧ x.2.w = y.1 ∧ x.2.ok ∧ IsAt w' x.2.bl x.2.o x.2.c ∧ (x.2.c.length = 0 ∨ w.heap.size ≤ x.2.bl)) ∧ w.grownBy w' (some q) :=
  h.mono fun e w' ⟨n, p, q1, q2, q3, q4⟩ => ⟨(n, p), by rw [← ho]; exact q1, ⟨q2, q3⟩, gb_of_gr1 q4⟩
set_option maxHeartbeats 8000000 in
theorem wrd_t (w0 : World) (q : Nat) (p0 : Pk) (pv : Value) (hq : w0.heap[q]? = some (.cells #[.int .i64 p0.k, .int .i64 p0.a, .int .i64 p0.b, .slice p0.s p0.c.length p0.cp, pv] 48 (0, 0))) (l : List Nat) (hl : ∀ b ∈ l, b < 256) (hm : rfMx.P w0) (hq0 : ¬q = 0) (h3 : l.length ≤ 4000000000) : Calls Tryd.prog 27 #[.pointer (some ⟨q, 0, none⟩), .string (strOf l)] w0 (FormP w0 q pv (wordS l)) := by
  refine sy_enterF [q] [(rfBox q 48 [.int .i64 p0.k, .int .i64 p0.a, .int .i64 p0.b, .slice p0.s p0.c.length p0.cp, pv]), rfMx] (by intro f hf; simp only [List.mem_cons, List.not_mem_nil, or_false] at hf; rcases hf with rfl | rfl; exact hq; exact hm) Tryd.func27 rfl rfl fun aa S => ?_
  refine sy_run ⟨6, [4]⟩ 60 S fun bs aa w S => ?_
  refine sy_reg S fun S => ?_
  refine sy_ops 2 S fun bs aa w S => ?_
  refine sy_nm S fun bs S => ?_
  have hsz0 := S.gr.size
  cases k0 : stepS l with
  | some y =>
    have ho : wordS l = some y := by unfold wordS; rw [k0]; rfl
    have hap0 := (S.fs (rfBox q 48 [.int .i64 p0.k, .int .i64 p0.a, .int .i64 p0.b, .slice p0.s p0.c.length p0.cp, pv]) (by simp)).2
    have hbl0 : ∀ j, j < bs.length → bs.getD j 0 < w.heap.size := fun j hj => S.lt hj
    refine sy_callG (g := q) S (Or.inl (by simp)) (X := Int × Pk) (val := fun x => .tuple #[.int .i64 x.1, .bool true]) (C := fun x w' => (rfBox q 48 [.int .i64 x.2.k, .int .i64 x.2.a, .int .i64 x.2.b, .slice x.2.s x.2.c.length x.2.cp, pv]).P w' ∧ ∀ y, stepS l = some y → x.1 = (y.2 : Int) ∧ x.2.w = y.1 ∧ x.2.ok ∧ IsAt w' x.2.bl x.2.o x.2.c ∧ (x.2.c.length = 0 ∨ w.heap.size ≤ x.2.bl)) (form_call (step_t w q p0 pv (S.fact (f := (rfBox q 48 [.int .i64 p0.k, .int .i64 p0.a, .int .i64 p0.b, .slice p0.s p0.c.length p0.cp, pv])) (by simp)) l hl) (by rw [k0]; rfl)) (by kernel_rfl) [rfMx] (fun f hf => by simp only [List.mem_singleton] at hf; subst hf; exact ⟨by simp, hq0⟩) (fun i hi => hap0 i hi) fun x0 aa w0 hC0 hg0 S => ?_
    obtain ⟨n1, p1⟩ := x0
    have S := S.add (rfBox q 48 [.int .i64 p1.k, .int .i64 p1.a, .int .i64 p1.b, .slice p1.s p1.c.length p1.cp, pv]) hC0.1 (fun i hi => hap0 i hi)
    obtain ⟨g1, g2, g3, g4, g5⟩ := hC0.2 y k0
    have g5 : p1.c.length = 0 ∨ w.heap.size ≤ p1.bl := g5
    have S := S.add (rfIs p1.bl p1.o p1.c) g4 (fun i hi hb => by
      have h6 : bs.getD i 0 = p1.bl := hb.1
      have h7 := g5.resolve_left hb.2
      have h8 := hbl0 i hi
      omega)
    refine sy_run ⟨6, []⟩ 60 S fun bs aa w S => ?_
    exact sy_ret S (by kernel_rfl) (by kernel_rfl) fun hg => ⟨n1, p1, by rw [ho], S.fact (f := (rfBox q 48 [.int .i64 p1.k, .int .i64 p1.a, .int .i64 p1.b, .slice p1.s p1.c.length p1.cp, pv])) (by simp), fun x hx => (by
      rw [ho] at hx
      cases hx
      exact ⟨g1, g2, g3, S.fact (f := rfIs p1.bl p1.o p1.c) (by simp), g5.imp id (fun h => by omega)⟩), hg⟩
  | none =>
    have hap0 := (S.fs (rfBox q 48 [.int .i64 p0.k, .int .i64 p0.a, .int .i64 p0.b, .slice p0.s p0.c.length p0.cp, pv]) (by simp)).2
    have hbl0 : ∀ j, j < bs.length → bs.getD j 0 < w.heap.size := fun j hj => S.lt hj
    refine sy_callG (g := q) S (Or.inl (by simp)) (X := Int × Pk) (val := fun x => .tuple #[.int .i64 x.1, .bool false]) (C := fun x w' => (rfBox q 48 [.int .i64 x.2.k, .int .i64 x.2.a, .int .i64 x.2.b, .slice x.2.s x.2.c.length x.2.cp, pv]).P w' ∧ ∀ y, stepS l = some y → x.1 = (y.2 : Int) ∧ x.2.w = y.1 ∧ x.2.ok ∧ IsAt w' x.2.bl x.2.o x.2.c ∧ (x.2.c.length = 0 ∨ w.heap.size ≤ x.2.bl)) (form_call (step_t w q p0 pv (S.fact (f := (rfBox q 48 [.int .i64 p0.k, .int .i64 p0.a, .int .i64 p0.b, .slice p0.s p0.c.length p0.cp, pv])) (by simp)) l hl) (by rw [k0]; rfl)) (by kernel_rfl) [rfMx] (fun f hf => by simp only [List.mem_singleton] at hf; subst hf; exact ⟨by simp, hq0⟩) (fun i hi => hap0 i hi) fun x0 aa w0 hC0 hg0 S => ?_
    obtain ⟨n1, p1⟩ := x0
    have S := S.add (rfBox q 48 [.int .i64 p1.k, .int .i64 p1.a, .int .i64 p1.b, .slice p1.s p1.c.length p1.cp, pv]) hC0.1 (fun i hi => hap0 i hi)
    refine sy_run ⟨6, [4]⟩ 60 S fun bs aa w S => ?_
    refine sy_reg S fun S => ?_
    refine sy_ops 2 S fun bs aa w S => ?_
    refine sy_nm S fun bs S => ?_
    have hsz1 := S.gr.size
    cases k1 : repS l with
    | some y =>
      have ho : wordS l = some y := by unfold wordS; rw [k0]; rw [k1]; rfl
      have hap1 := (S.fs (rfBox q 48 [.int .i64 p1.k, .int .i64 p1.a, .int .i64 p1.b, .slice p1.s p1.c.length p1.cp, pv]) (by simp)).2
      have hbl1 : ∀ j, j < bs.length → bs.getD j 0 < w.heap.size := fun j hj => S.lt hj
      refine sy_callG (g := q) S (Or.inl (by simp)) (X := Int × Pk) (val := fun x => .tuple #[.int .i64 x.1, .bool true]) (C := fun x w' => (rfBox q 48 [.int .i64 x.2.k, .int .i64 x.2.a, .int .i64 x.2.b, .slice x.2.s x.2.c.length x.2.cp, pv]).P w' ∧ ∀ y, repS l = some y → x.1 = (y.2 : Int) ∧ x.2.w = y.1 ∧ x.2.ok ∧ IsAt w' x.2.bl x.2.o x.2.c ∧ (x.2.c.length = 0 ∨ w.heap.size ≤ x.2.bl)) (form_call (rep_t w q p1 pv (S.fact (f := (rfBox q 48 [.int .i64 p1.k, .int .i64 p1.a, .int .i64 p1.b, .slice p1.s p1.c.length p1.cp, pv])) (by simp)) l hl (S.fact (f := rfMx) (by simp)) hq0 h3) (by rw [k1]; rfl)) (by kernel_rfl) [rfMx] (fun f hf => by simp only [List.mem_singleton] at hf; subst hf; exact ⟨by simp, hq0⟩) (fun i hi => hap1 i hi) fun x1 aa w1 hC1 hg1 S => ?_
      obtain ⟨n2, p2⟩ := x1
      have S := S.add (rfBox q 48 [.int .i64 p2.k, .int .i64 p2.a, .int .i64 p2.b, .slice p2.s p2.c.length p2.cp, pv]) hC1.1 (fun i hi => hap1 i hi)
      obtain ⟨g1, g2, g3, g4, g5⟩ := hC1.2 y k1
      have g5 : p2.c.length = 0 ∨ w.heap.size ≤ p2.bl := g5
      have S := S.add (rfIs p2.bl p2.o p2.c) g4 (fun i hi hb => by
        have h6 : bs.getD i 0 = p2.bl := hb.1
        have h7 := g5.resolve_left hb.2
        have h8 := hbl1 i hi
        omega)
      refine sy_run ⟨6, []⟩ 60 S fun bs aa w S => ?_
      exact sy_ret S (by kernel_rfl) (by kernel_rfl) fun hg => ⟨n2, p2, by rw [ho], S.fact (f := (rfBox q 48 [.int .i64 p2.k, .int .i64 p2.a, .int .i64 p2.b, .slice p2.s p2.c.length p2.cp, pv])) (by simp), fun x hx => (by
        rw [ho] at hx
        cases hx
        exact ⟨g1, g2, g3, S.fact (f := rfIs p2.bl p2.o p2.c) (by simp), g5.imp id (fun h => by omega)⟩), hg⟩
    | none =>
      have hap1 := (S.fs (rfBox q 48 [.int .i64 p1.k, .int .i64 p1.a, .int .i64 p1.b, .slice p1.s p1.c.length p1.cp, pv]) (by simp)).2
      have hbl1 : ∀ j, j < bs.length → bs.getD j 0 < w.heap.size := fun j hj => S.lt hj
      refine sy_callG (g := q) S (Or.inl (by simp)) (X := Int × Pk) (val := fun x => .tuple #[.int .i64 x.1, .bool false]) (C := fun x w' => (rfBox q 48 [.int .i64 x.2.k, .int .i64 x.2.a, .int .i64 x.2.b, .slice x.2.s x.2.c.length x.2.cp, pv]).P w' ∧ ∀ y, repS l = some y → x.1 = (y.2 : Int) ∧ x.2.w = y.1 ∧ x.2.ok ∧ IsAt w' x.2.bl x.2.o x.2.c ∧ (x.2.c.length = 0 ∨ w.heap.size ≤ x.2.bl)) (form_call (rep_t w q p1 pv (S.fact (f := (rfBox q 48 [.int .i64 p1.k, .int .i64 p1.a, .int .i64 p1.b, .slice p1.s p1.c.length p1.cp, pv])) (by simp)) l hl (S.fact (f := rfMx) (by simp)) hq0 h3) (by rw [k1]; rfl)) (by kernel_rfl) [rfMx] (fun f hf => by simp only [List.mem_singleton] at hf; subst hf; exact ⟨by simp, hq0⟩) (fun i hi => hap1 i hi) fun x1 aa w1 hC1 hg1 S => ?_
      obtain ⟨n2, p2⟩ := x1
      have S := S.add (rfBox q 48 [.int .i64 p2.k, .int .i64 p2.a, .int .i64 p2.b, .slice p2.s p2.c.length p2.cp, pv]) hC1.1 (fun i hi => hap1 i hi)
      refine sy_run ⟨6, [4]⟩ 60 S fun bs aa w S => ?_
      refine sy_reg S fun S => ?_
      refine sy_ops 2 S fun bs aa w S => ?_
      refine sy_nm S fun bs S => ?_
      have hsz2 := S.gr.size
      cases k2 : stallS l with
      | some y =>
        have ho : wordS l = some y := by unfold wordS; rw [k0]; rw [k1]; rw [k2]; rfl
        have hap2 := (S.fs (rfBox q 48 [.int .i64 p2.k, .int .i64 p2.a, .int .i64 p2.b, .slice p2.s p2.c.length p2.cp, pv]) (by simp)).2
        have hbl2 : ∀ j, j < bs.length → bs.getD j 0 < w.heap.size := fun j hj => S.lt hj
        refine sy_callG (g := q) S (Or.inl (by simp)) (X := Int × Pk) (val := fun x => .tuple #[.int .i64 x.1, .bool true]) (C := fun x w' => (rfBox q 48 [.int .i64 x.2.k, .int .i64 x.2.a, .int .i64 x.2.b, .slice x.2.s x.2.c.length x.2.cp, pv]).P w' ∧ ∀ y, stallS l = some y → x.1 = (y.2 : Int) ∧ x.2.w = y.1 ∧ x.2.ok ∧ IsAt w' x.2.bl x.2.o x.2.c ∧ (x.2.c.length = 0 ∨ w.heap.size ≤ x.2.bl)) (form_call (stall_t w q p2 pv (S.fact (f := (rfBox q 48 [.int .i64 p2.k, .int .i64 p2.a, .int .i64 p2.b, .slice p2.s p2.c.length p2.cp, pv])) (by simp)) l hl (S.fact (f := rfMx) (by simp)) hq0 h3) (by rw [k2]; rfl)) (by kernel_rfl) [rfMx] (fun f hf => by simp only [List.mem_singleton] at hf; subst hf; exact ⟨by simp, hq0⟩) (fun i hi => hap2 i hi) fun x2 aa w2 hC2 hg2 S => ?_
        obtain ⟨n3, p3⟩ := x2
        have S := S.add (rfBox q 48 [.int .i64 p3.k, .int .i64 p3.a, .int .i64 p3.b, .slice p3.s p3.c.length p3.cp, pv]) hC2.1 (fun i hi => hap2 i hi)
        obtain ⟨g1, g2, g3, g4, g5⟩ := hC2.2 y k2
        have g5 : p3.c.length = 0 ∨ w.heap.size ≤ p3.bl := g5
        have S := S.add (rfIs p3.bl p3.o p3.c) g4 (fun i hi hb => by
          have h6 : bs.getD i 0 = p3.bl := hb.1
          have h7 := g5.resolve_left hb.2
          have h8 := hbl2 i hi
          omega)
        refine sy_run ⟨6, []⟩ 60 S fun bs aa w S => ?_
        exact sy_ret S (by kernel_rfl) (by kernel_rfl) fun hg => ⟨n3, p3, by rw [ho], S.fact (f := (rfBox q 48 [.int .i64 p3.k, .int .i64 p3.a, .int .i64 p3.b, .slice p3.s p3.c.length p3.cp, pv])) (by simp), fun x hx => (by
          rw [ho] at hx
          cases hx
          exact ⟨g1, g2, g3, S.fact (f := rfIs p3.bl p3.o p3.c) (by simp), g5.imp id (fun h => by omega)⟩), hg⟩
      | none =>
        have hap2 := (S.fs (rfBox q 48 [.int .i64 p2.k, .int .i64 p2.a, .int .i64 p2.b, .slice p2.s p2.c.length p2.cp, pv]) (by simp)).2
        have hbl2 : ∀ j, j < bs.length → bs.getD j 0 < w.heap.size := fun j hj => S.lt hj
        refine sy_callG (g := q) S (Or.inl (by simp)) (X := Int × Pk) (val := fun x => .tuple #[.int .i64 x.1, .bool false]) (C := fun x w' => (rfBox q 48 [.int .i64 x.2.k, .int .i64 x.2.a, .int .i64 x.2.b, .slice x.2.s x.2.c.length x.2.cp, pv]).P w' ∧ ∀ y, stallS l = some y → x.1 = (y.2 : Int) ∧ x.2.w = y.1 ∧ x.2.ok ∧ IsAt w' x.2.bl x.2.o x.2.c ∧ (x.2.c.length = 0 ∨ w.heap.size ≤ x.2.bl)) (form_call (stall_t w q p2 pv (S.fact (f := (rfBox q 48 [.int .i64 p2.k, .int .i64 p2.a, .int .i64 p2.b, .slice p2.s p2.c.length p2.cp, pv])) (by simp)) l hl (S.fact (f := rfMx) (by simp)) hq0 h3) (by rw [k2]; rfl)) (by kernel_rfl) [rfMx] (fun f hf => by simp only [List.mem_singleton] at hf; subst hf; exact ⟨by simp, hq0⟩) (fun i hi => hap2 i hi) fun x2 aa w2 hC2 hg2 S => ?_
        obtain ⟨n3, p3⟩ := x2
        have S := S.add (rfBox q 48 [.int .i64 p3.k, .int .i64 p3.a, .int .i64 p3.b, .slice p3.s p3.c.length p3.cp, pv]) hC2.1 (fun i hi => hap2 i hi)
        refine sy_run ⟨6, [4]⟩ 60 S fun bs aa w S => ?_
        refine sy_reg S fun S => ?_
        refine sy_ops 2 S fun bs aa w S => ?_
        refine sy_nm S fun bs S => ?_
        have hsz3 := S.gr.size
        cases k3 : crashS l with
        | some y =>
          have ho : wordS l = some y := by unfold wordS; rw [k0]; rw [k1]; rw [k2]; rw [k3]; rfl
          have hap3 := (S.fs (rfBox q 48 [.int .i64 p3.k, .int .i64 p3.a, .int .i64 p3.b, .slice p3.s p3.c.length p3.cp, pv]) (by simp)).2
          have hbl3 : ∀ j, j < bs.length → bs.getD j 0 < w.heap.size := fun j hj => S.lt hj
          refine sy_callG (g := q) S (Or.inl (by simp)) (X := Int × Pk) (val := fun x => .tuple #[.int .i64 x.1, .bool true]) (C := fun x w' => (rfBox q 48 [.int .i64 x.2.k, .int .i64 x.2.a, .int .i64 x.2.b, .slice x.2.s x.2.c.length x.2.cp, pv]).P w' ∧ ∀ y, crashS l = some y → x.1 = (y.2 : Int) ∧ x.2.w = y.1 ∧ x.2.ok ∧ IsAt w' x.2.bl x.2.o x.2.c ∧ (x.2.c.length = 0 ∨ w.heap.size ≤ x.2.bl)) (form_call (crash_t w q p3 pv (S.fact (f := (rfBox q 48 [.int .i64 p3.k, .int .i64 p3.a, .int .i64 p3.b, .slice p3.s p3.c.length p3.cp, pv])) (by simp)) l hl (S.fact (f := rfMx) (by simp)) hq0 h3) (by rw [k3]; rfl)) (by kernel_rfl) [rfMx] (fun f hf => by simp only [List.mem_singleton] at hf; subst hf; exact ⟨by simp, hq0⟩) (fun i hi => hap3 i hi) fun x3 aa w3 hC3 hg3 S => ?_
          obtain ⟨n4, p4⟩ := x3
          have S := S.add (rfBox q 48 [.int .i64 p4.k, .int .i64 p4.a, .int .i64 p4.b, .slice p4.s p4.c.length p4.cp, pv]) hC3.1 (fun i hi => hap3 i hi)
          obtain ⟨g1, g2, g3, g4, g5⟩ := hC3.2 y k3
          have g5 : p4.c.length = 0 ∨ w.heap.size ≤ p4.bl := g5
          have S := S.add (rfIs p4.bl p4.o p4.c) g4 (fun i hi hb => by
            have h6 : bs.getD i 0 = p4.bl := hb.1
            have h7 := g5.resolve_left hb.2
            have h8 := hbl3 i hi
            omega)
          refine sy_run ⟨6, []⟩ 60 S fun bs aa w S => ?_
          exact sy_ret S (by kernel_rfl) (by kernel_rfl) fun hg => ⟨n4, p4, by rw [ho], S.fact (f := (rfBox q 48 [.int .i64 p4.k, .int .i64 p4.a, .int .i64 p4.b, .slice p4.s p4.c.length p4.cp, pv])) (by simp), fun x hx => (by
            rw [ho] at hx
            cases hx
            exact ⟨g1, g2, g3, S.fact (f := rfIs p4.bl p4.o p4.c) (by simp), g5.imp id (fun h => by omega)⟩), hg⟩
        | none =>
          have hap3 := (S.fs (rfBox q 48 [.int .i64 p3.k, .int .i64 p3.a, .int .i64 p3.b, .slice p3.s p3.c.length p3.cp, pv]) (by simp)).2
          have hbl3 : ∀ j, j < bs.length → bs.getD j 0 < w.heap.size := fun j hj => S.lt hj
          refine sy_callG (g := q) S (Or.inl (by simp)) (X := Int × Pk) (val := fun x => .tuple #[.int .i64 x.1, .bool false]) (C := fun x w' => (rfBox q 48 [.int .i64 x.2.k, .int .i64 x.2.a, .int .i64 x.2.b, .slice x.2.s x.2.c.length x.2.cp, pv]).P w' ∧ ∀ y, crashS l = some y → x.1 = (y.2 : Int) ∧ x.2.w = y.1 ∧ x.2.ok ∧ IsAt w' x.2.bl x.2.o x.2.c ∧ (x.2.c.length = 0 ∨ w.heap.size ≤ x.2.bl)) (form_call (crash_t w q p3 pv (S.fact (f := (rfBox q 48 [.int .i64 p3.k, .int .i64 p3.a, .int .i64 p3.b, .slice p3.s p3.c.length p3.cp, pv])) (by simp)) l hl (S.fact (f := rfMx) (by simp)) hq0 h3) (by rw [k3]; rfl)) (by kernel_rfl) [rfMx] (fun f hf => by simp only [List.mem_singleton] at hf; subst hf; exact ⟨by simp, hq0⟩) (fun i hi => hap3 i hi) fun x3 aa w3 hC3 hg3 S => ?_
          obtain ⟨n4, p4⟩ := x3
          have S := S.add (rfBox q 48 [.int .i64 p4.k, .int .i64 p4.a, .int .i64 p4.b, .slice p4.s p4.c.length p4.cp, pv]) hC3.1 (fun i hi => hap3 i hi)
          refine sy_run ⟨6, []⟩ 60 S fun bs aa w S => ?_
          have ho : wordS l = none := by unfold wordS; rw [k0]; rw [k1]; rw [k2]; rw [k3]; rfl
          exact sy_ret S (by kernel_rfl) (by kernel_rfl) fun hg => ⟨0, p4, by rw [ho], S.fact (f := (rfBox q 48 [.int .i64 p4.k, .int .i64 p4.a, .int .i64 p4.b, .slice p4.s p4.c.length p4.cp, pv])) (by simp), fun x hx => (by rw [ho] at hx; cases hx), hg⟩
end Go.Proofs.YtfkmcibglaiakaaDoor
