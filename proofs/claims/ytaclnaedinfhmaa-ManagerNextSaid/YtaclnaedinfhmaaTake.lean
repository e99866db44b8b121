
/-
  Shorter forms of the steps that the walks take: a load of a whole struct by the fact of its cells; an operation of a drawn region taken first.
-/
import Derived.Test.YtaclnaedinfhmaaRows
import Derived.Test.YtaclnaedinfhmaaBase
import Derived.Test.YtaclnaedinfhmaaStepD
import Derived.OrdersHeld
import Derived.WalkKit
namespace Go.Proofs.Ytaclnaedinfhmaa
set_option linter.unusedVariables false
set_option maxRecDepth 100000
open Go.ChangeShapes Go.WideShapes Go.ChangeAt Go.RowKit

section
variable {ops : Array Oper} {rest : List Oper} {op : Oper} {a : Act} {w : World} {Q : Exit → Act → World → Prop}
theorem ld_lay {b : Nat} {cs : List Value} (hc : CellsAt w b cs) (hl : cs.length = 13) (ho : ∃ x, op.op = .load 41 x ∧ a.eval x = .pointer (some ⟨b, 0, none⟩) ∧ Region.wanted op (yielded ops a.tmps) = true)
    (h : wpList Try.prog ops Q rest (a.put op.dst (.agg cs.toArray)) w) : wpList Try.prog ops Q (op :: rest) a w := by
  obtain ⟨x, ho, hx, hw⟩ := ho
  exact wp_ld_lay hw x ho b 0 hx cs hl (rangeAt_of hc) h
theorem ld_case {b : Nat} {cs : List Value} (hc : CellsAt w b cs) (hl : cs.length = 20) (ho : ∃ x, op.op = .load 119 x ∧ a.eval x = .pointer (some ⟨b, 0, none⟩) ∧ Region.wanted op (yielded ops a.tmps) = true)
    (h : wpList Try.prog ops Q rest (a.put op.dst (.agg cs.toArray)) w) : wpList Try.prog ops Q (op :: rest) a w := by
  obtain ⟨x, ho, hx, hw⟩ := ho
  exact wp_ld_case hw x ho b 0 hx cs hl (rangeAt_of hc) h
theorem ld_layT {b : Nat} {x0 x1 x2 x3 x4 x5 x6 x7 x8 x9 x10 x11 x12 : Value} {l : List Value} (hc : CellsAt w b (x0 :: x1 :: x2 :: x3 :: x4 :: x5 :: x6 :: x7 :: x8 :: x9 :: x10 :: x11 :: x12 :: l)) (ho : ∃ x, op.op = .load 41 x ∧ a.eval x = .pointer (some ⟨b, 0, none⟩) ∧ Region.wanted op (yielded ops a.tmps) = true)
    (h : wpList Try.prog ops Q rest (a.put op.dst (.agg #[x0, x1, x2, x3, x4, x5, x6, x7, x8, x9, x10, x11, x12])) w) : wpList Try.prog ops Q (op :: rest) a w :=
  ld_lay (cs := [x0, x1, x2, x3, x4, x5, x6, x7, x8, x9, x10, x11, x12]) (cellsAt_take 13 hc) rfl ho h
end

section
variable {P : Program} {ops : Array Oper} {Q : Exit → Act → World → Prop} {md : Region.Mode} {S : World → Prop} {fuel : Nat} {listed : Array Bool} {a : Act} {w : World}
theorem at_drop {α : Type} {l : Array α} {i : Nat} {x : α} {r : List α} (h : l.toList.drop i = x :: r) : l[i]? = some x := by
  have h2 : (l.toList.drop i)[0]? = some x := by rw [h]; rfl
  simpa using h2
theorem tkA (i : Nat) (hk : (Region.noSelect ops && Region.free md ops listed i && (Region.ready md ops listed).contains i) = true) (hS : S w)
    (h : ∃ oi r v, ops.toList.drop i = oi :: r ∧ Region.wanted oi (yielded ops a.tmps) = true ∧ (∀ w, S w → (execOp a.eval oi).run P w = .ok (.value v) w) ∧ (∀ c a w, Q (.panic c) (a.put oi.dst v) w → Q (.panic c) a w) ∧ wpAnyH P md ops Q S fuel (listed.setIfInBounds i true) (a.put oi.dst v) w) :
    wpAnyH P md ops Q S (fuel + 1) listed a w := by
  obtain ⟨oi, r, v, h1, h2, h3, h4, h5⟩ := h
  simp only [Bool.and_eq_true] at hk
  exact wpAnyH_take (at_drop h1) hk.1.1 hk.1.2 hk.2 h4 (Or.inl ⟨h2, h3⟩) hS h5
theorem tkB (i : Nat) (hk : (Region.noSelect ops && Region.free md ops listed i && (Region.ready md ops listed).contains i) = true) (hS : S w)
    (h : ∃ oi r, ops.toList.drop i = oi :: r ∧ Region.wanted oi (yielded ops a.tmps) = false ∧ (∀ c a w, Q (.panic c) (a.put oi.dst undef) w → Q (.panic c) a w) ∧ wpAnyH P md ops Q S fuel (listed.setIfInBounds i true) (a.put oi.dst undef) w) :
    wpAnyH P md ops Q S (fuel + 1) listed a w := by
  obtain ⟨oi, r, h1, h2, h4, h5⟩ := h
  simp only [Bool.and_eq_true] at hk
  exact wpAnyH_take (at_drop h1) hk.1.1 hk.1.2 hk.2 h4 (Or.inr ⟨h2, rfl⟩) hS h5
end
end Go.Proofs.Ytaclnaedinfhmaa
