/-
  Merged: MgrO
-/
import Derived.Test.YtdfngmplfgifiaaRows
import Derived.Test.YtdfngmplfgifiaaPa1
import Derived.Test.YtdfngmplfgifiaaPa4
import Derived.Deep.Fields
import Derived.Deep.Slices

/-
  Layer 17: what the arguments of a statement are in memory: a contender.
-/
namespace Go.Proofs.Ytdfngmplfgifiaa
set_option maxRecDepth 100000
open Go.ChangeShapes Go.WideShapes Go.ChangeAt Go.RowKit Go.Deep

section
variable {H : Type} {enc : TypeId × Value → H} {W : World}

theorem cells_int17 : Try.prog.cellsOf 3 = 1 := by kernel_rfl
theorem cells_ct : Try.prog.cellsOf 27 = 3 := by kernel_rfl

theorem open_ct {r : Reach} {b0 : Nat} {v : Value} {d : DataW H} {p : List MemPlace} (hv : Value.okWide Try.prog W r b0 27 v) (h : DataW.Trod enc Try.prog W 0 (fun _ => true) true 27 v d p) :
    ∃ c : Ct, v = c.v ∧ I64 c.s ∧ I64 c.k ∧ I64 c.a := by
  obtain ⟨cs, rfl, hsz⟩ := okWide_struct Try.underlying27 hv
  obtain ⟨l⟩ := cs
  match l, hsz.trans cells_ct with
  | [c0, c1, c2], _ =>
    obtain ⟨fuel, hf⟩ := h
    obtain ⟨xs, n, _, _, _, hlen, hg⟩ := DataW.trod_struct Try.underlying27 hf
    match xs, hlen with
    | [y0, y1, y2], _ =>
      have h0 := hg 0 _ rfl
      have h1 := hg 1 _ rfl
      have h2 := hg 2 _ rfl
      have ci : Try.prog.cellsOf 3 = 1 := cells_int17
      simp [Value.cells, ci] at h0 h1 h2
      obtain ⟨a0, e0, _, w0⟩ := DataW.trod_int Try.underlying3 h0
      obtain ⟨a1, e1, _, w1⟩ := DataW.trod_int Try.underlying3 h1
      obtain ⟨a2, e2, _, w2⟩ := DataW.trod_int Try.underlying3 h2
      simp at e0 e1 e2
      subst e0; subst e1; subst e2
      exact ⟨⟨a0, a1, a2⟩, rfl, i64_of_wf w0, i64_of_wf w1, i64_of_wf w2⟩

end
end Go.Proofs.Ytdfngmplfgifiaa
