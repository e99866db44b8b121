
/-
  Layer 19: opening the arguments of ViewLosesDoomed.
-/
import Derived.Test.YtnabfpcfodgmpaaRows
import Derived.Test.YtnabfpcfodgmpaaBase
import Derived.Deep.Fields
import Derived.Deep.Slices
namespace Go.Proofs.Ytnabfpcfodgmpaa
set_option maxRecDepth 100000
open Go.ChangeShapes Go.WideShapes Go.ChangeAt Go.RowKit Go.Deep

section
variable {H : Type} {enc : TypeId × Value → H} {W : World}
theorem open_vd {r : Reach} {b0 : Nat} {v : Value} {d : DataW H} {p : List MemPlace} (hv : Value.okWide Try.prog W r b0 68 v) (h : DataW.Trod enc Try.prog W 0 (fun _ => true) true 68 v d p) :
    ∃ (m o q : Int) (b c : Bool), v = .agg #[.int .u8 m, .int .u8 o, .int .u8 q, .bool b, .bool c] ∧ (0 ≤ m ∧ m ≤ 255) ∧ (0 ≤ o ∧ o ≤ 255) ∧ (0 ≤ q ∧ q ≤ 255) := by
  obtain ⟨cs, rfl, hsz⟩ := okWide_struct Try.underlying68 hv
  obtain ⟨l⟩ := cs
  have hcells : Try.prog.cellsOf 68 = 5 := by kernel_rfl
  match l, hsz.trans hcells with
  | [c0, c1, c2, c3, c4], _ =>
    obtain ⟨fuel, hf⟩ := h
    obtain ⟨xs, n, _, _, _, hlen, hg⟩ := DataW.trod_struct Try.underlying68 hf
    match xs, hlen with
    | [y0, y1, y2, y3, y4], _ =>
      have h0 := hg 0 _ rfl
      have h1 := hg 1 _ rfl
      have h2 := hg 2 _ rfl
      have h3 := hg 3 _ rfl
      have h4 := hg 4 _ rfl
      have cu : Try.prog.cellsOf 5 = 1 := by kernel_rfl
      have cb : Try.prog.cellsOf 4 = 1 := by kernel_rfl
      simp [Value.cells, cu, cb] at h0 h1 h2 h3 h4
      obtain ⟨a0, e0, _, w0⟩ := DataW.trod_int Try.underlying5 h0
      obtain ⟨a1, e1, _, w1⟩ := DataW.trod_int Try.underlying5 h1
      obtain ⟨a2, e2, _, w2⟩ := DataW.trod_int Try.underlying5 h2
      obtain ⟨a3, e3, _⟩ := DataW.trod_bool Try.underlying4 h3
      obtain ⟨a4, e4, _⟩ := DataW.trod_bool Try.underlying4 h4
      simp at e0 e1 e2 e3 e4
      subst e0; subst e1; subst e2; subst e3; subst e4
      exact ⟨a0, a1, a2, a3, a4, rfl, u8_of_wf w0, u8_of_wf w1, u8_of_wf w2⟩
end
end Go.Proofs.Ytnabfpcfodgmpaa
