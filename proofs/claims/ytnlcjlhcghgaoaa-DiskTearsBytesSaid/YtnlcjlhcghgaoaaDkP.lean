
/-
  Layer 22: a row of integers, as an argument.
-/
import Derived.Test.YtnlcjlhcghgaoaaRows
import Derived.Test.YtnlcjlhcghgaoaaBase
import Derived.Test.YtnlcjlhcghgaoaaDk10
import Derived.Deep.Fields
import Derived.Deep.Slices
namespace Go.Proofs.Ytnlcjlhcghgaoaa
open Go.ChangeShapes Go.WideShapes Go.ChangeAt Go.RowKit Go.Deep
set_option maxRecDepth 100000
/-- A row of integers. -/
def HasIn (w : World) (v : Value) (l : List Int) : Prop := ∃ a cap, v = .slice a l.length cap ∧ (l.length = 0 ∨ ∃ b o, a = some ⟨b, o, none⟩ ∧ IntsAt w b o l)
section
variable {H : Type} {enc : TypeId × Value → H} {W : World}
theorem cells_i64 : Try.prog.cellsOf 3 = 1 := by kernel_rfl
theorem open_intsArg {r : Reach} {b0 : Nat} {v : Value} {d : DataW H} {p : List MemPlace} (hv : Value.okWide Try.prog W r b0 26 v) (h : DataW.Trod enc Try.prog W 0 (fun _ => true) true 26 v d p) :
    ∃ l, HasIn W v l := by
  obtain ⟨a0, len0, cap0, rfl⟩ := okWide_slice Try.underlying26 hv
  obtain ⟨fuel, hf⟩ := h
  rcases open_ints Try.underlying26 Try.underlying3 cells_i64 hf with ⟨hcs, _⟩ | ⟨a, len, cap, zs, hcs, _, hl, hm, hz, _, hcell, hwf⟩
  · simp [Value.cells] at hcs
    obtain ⟨rfl, rfl, rfl⟩ := hcs
    exact ⟨[], none, 0, rfl, Or.inl rfl⟩
  · simp [Value.cells] at hcs
    obtain ⟨rfl, rfl, rfl⟩ := hcs
    simp only [if_true] at hz
    have hlen : (zs.take len0).length = len0 := by rw [List.length_take]; omega
    refine ⟨zs.take len0, some a, cap0, by rw [hlen], ?_⟩
    by_cases h0 : len0 = 0
    · exact Or.inl (by rw [hlen]; exact h0)
    · obtain ⟨b, off, spot⟩ := a
      have hspot : spot = none := by simpa [Addr.add] using World.cell?_spot (hcell 0 (by omega))
      subst hspot
      refine Or.inr ⟨b, off, rfl, fun j hj => ?_⟩
      rw [hlen] at hj
      have h1 := hcell j (by omega)
      rw [add_plain] at h1
      rw [h1]
      simp [hj]
end
end Go.Proofs.Ytnlcjlhcghgaoaa
