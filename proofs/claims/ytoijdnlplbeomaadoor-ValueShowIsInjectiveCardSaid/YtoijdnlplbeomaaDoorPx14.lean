/-
  Merged: Tk0
-/
import Derived.Test.YtoijdnlplbeomaaDoorPx5
import Derived.Test.YtoijdnlplbeomaaDoorPx11

/-
  Known results: calls that panic; two entries for one function; two values that are given.
-/
namespace Go.Proofs.YtoijdnlplbeomaaDoor
open Go Go.RowKit EX
set_option maxRecDepth 100000
set_option linter.unusedVariables false
set_option linter.unusedSimpArgs false
set_option linter.unusedSectionVars false
section
variable [FC]
/-- A call with these arguments panics with this. -/
def kgPan (f0 : FuncId) (al : List Value) (v : Value) : KnG := fun f args st => match Nat.beq f f0, pvL args with
  | true, some vs => match Nat.beq vs.length al.length with
    | true => some ⟨.pan (.v v), ⟨st.m, st.orc, vs.zip al ++ st.cnd⟩⟩
    | false => none
  | _, _ => none
theorem kgPan_ok {P : Program} {f0 : FuncId} {al : List Value} {v : Value} (h : ∀ w, FcAt w → Calls P f0 al.toArray w fun e w' => e = .panicked [{ v := v, recovered := false }] ∧ Below w.heap.size w w') : KnGOk P (kgPan f0 al v) := by
  intro f args st o hk
  unfold kgPan at hk
  split at hk
  · rename_i vs hf hv
    have := Nat.eq_of_beq_eq_true hf
    subst this
    cases hl : Nat.beq vs.length al.length with
    | false => rw [hl] at hk; cases hk
    | true =>
      rw [hl] at hk
      simp only [Option.some.injEq] at hk
      subst hk
      refine ⟨⟨⟨_, rfl⟩, Fm.refl _⟩, trivial, fun tr w0 F B S w hS R hargs => ?_⟩
      have e1 : vs = al := zip_eq (Nat.eq_of_beq_eq_true hl) fun q hq => tr q (List.mem_append_left _ hq)
      rw [pvL_den B hv, e1]
      refine (h w R.fc).mono ?_
      rintro e w' ⟨rfl, hb⟩
      exact ⟨B, Ag.refl _ _ _, Nat.le_refl _, by rw [ext_self]; exact R.below hb, by simp [chn, hdP, tlP, den, denL, ent], by simp [bd]⟩
  · cases hk
/-- Is the first argument a value whose parts lie elsewhere? -/
def isYV : List SV → Bool
  | .g [_, _, _, .y _] :: _ => true
  | _ => false
/-- Two entries: what is told next picks one. -/
def kgSel (k1 k2 : KnG) : KnG := fun f args st => match isYV args, st.orc with
  | true, .bool true :: r => k1 f args ⟨st.m, r, st.cnd⟩
  | true, .bool false :: r => k2 f args ⟨st.m, r, st.cnd⟩
  | _, _ => none
theorem kgSel_ok {P : Program} {k1 k2 : KnG} (h1 : KnGOk P k1) (h2 : KnGOk P k2) : KnGOk P (kgSel k1 k2) := by
  intro f args st o hk
  unfold kgSel at hk
  split at hk
  · have := h1 f args _ o hk
    exact this
  · have := h2 f args _ o hk
    exact this
  · cases hk
end
/-- Two values that are given. -/
abbrev fcV (W : World) (h g : VH) : FC := ⟨fun _ => 0, fun _ => 0, fun _ => [], fun w => Below W.heap.size W w ∧ (VT 40 w h ∧ VT 40 w g) ∧ (rightW 40 w h = rightW 40 W h ∧ rightW 39 w h = rightW 39 W h ∧ rightW 40 w g = rightW 40 W g ∧ rightW 39 w g = rightW 39 W g) ∧ (countW 39 w h 60 = countW 39 W h 60 ∧ countW 39 w g 60 = countW 39 W g 60),
  fun w w' k gr => by
    have hb : Below w.heap.size w w' := ⟨gr.os, gr.tape, gr.output, gr.size, fun k hk => gr.block k hk (by simp)⟩
    obtain ⟨k1, ⟨k2, k3⟩, ⟨k4, k5, k6, k7⟩, k8, k9⟩ := k
    exact ⟨k1.trans (hb.mono k1.size), ⟨k2.below hb, k3.below hb⟩, ⟨(rightW_below hb k2).trans k4, (rightW_below hb (vt_less k2)).trans k5, (rightW_below hb k3).trans k6, (rightW_below hb (vt_less k3)).trans k7⟩, (countW_below hb (vt_less k2)).trans k8, (countW_below hb (vt_less k3)).trans k9⟩⟩
theorem fcV_at {W : World} {h g : VH} (k2 : VT 40 W h) (k3 : VT 40 W g) : @FcAt (fcV W h g) W := ⟨⟨Below.refl _ _, ⟨k2, k3⟩, ⟨rfl, rfl, rfl, rfl⟩, rfl, rfl⟩, fun i j x hx => by cases hx⟩
end Go.Proofs.YtoijdnlplbeomaaDoor
