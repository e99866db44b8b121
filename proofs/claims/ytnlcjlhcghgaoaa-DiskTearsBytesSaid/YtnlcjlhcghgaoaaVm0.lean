
/-
  Known results that rest on facts about what is given.
-/
import Derived.Test.YtnlcjlhcghgaoaaEp
namespace Go.Proofs.Ytnlcjlhcghgaoaa.EX
open Go Go.RowKit
set_option linter.unusedVariables false
set_option linter.unusedSimpArgs false
set_option linter.unusedSectionVars false
set_option maxRecDepth 10000
variable [FC]
/-- A value that speaks of no own variable. -/
def pvE : SV → Option Value
  | .v x => some x
  | .y x => some x
  | .g l => match softL l with
    | some r => some (.agg r.toArray)
    | none => none
  | .q i o l c => some (.slice (some ⟨FC.b i, FC.o i + o, none⟩) l c)
  | _ => none
def pvL : List SV → Option (List Value)
  | [] => some []
  | x :: l => match pvE x, pvL l with
    | some v, some r => some (v :: r)
    | _, _ => none
theorem pvE_den (B : Pl) {x : SV} {v : Value} (h : pvE x = some v) : den B x = v := by
  cases x with
  | v x => simp only [pvE, Option.some.injEq] at h; subst h; simp [den]
  | y x => simp only [pvE, Option.some.injEq] at h; subst h; simp [den]
  | q i o l c => simp only [pvE, Option.some.injEq] at h; subst h; simp [den]
  | g l =>
    simp only [pvE] at h
    cases hs : softL l with
    | none => rw [hs] at h; cases h
    | some r => rw [hs] at h; simp only [Option.some.injEq] at h; subst h; simp [den, softL_den B hs]
  | _ => simp [pvE] at h
theorem pvL_den (B : Pl) : ∀ {l : List SV} {r : List Value}, pvL l = some r → denL B l = r
  | [], r, h => by simp [pvL] at h; subst h; simp [denL]
  | x :: l, r, h => by
    simp only [pvL] at h
    cases h1 : pvE x with
    | none => rw [h1] at h; cases h
    | some v =>
      cases h2 : pvL l with
      | none => rw [h1, h2] at h; cases h
      | some s =>
        rw [h1, h2] at h
        simp only [Option.some.injEq] at h
        subst h
        simp [denL, pvE_den B h1, pvL_den B h2]
/-- A call with these arguments returns this. -/
def kgAt (f0 : FuncId) (as : List Value) (x : SV) : KnG := fun f args st => match Nat.beq f f0, pvL args with
  | true, some vs => match Nat.beq vs.length as.length with
    | true => some ⟨.ret x, ⟨st.m, st.orc, vs.zip as ++ st.cnd⟩⟩
    | false => none
  | _, _ => none
theorem zip_eq : ∀ {l m : List Value}, l.length = m.length → (∀ q ∈ l.zip m, q.1 = q.2) → l = m
  | [], [], _, _ => rfl
  | a :: l, b :: m, h, t => by
    have h1 := t (a, b) (by simp)
    have h2 : l = m := zip_eq (by simpa using h) fun q hq => t q (by simp [hq])
    simp only at h1
    rw [h1, h2]
  | [], _ :: _, h, _ => by simp at h
  | _ :: _, [], h, _ => by simp at h
theorem kgAt_ok {P : Program} {f0 : FuncId} {as : List Value} {x : SV} (hx : bd (fun _ => False) x) (h : ∀ w, FcAt w → Calls P f0 as.toArray w fun e w' => e = .returned (den (fun _ => (0, 0)) x) ∧ Below w.heap.size w w') : KnGOk P (kgAt f0 as x) := by
  intro f args st o hk
  unfold kgAt at hk
  split at hk
  · rename_i vs hf hv
    have := Nat.eq_of_beq_eq_true hf
    subst this
    cases hl : Nat.beq vs.length as.length with
    | false => rw [hl] at hk; cases hk
    | true =>
      rw [hl] at hk
      simp only [Option.some.injEq] at hk
      subst hk
      refine ⟨⟨⟨_, rfl⟩, Fm.refl _⟩, trivial, fun tr w0 F B S w hS R hargs => ?_⟩
      have e1 : vs = as := zip_eq (Nat.eq_of_beq_eq_true hl) fun q hq => tr q (List.mem_append_left _ hq)
      rw [pvL_den B hv, e1]
      refine (h w R.fc).mono ?_
      rintro e w' ⟨rfl, hb⟩
      exact ⟨B, Ag.refl _ _ _, Nat.le_refl _, by rw [ext_self]; exact R.below hb, by rw [den_ag (S := fun _ => False) (fun _ h => h.elim) hx], bd_mono (fun _ h => h.elim) hx⟩
  · cases hk
end Go.Proofs.Ytnlcjlhcghgaoaa.EX
