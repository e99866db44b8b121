/-
  Merged: An0
-/
import Derived.Test.YtdfngmplfgifiaaPa10
import Derived.Test.YtdfngmplfgifiaaPa1
import Derived.Test.YtdfngmplfgifiaaPa14

/-
  Layer 20 as a table of known results: Next of an operation on an abstract lock, where its log is known; the layouts of its statements.
-/
namespace Go.Proofs.Ytdfngmplfgifiaa
open Go Go.RowKit EX
set_option maxRecDepth 100000
set_option linter.unusedVariables false
set_option linter.unusedSimpArgs false
set_option linter.unusedSectionVars false
abbrev kda (k a b ty : Int) (m : Ct) (sa wa da : Option Addr) (sl sc wl wc dl dc : Nat) : Value := .agg #[.int .i64 k, .int .i64 a, .int .i64 b, .int .i64 ty, .int .i64 m.s, .int .i64 m.k, .int .i64 m.a, .slice sa sl sc, .slice wa wl wc, .slice da dl dc]
/-- The kind, the lock and the contender of an operation. -/
def opA : List Value → Option (Int × Int × Ct)
  | [.int .i64 k, .int .i64 a, .int .i64 _, .int .i64 _, .int .i64 s, .int .i64 r, .int .i64 m, .slice _ _ _, .slice _ _ _, .slice _ _ _] => some (k, a, ⟨s, r, m⟩)
  | _ => none
theorem opA_v {l : List Value} {k a : Int} {m : Ct} (h : opA l = some (k, a, m)) : ∃ b ty sa wa da sl sc wl wc dl dc, .agg l.toArray = kda k a b ty m sa wa da sl sc wl wc dl dc := by
  unfold opA at h
  split at h
  · simp only [Option.some.injEq, Prod.mk.injEq] at h
    obtain ⟨rfl, rfl, rfl⟩ := h
    exact ⟨_, _, _, _, _, _, _, _, _, _, _, rfl⟩
  · cases h
section
variable [FC]
/-- Next of an abstract lock, from a log that is known. -/
def kgAbs : KnG := fun f args st => match Nat.beq f 30, args with
  | true, [xl, .v (.int .i64 me), xo, lg] => match (aggL (pvE xl)).bind lyOf2, (aggL (pvE xo)).bind opA, logS st.m lg with
    | some L, some (k, a, m), some l => match decide L.ok with
      | true => some ⟨.ret (.v (nextV ((absT L me k a m (l.length + 1)).run l))), st⟩
      | _ => none
    | _, _, _ => none
  | _, _ => none
theorem kgAbs_ok : KnGOk Try.prog kgAbs := by
  intro f args st o h
  unfold kgAbs at h
  split at h
  · rename_i xl me xo lg hf
    have := Nat.eq_of_beq_eq_true hf
    subst this
    split at h
    · rename_i L k a m l hL ho hl
      split at h
      · rename_i hok
        simp only [Option.some.injEq] at h
        subst h
        refine ⟨Sfx.refl _, trivial, fun tr w0 F B S w hS R hargs => ?_⟩
        cases h1 : aggL (pvE xl) with
        | none => rw [h1] at hL; cases hL
        | some al =>
          rw [h1] at hL
          cases h2 : aggL (pvE xo) with
          | none => rw [h2] at ho; cases ho
          | some ao =>
            rw [h2] at ho
            obtain ⟨b, ty, sa, wa, da, sl, sc, wl, wc, dl, dc, e⟩ := opA_v (show opA ao = some (k, a, m) from ho)
            obtain ⟨hv, hI⟩ := logS_ok R hl
            have ea : (denL B [xl, .v (.int .i64 me), xo, lg]).toArray = #[L.v, .int .i64 me, kda k a b ty m sa wa da sl sc wl wc dl dc, den B lg] := by
              simp only [denL, aggL_den B h1, aggL_den B h2, lyOf2_v (show lyOf2 al = some L from hL), e, den]
            rw [ea]
            refine (anext_any w L (of_decide_eq_true hok) me k a b ty m sa wa da sl sc wl wc dl dc _ l hv hI).mono ?_
            rintro e w' ⟨rfl, hb⟩
            exact ⟨B, Ag.refl _ _ _, Nat.le_refl _, by rw [ext_self]; exact R.below hb, by simp [den], by simp [bd]⟩
      · cases h
    · cases h
  · cases h
end
/-- The layout of the statements of layer 20. -/
def ly20 (k : Int) : Ly := layOf ⟨3, 0, 3, 0, k⟩
end Go.Proofs.Ytdfngmplfgifiaa
