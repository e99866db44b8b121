/-
  Merged: WlS, BkD
-/
import Derived.Test.YtfhmdlihnidjoaaRows
import Derived.Test.YtfhmdlihnidjoaaPf1
import Derived.Test.YtfhmdlihnidjoaaPf8
namespace Go.Proofs.Ytfhmdlihnidjoaa
set_option maxRecDepth 100000
set_option linter.unusedVariables false
set_option linter.unusedSectionVars false
set_option linter.unusedSimpArgs false
open Go Go.RowKit EX

end Go.Proofs.Ytfhmdlihnidjoaa
namespace Go.Proofs.Ytfhmdlihnidjoaa.EX
open Go Go.RowKit
set_option linter.unusedVariables false
set_option linter.unusedSectionVars false
set_option linter.unusedSimpArgs false
set_option maxRecDepth 100000
variable [FC]
def outM : Option Ou → Option (List SV × List (Value × Value))
  | some ⟨.ret (.m i), st⟩ => match st.m.K.get i with
    | some b => match b.mp with
      | true => some (b.es, st.cnd)
      | false => none
    | none => none
  | _ => none
theorem ex_mapG {P : Program} {kn : KnG} (hkn : QfE P kn) (n : Nat) {f : FuncId} {av : List Value} (args : List SV) (orc : List Value) {es : List SV} (cs : List (Value × Value)) {w : World}
    (h : outM (goF P kn n (.call f args) (st1 orc)) = some (es, cs)) (ha : Qam (fun _ => (0, 0)) args = av) (hb : bdL (fun _ => False) args) (hc : ∀ q ∈ cs, q.1 = q.2) (hfc : FcAt w := by first | assumption | exact QaT _) :
    Calls P f av.toArray w fun e w' => ∃ B g, e = .returned (.map (some g)) ∧ w'.heap[g]? = some (objM B es) ∧ w.heap.size ≤ g ∧ Below w.heap.size w w' := by
  rw [QlN] at h
  unfold outM at h
  split at h
  · rename_i i st h1
    obtain ⟨m, orc', cnd⟩ := st
    split at h
    · rename_i b hb'
      split at h
      · rename_i hmp
        simp only [Option.some.injEq, Prod.mk.injEq] at h
        obtain ⟨rfl, rfl⟩ := h
        rw [← ha]
        refine (QlY hkn (drE_ok P) n h1 hb hc hfc).mono fun e w' ⟨B, h2, R, h3⟩ => ⟨B, (B i).1, h2, ?_, R.lo i b hb', h3⟩
        obtain ⟨_, _, rest, _, hh⟩ := R.bx i b hb'
        rw [hh]
        unfold Qcd
        rw [hmp]
      · cases h
    · cases h
  · cases h
theorem Qgu {P : Program} {t kt et : TypeId} {g : Nat} {es : List SV} {B : Pl} {w : World} {n : Int} {r : Option SV} {z : Value} {ok : Bool} (hu : P.underlying t = some (.map kt et)) (hi : (P.underlying kt).map QfU = some true) (hz : SZ.pev P (zeroValue et) = some z) (hke : QeO .i64 n es = some r) (hh : w.heap[g]? = some (objM B es)) :
    (Instr.lookup t (.map (some g)) (.int .i64 n) ok).run P w = .ok (den B (lkV ok r z)) w := by
  obtain ⟨q, hq⟩ := Qfh hi
  simp only [Qgo hke] at hh
  obtain ⟨p, hf, hp⟩ := QdK (B := B) hq hke w
  have hg : (getObj g).run P w = .ok (.map (Qfs 0 (Qam B es)).toArray (Qfs 0 (Qam B es)).length) w := by
    simp only [getObj, Sem.run, hh]
  unfold Instr.lookup
  rw [Sem.run_bind, run_underlying hu w]
  simp only [Result.andThen_ok, Sem.run_bind, hg, Sem.run_pure, Qdk hq, hf]
  cases r with
  | none =>
    have hp' : p = none := hp
    subst hp'
    simp only [Sem.run_bind, SZ.pev_run _ hz w, Result.andThen_ok, Sem.run_pure]
    cases ok <;> simp [lkV, den, Qam, Sem.run_pure]
  | some v =>
    obtain ⟨a', hp'⟩ : ∃ a, p = some (a, den B v) := hp
    subst hp'
    simp only [Sem.run_pure, Result.andThen_ok]
    cases ok <;> simp [lkV, den, Qam, Sem.run_pure]
end Go.Proofs.Ytfhmdlihnidjoaa.EX
namespace Go.Proofs.Ytfhmdlihnidjoaa
open Go Go.RowKit EX
set_option maxRecDepth 100000
set_option linter.unusedVariables false
set_option linter.unusedSimpArgs false
def devE : List SV := [.v (.int .i64 5), .v (.func (.func 60) #[] #[]), .v (.int .i64 6), .v (.func (.func 62) #[] #[])]
def QjB (W : World) (g : Nat) : Prop := ∃ B, W.heap[g]? = some (objM B devE)
theorem Qhm (w : World) : Calls Try.prog 41 #[] w fun e w' => ∃ g, e = .returned (.map (some g)) ∧ QjB w' g ∧ w.heap.size ≤ g ∧ Below w.heap.size w w' :=
  (@ex_mapG noFC _ _ (gk_ok Qhb) 100000 _ _ [] [] devE [] w (by kernel_rfl) (by simp [Qam]) trivial (by intro q hq; cases hq) (QaT _)).mono fun e w' ⟨B, g, h1, h2, h3, h4⟩ => ⟨g, h1, ⟨B, h2⟩, h3, h4⟩
def devF (k : Int) : Value := if k = 5 then .tuple #[.func (.func 60) #[] #[], .bool true] else if k = 6 then .tuple #[.func (.func 62) #[] #[], .bool true] else .tuple #[.nilFunc, .bool false]
abbrev TM : TypeId := 91
abbrev TFn : TypeId := 89
theorem look_t (W : World) (g : Nat) (k : Int) (h : QjB W g) : (Instr.lookup TM (.map (some g)) (.int .i64 k) true).run Try.prog W = .ok (devF k) W := by
  obtain ⟨B, hB⟩ := h
  have hz : SZ.pev Try.prog (zeroValue TFn) = some .nilFunc := by kernel_rfl
  by_cases h5 : k = 5
  · subst h5
    exact Qgu (kt := 3) (et := TFn) (r := some (.v (.func (.func 60) #[] #[]))) (z := .nilFunc) (ok := true) (B := B) (by kernel_rfl) (by kernel_rfl) hz rfl hB
  · by_cases h6 : k = 6
    · subst h6
      exact Qgu (kt := 3) (et := TFn) (r := some (.v (.func (.func 62) #[] #[]))) (z := .nilFunc) (ok := true) (B := B) (by kernel_rfl) (by kernel_rfl) hz rfl hB
    · have e : devF k = den B (lkV true none .nilFunc) := by unfold devF; rw [if_neg h5, if_neg h6]; rfl
      rw [e]
      refine Qgu (kt := 3) (et := TFn) (r := none) (z := .nilFunc) (ok := true) (B := B) (by kernel_rfl) (by kernel_rfl) hz ?_ hB
      simp [QeO, devE, fun e : (k = 5) => h5 e, show decide (k = 5) = false from decide_eq_false h5, show decide (k = 6) = false from decide_eq_false h6]
end Go.Proofs.Ytfhmdlihnidjoaa
