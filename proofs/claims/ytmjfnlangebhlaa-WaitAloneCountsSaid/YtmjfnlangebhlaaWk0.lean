
/-
  Layer 21: what is known of Rouse; the example of the documentation.
-/
import Derived.Test.YtmjfnlangebhlaaRouD
import Derived.Test.YtmjfnlangebhlaaKg
namespace Go.Proofs.Ytmjfnlangebhlaa
open Go Go.RowKit EX
set_option maxRecDepth 100000
set_option linter.unusedVariables false
set_option linter.unusedSimpArgs false
set_option linter.unusedSectionVars false
/-- The threads that are woken. -/
def fsA (L : Ly) (m : Int) : List Int := fsN L m (bitsL m 62).length
theorem rouse_any (L : Ly) (hok : L.ok) (m : Int) (w : World) : Calls Try.prog 28 #[L.v, .int .i64 m] w fun e W' =>
    ∃ v, e = .returned v ∧ W'.ownsRow w.heap.size EA 5 v (fsA L m).length (wakeC L (fsA L m)) ∧ (v = .slice none 0 0 ↔ fsA L m = []) ∧ Below w.heap.size w W' := callsIn_wide.1 (rouse_in L hok m w)
instance (L : Ly) : Decidable L.ok := by unfold Ly.ok; infer_instance
def wakeS (L : Ly) : List Int → List SV
  | [] => []
  | t :: l => .v (.int .i64 2) :: .v (.int .i64 (atWake L t)) :: .v (.int .i64 0) :: .v (.int .i64 1) :: .v (.string ByteArray.empty) :: wakeS L l
/-- A layout out of its cells. -/
def lyOf : List Value → Option Ly
  | [.int .i64 t, .int .i64 l, .int .i64 k, .int .i64 s, .int .i64 m, .int .i64 c, .int .i64 st, .int .i64 lg, .int .i64 fi, .int .i64 th, .int .i64 lk, .int .i64 lo, .int .i64 sz] => some ⟨⟨t, l, k, s, m⟩, c, st, lg, fi, th, lk, lo, sz⟩
  | _ => none
theorem lyOf_v {a : Array Value} {L : Ly} (h : lyOf a.toList = some L) : .agg a = L.v := by
  obtain ⟨l⟩ := a
  simp only at h
  unfold lyOf at h
  split at h
  · simp only [Option.some.injEq] at h
    subst h
    rfl
  · cases h
section
variable [FC]
theorem wakeS_den (B : Pl) (L : Ly) : ∀ l : List Int, denL B (wakeS L l) = wakeC L l
  | [] => by simp [wakeS, wakeC, denL]
  | t :: l => by
    have := wakeS_den B L l
    simp only [wakeS, denL, den, this]
    simp [wakeC]
theorem wakeS_bd (S : Nat → Prop) (L : Ly) : ∀ l : List Int, bdL S (wakeS L l)
  | [] => by simp [wakeS, bdL]
  | t :: l => by simp [wakeS, bdL, bd, wakeS_bd S L l]
/-- Rouse where all is known. -/
def rowRouse : KnR := fun args => match args with
  | [.v (.agg a), .v (.int .i64 m)] => match lyOf a.toList with
    | some L => match decide L.ok with
      | true => some (EA, 5, (fsA L m).length, wakeS L (fsA L m), [])
      | false => none
    | none => none
  | _ => none
theorem rowRouse_ok : RowOk Try.prog 28 rowRouse := by
  intro args ty sz l cs ps h
  unfold rowRouse at h
  split at h
  · rename_i a m
    split at h
    · rename_i L hL
      split at h
      · rename_i hok
        simp only [Option.some.injEq, Prod.mk.injEq] at h
        obtain ⟨rfl, rfl, rfl, rfl, rfl⟩ := h
        refine ⟨wakeS_bd _ _ _, fun _ B w => ?_⟩
        have e : (denL B [.v (.agg a), .v (.int .i64 m)]).toArray = #[L.v, .int .i64 m] := by simp [denL, den, lyOf_v hL]
        rw [e]
        refine (rouse_any L (of_decide_eq_true hok) m w).mono ?_
        rintro e w' ⟨v, rfl, h1, h2, h3⟩
        exact ⟨v, rfl, by rw [wakeS_den]; exact h1, fun h0 => h2.2 (List.eq_nil_of_length_eq_zero h0), h3⟩
      · cases h
    · cases h
  · cases h
/-- Rouse of a mask that is not known, where the threads are. -/
def rowMask (L : Ly) (m : Int) (ts : List Int) : KnR := fun args => match args with
  | [.v (.agg a), .y (.int .i64 k)] => some (EA, 5, ts.length, wakeS L ts, [(.agg a, L.v), (.int .i64 k, .int .i64 m)])
  | _ => none
theorem rowMask_ok {L : Ly} {m : Int} {ts : List Int} (hok : L.ok) (h : fsA L m = ts) : RowOk Try.prog 28 (rowMask L m ts) := by
  intro args ty sz l cs ps hx
  unfold rowMask at hx
  split at hx
  · rename_i a k
    simp only [Option.some.injEq, Prod.mk.injEq] at hx
    obtain ⟨rfl, rfl, rfl, rfl, rfl⟩ := hx
    refine ⟨wakeS_bd _ _ _, fun tr B w => ?_⟩
    have c1 := tr _ (List.mem_cons_self ..)
    have c2 := tr _ (List.mem_cons_of_mem _ (List.mem_cons_self ..))
    simp only at c1 c2
    have e : (denL B [.v (.agg a), .y (.int .i64 k)]).toArray = #[L.v, .int .i64 m] := by simp [denL, den, c1, c2]
    rw [e]
    refine (rouse_any L hok m w).mono ?_
    rw [h]
    rintro e w' ⟨v, rfl, h1, h2, h3⟩
    exact ⟨v, rfl, by rw [wakeS_den]; exact h1, fun h0 => h2.2 (List.eq_nil_of_length_eq_zero h0), h3⟩
  · cases hx
end
end Go.Proofs.Ytmjfnlangebhlaa
