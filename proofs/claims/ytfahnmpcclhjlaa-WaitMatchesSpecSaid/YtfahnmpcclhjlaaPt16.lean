/-
  Merged: Wk0, Wk1, Wk2
-/
import Derived.Test.YtfahnmpcclhjlaaPt12
import Derived.Test.YtfahnmpcclhjlaaPt15
import Derived.Test.YtfahnmpcclhjlaaRows

/-
  Layer 21: what is known of Rouse; the example of the documentation.
-/
namespace Go.Proofs.Ytfahnmpcclhjlaa
open Go Go.RowKit EX
set_option maxRecDepth 100000
set_option linter.unusedVariables false
set_option linter.unusedSimpArgs false
set_option linter.unusedSectionVars false
/-- The threads that are woken. -/
def fsA (L : Ly) (m : Int) : List Int := fsN L m (bitsL m 62).length
theorem rouse_any (L : Ly) (hok : L.ok) (m : Int) (w : World) : Calls Try.prog 14 #[L.v, .int .i64 m] w fun e W' =>
    ∃ v, e = .returned v ∧ W'.ownsRow w.heap.size EA 5 v (fsA L m).length (wakeC L (fsA L m)) ∧ (v = .slice none 0 0 ↔ fsA L m = []) ∧ Below w.heap.size w W' := callsIn_wide.1 (rouse_in L hok m w)
instance lyOkDec (L : Ly) : Decidable L.ok := by unfold Ly.ok; infer_instance
def wakeS (L : Ly) : List Int → List SV
  | [] => []
  | t :: l => .v (.int .i64 2) :: .v (.int .i64 (atWake L t)) :: .v (.int .i64 0) :: .v (.int .i64 1) :: .v (.string ByteArray.empty) :: wakeS L l
/-- A layout out of its cells. -/
def lyOf : List Value → Option Ly
  | [.int .i64 t, .int .i64 l, .int .i64 k, .int .i64 s, .int .i64 m, .int .i64 c, .int .i64 st, .int .i64 lg, .int .i64 fi, .int .i64 th, .int .i64 lk, .int .i64 lo, .int .i64 sz] => some ⟨⟨t, l, k, s, m⟩, c, st, lg, fi, th, lk, lo, sz⟩
  | _ => none
theorem lyOf_v {a : Array Value} {L : Ly} (h : lyOf a.toList = some L) : .agg a = L.v := by
  obtain ⟨l⟩ := a
  simp only at h
  unfold lyOf at h
  split at h
  · simp only [Option.some.injEq] at h
    subst h
    rfl
  · cases h
section
variable [FC]
theorem wakeS_den (B : Pl) (L : Ly) : ∀ l : List Int, denL B (wakeS L l) = wakeC L l
  | [] => by simp [wakeS, wakeC, denL]
  | t :: l => by
    have := wakeS_den B L l
    simp only [wakeS, denL, den, this]
    simp [wakeC]
theorem wakeS_bd (S : Nat → Prop) (L : Ly) : ∀ l : List Int, bdL S (wakeS L l)
  | [] => by simp [wakeS, bdL]
  | t :: l => by simp [wakeS, bdL, bd, wakeS_bd S L l]
/-- Rouse where all is known. -/
def rowRouse : KnR := fun args => match args with
  | [.v (.agg a), .v (.int .i64 m)] => match lyOf a.toList with
    | some L => match decide L.ok with
      | true => some (EA, 5, (fsA L m).length, wakeS L (fsA L m), [])
      | false => none
    | none => none
  | _ => none
theorem rowRouse_ok : RowOk Try.prog 14 rowRouse := by
  intro args ty sz l cs ps h
  unfold rowRouse at h
  split at h
  · rename_i a m
    split at h
    · rename_i L hL
      split at h
      · rename_i hok
        simp only [Option.some.injEq, Prod.mk.injEq] at h
        obtain ⟨rfl, rfl, rfl, rfl, rfl⟩ := h
        refine ⟨wakeS_bd _ _ _, fun _ B w => ?_⟩
        have e : (denL B [.v (.agg a), .v (.int .i64 m)]).toArray = #[L.v, .int .i64 m] := by simp [denL, den, lyOf_v hL]
        rw [e]
        refine (rouse_any L (of_decide_eq_true hok) m w).mono ?_
        rintro e w' ⟨v, rfl, h1, h2, h3⟩
        exact ⟨v, rfl, by rw [wakeS_den]; exact h1, fun h0 => h2.2 (List.eq_nil_of_length_eq_zero h0), h3⟩
      · cases h
    · cases h
  · cases h
/-- Rouse of a mask that is not known, where the threads are. -/
def rowMask (L : Ly) (m : Int) (ts : List Int) : KnR := fun args => match args with
  | [.v (.agg a), .y (.int .i64 k)] => some (EA, 5, ts.length, wakeS L ts, [(.agg a, L.v), (.int .i64 k, .int .i64 m)])
  | _ => none
theorem rowMask_ok {L : Ly} {m : Int} {ts : List Int} (hok : L.ok) (h : fsA L m = ts) : RowOk Try.prog 14 (rowMask L m ts) := by
  intro args ty sz l cs ps hx
  unfold rowMask at hx
  split at hx
  · rename_i a k
    simp only [Option.some.injEq, Prod.mk.injEq] at hx
    obtain ⟨rfl, rfl, rfl, rfl, rfl⟩ := hx
    refine ⟨wakeS_bd _ _ _, fun tr B w => ?_⟩
    have c1 := tr _ (List.mem_cons_self ..)
    have c2 := tr _ (List.mem_cons_of_mem _ (List.mem_cons_self ..))
    simp only at c1 c2
    have e : (denL B [.v (.agg a), .y (.int .i64 k)]).toArray = #[L.v, .int .i64 m] := by simp [denL, den, c1, c2]
    rw [e]
    refine (rouse_any L hok m w).mono ?_
    rw [h]
    rintro e w' ⟨v, rfl, h1, h2, h3⟩
    exact ⟨v, rfl, by rw [wakeS_den]; exact h1, fun h0 => h2.2 (List.eq_nil_of_length_eq_zero h0), h3⟩
  · cases hx
end
end Go.Proofs.Ytfahnmpcclhjlaa


/-
  Layer 21: the example of the documentation, in three parts.
-/
namespace Go.Proofs.Ytfahnmpcclhjlaa
open Go Go.RowKit EX
set_option maxRecDepth 100000
set_option linter.unusedVariables false
/-- The text of the example, and what is left of it behind so many statements. -/
noncomputable def sb21 : Code := match (Try.f9).body with
  | some c => c
  | none => .skip
def skipS (n : Nat) : Code → Code := Nat.rec (motive := fun _ => Code → Code) (fun c => c) (fun _ ih c => match c with
  | .seq _ b => ih b
  | c => c) n
def iv (n : Int) : SV := .v (.int .i64 n)
def nilS : SV := .v (.slice none 0 0)
def bxA : Bx := ⟨71, [.r 1 0 28 28, .s 2 0 1 1, iv 6, iv 0, iv 0, iv 0, iv 0, iv 0, iv 0, .r 3 0 1 1, nilS, nilS, nilS, iv 3, .v (.bool false)], 0, false, []⟩
def bxAc : Bx := ⟨3, [iv 1, iv 0, iv 0, iv 0, iv 0, iv 0, iv 1, iv 0, iv 0, iv 0, iv 0, iv 0, iv 0, iv 0, iv 0, iv 0, iv 2, iv 0, iv 0, iv 0, iv 0, iv 0, iv 0, iv 0, iv 0, iv 0, iv 0, iv 0], 1, false, []⟩
def bxB : Bx := ⟨71, [.r 5 0 28 28, .s 6 0 0 0, iv 6, iv 0, iv 0, iv 0, iv 0, iv 0, iv 0, .r 7 0 1 1, nilS, nilS, .r 8 0 1 1, iv 1, .v (.bool false)], 0, false, []⟩
def bxBc : Bx := ⟨3, [iv 0, iv 0, iv 0, iv 0, iv 0, iv 0, iv 0, iv 0, iv 0, iv 0, iv 0, iv 0, iv 0, iv 0, iv 0, iv 0, iv 0, iv 0, iv 0, iv 1, iv 0, iv 0, iv 0, iv 0, iv 0, iv 0, iv 0, iv 0], 1, false, []⟩
def tl1 : List (Nat × SV) := [(0, .v (.bool false)), (1, .p 0 0)]
def kl1 : List (Nat × Bx) := [(0, bxA), (1, bxAc)]
def ns1 : List Nat := [15, 1058, 14, 17]
def tl2 : List (Nat × SV) := [(0, .v (.bool false)), (1, .p 0 0), (2, .p 4 0)]
def kl2 : List (Nat × Bx) := [(0, bxA), (1, bxAc), (4, bxB), (5, bxBc)]
def ns2 : List Nat := [0, 1, 2, 3, 16, 230, 15, 18, 2291]
abbrev post21 (w : World) : Exit → Act → World → Prop := bodyPostD Try.prog Try.f9 fun e w' => e = .returned (.bool true) ∧ Below w.heap.size w w'
set_option maxHeartbeats 4000000 in
theorem part3 (w : World) : EX.Good Try.prog w (post21 w) ⟨9, 66, mkTr tl2, []⟩ [.code (skipS 3 sb21)] ⟨⟨mkTr kl2, 9, []⟩, [], []⟩ :=
  cut_end (kgRow_ok rowRouse_ok) 100000 (v := .bool true) (cs := []) (by kernel_rfl) (by intro q hq; cases hq)
set_option maxHeartbeats 4000000 in
theorem part2 (w : World) : EX.Good Try.prog w (post21 w) ⟨9, 66, mkTr tl1, []⟩ [.code (skipS 2 sb21)] ⟨⟨mkTr kl1, 4, []⟩, [], []⟩ :=
  cut_mid (kgRow_ok rowRouse_ok) 100000 7 tl2 kl2 ns2 (cs := []) (by kernel_rfl) (by intro q hq; cases hq) (by decide) (by kernel_rfl) (part3 w)
end Go.Proofs.Ytfahnmpcclhjlaa


/-
  Layer 21: the example of the documentation: its first part, and the whole.
-/
namespace Go.Proofs.Ytfahnmpcclhjlaa
open Go Go.RowKit EX
set_option maxRecDepth 100000
set_option linter.unusedVariables false
set_option maxHeartbeats 4000000 in
theorem part1 (w : World) : EX.Good Try.prog w (post21 w) (fr0 9 Try.f9 []) [.code sb21] ⟨⟨.leaf, 0, []⟩, [], []⟩ :=
  cut_mid (kgRow_ok rowRouse_ok) 100000 14 tl1 kl1 ns1 (cs := []) (by kernel_rfl) (by intro q hq; cases hq) (by decide) (by kernel_rfl) (part2 w)
theorem sane21 (w : World) : Calls Try.prog 9 #[] w fun e w' => e = .returned (.bool true) ∧ Below w.heap.size w w' :=
  cut_all (c := sb21) Try.func9 (by kernel_rfl) (part1 w) (fcAt_none w)
end Go.Proofs.Ytfahnmpcclhjlaa
