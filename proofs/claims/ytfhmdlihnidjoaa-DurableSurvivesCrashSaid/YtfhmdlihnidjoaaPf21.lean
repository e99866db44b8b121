/-
  Merged: BkC, BkS
-/
import Derived.Test.YtfhmdlihnidjoaaRows
import Derived.Test.YtfhmdlihnidjoaaPf1
import Derived.Test.YtfhmdlihnidjoaaPf8
import Derived.Test.YtfhmdlihnidjoaaPf19
namespace Go.Proofs.Ytfhmdlihnidjoaa
set_option maxRecDepth 100000
set_option linter.unusedVariables false
set_option linter.unusedSimpArgs false
set_option linter.unusedSectionVars false
set_option maxHeartbeats 4000000
open Go Go.RowKit EX
theorem Qej {b off cap : Nat} {a : Option Addr} {es : List En} {loc : Int} {w : World} (hreach : es.length ≤ 140737488355328) (ha : 0 < es.length → a = some ⟨b, off, none⟩) (hc : 0 < es.length → EsAt w.heap.size w b off es)
    (hws : ∀ j : Nat, WsAt w.heap.size w (es[j]?.getD default) ∧ (es[j]?.getD default).ws.length ≤ 140737488355328) : Calls Try.prog 12 #[.slice a es.length cap, .int .i64 loc] w fun e W' => e = .returned (QjZ (Qcx es loc (bkL es.length 0))) ∧ Below w.heap.size w W' :=
  (callsIn_wide).1 (last_in 9 (Nat.le_refl _) b off cap a es loc w hreach ha hc hws)
def last1 (loc ver l v : Int) : Option (Int × Int × Int) := if l = loc then some (l, v, ver) else none
def QcL : KnG := fun f args st => match Nat.beq f 12, args with
  | true, [.v (.slice none 0 0), .v (.int .i64 loc)] => some ⟨.ret (.v (QjZ none)), st⟩
  | true, [.r i o 1 x, .v (.int .i64 loc)] => match st.m.K.get i with
    | some b => match b.cs[o]?, b.cs[o + 1]? with
      | some (.v (.int .i64 ver)), some (.r j p 1 y) => match st.m.K.get j with
        | some c => match c.cs[p]?, c.cs[p + 1]? with
          | some (.v (.int .i64 l)), some (.v (.int .i64 v)) => some ⟨.ret (.v (QjZ (last1 loc ver l v))), st⟩
          | _, _ => none
        | none => none
      | _, _ => none
    | none => none
  | _, _ => none
section
variable [FC]
theorem Qi5 (S : Nat → Prop) (t : Option (Int × Int × Int)) : bd S (.v (QjZ t)) := by simp [bd]
theorem Qbv : QfE Try.prog QcL := by
  intro f args st o h
  unfold QcL at h
  split at h
  · rename_i loc hf
    have := Nat.eq_of_beq_eq_true hf
    subst this
    simp only [Option.some.injEq] at h
    subst h
    refine ⟨Sfx.refl _, trivial, fun tr w0 F B S w hS R hargs => ?_⟩
    have ea : (Qam B [.v (.slice none 0 0), .v (.int .i64 loc)]).toArray = #[.slice none ([] : List En).length 0, .int .i64 loc] := rfl
    rw [ea]
    refine (Qej (b := 0) (off := 0) (by simp) (by simp) (by simp) (fun j => ⟨by simp [WsAt]; exact Or.inl rfl, by simp; exact Nat.zero_le _⟩)).mono ?_
    rintro e w' ⟨rfl, hb⟩
    exact ⟨B, Ag.refl _ _ _, Nat.le_refl _, by rw [Qal]; exact R.below hb, rfl, Qi5 _ _⟩
  · rename_i i0 o0 x loc hf
    have := Nat.eq_of_beq_eq_true hf
    subst this
    split at h
    · rename_i b hb
      split at h
      · rename_i ver j p y h1 h2
        split at h
        · rename_i c hc
          split at h
          · rename_i l v h3 h4
            simp only [Option.some.injEq] at h
            subst h
            refine ⟨Sfx.refl _, trivial, fun tr w0 F B S w hS R hargs => ?_⟩
            have ea : (Qam B [.r i0 o0 1 x, .v (.int .i64 loc)]).toArray = #[.slice (some ⟨(B i0).1, o0, none⟩) [(⟨ver, some ⟨(B j).1, p, none⟩, (B j).2 + y, [(l, v)]⟩ : En)].length ((B i0).2 + x), .int .i64 loc] := rfl
            rw [ea]
            have g1 := R.cell hb h1
            have g2 := R.cell hb h2
            have g3 := R.cell hc h3
            have g4 := R.cell hc h4
            refine (Qej (b := (B i0).1) (off := o0) (by simp) (fun _ => rfl) (fun _ => ⟨R.lt hb, fun k hk => ?_⟩) (fun k => ?_)).mono ?_
            · obtain rfl : k = 0 := by simpa using hk
              exact ⟨g1, g2⟩
            · cases k with
              | zero =>
                refine ⟨Or.inr ⟨(B j).1, p, rfl, R.lt hc, fun q hq => ?_⟩, by simp⟩
                obtain rfl : q = 0 := by simpa using hq
                exact ⟨g3, g4⟩
              | succ k => exact ⟨by simp [WsAt]; exact Or.inl rfl, by simp; exact Nat.zero_le _⟩
            · rintro e w' ⟨rfl, hb'⟩
              have el : Qcx [(⟨ver, some ⟨(B j).1, p, none⟩, (B j).2 + y, [(l, v)]⟩ : En)] loc (bkL 1 0) = last1 loc ver l v := by
                unfold last1
                by_cases e : l = loc
                · simp [bkL, Qcx, Qc2, e]
                · simp [bkL, Qcx, Qc2, e]
              exact ⟨B, Ag.refl _ _ _, Nat.le_refl _, by rw [Qal]; exact R.below hb', by simp only [den]; rw [show [(⟨ver, some ⟨(B j).1, p, none⟩, (B j).2 + y, [(l, v)]⟩ : En)].length = 1 from rfl, el], Qi5 _ _⟩
          · cases h
        · cases h
      · cases h
    · cases h
  · cases h
end
theorem sane25 (w : World) : Calls Try.prog 6 #[] w fun e w' => e = .returned (.bool true) ∧ Below w.heap.size w w' :=
  @Qcr noFC _ QcL Qbv 100000 _ _ [] [] _ [] w (by kernel_rfl) (by simp [Qam]) trivial (by intro q hq; cases hq) (QaT _)
end Go.Proofs.Ytfhmdlihnidjoaa
