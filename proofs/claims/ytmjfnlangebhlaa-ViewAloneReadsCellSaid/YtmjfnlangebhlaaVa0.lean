
/-
  Layer 19: what is known of words, and the example; three given rows.
-/
import Derived.Test.YtmjfnlangebhlaaRows
import Derived.Test.YtmjfnlangebhlaaBase
import Derived.Test.YtmjfnlangebhlaaAux
import Derived.Test.YtmjfnlangebhlaaWord2
import Derived.Test.YtmjfnlangebhlaaKni
import Derived.Test.YtmjfnlangebhlaaVisD
import Derived.Test.YtmjfnlangebhlaaVt0
namespace Go.Proofs.Ytmjfnlangebhlaa
open Go Go.RowKit EX
set_option maxRecDepth 100000
set_option linter.unusedVariables false
set_option linter.unusedSimpArgs false
set_option linter.unusedSectionVars false
theorem sane19 (w : World) : Calls Try.prog 18 #[] w fun e w' => e = .returned (.bool true) ∧ Below w.heap.size w w' :=
  ex_valG kgVis_ok 100000 [] [] [] (by kernel_rfl) (by simp [denL]) trivial (by intro q hq; cases hq)
/-- Three given rows. -/
abbrev fc3 (b0 o0 b1 o1 b2 o2 : Nat) (c0 c1 c2 : List SV) : FC :=
  ⟨fun i => Nat.casesOn (motive := fun _ => Nat) i b0 (fun j => Nat.casesOn (motive := fun _ => Nat) j b1 (fun _ => b2)), fun i => Nat.casesOn (motive := fun _ => Nat) i o0 (fun j => Nat.casesOn (motive := fun _ => Nat) j o1 (fun _ => o2)),
    fun i => Nat.casesOn (motive := fun _ => List SV) i c0 (fun j => Nat.casesOn (motive := fun _ => List SV) j c1 (fun k => Nat.casesOn (motive := fun _ => List SV) k c2 (fun _ => []))), fun _ => True, fun _ _ _ _ => trivial⟩
theorem fc3_at {b0 o0 b1 o1 b2 o2 : Nat} {c0 c1 c2 : List SV} {w : World} (h0 : ∀ j x, c0[j]? = some x → ∃ v, x = .y v ∧ w.cell? ⟨b0, o0 + j, none⟩ = some v) (h1 : ∀ j x, c1[j]? = some x → ∃ v, x = .y v ∧ w.cell? ⟨b1, o1 + j, none⟩ = some v)
    (h2 : ∀ j x, c2[j]? = some x → ∃ v, x = .y v ∧ w.cell? ⟨b2, o2 + j, none⟩ = some v) : @FcAt (fc3 b0 o0 b1 o1 b2 o2 c0 c1 c2) w := by
  refine ⟨trivial, fun i j x hx => ?_⟩
  match i with
  | 0 => obtain ⟨v, rfl, h⟩ := h0 j x hx; exact ⟨by simp only [den]; exact h, by simp [bd]⟩
  | 1 => obtain ⟨v, rfl, h⟩ := h1 j x hx; exact ⟨by simp only [den]; exact h, by simp [bd]⟩
  | 2 => obtain ⟨v, rfl, h⟩ := h2 j x hx; exact ⟨by simp only [den]; exact h, by simp [bd]⟩
  | k + 3 => cases hx
section
variable [FC]
def kn19v : Kn := knOr (kn1 18 (.bool true)) (knOr (knI 114 fun a => .bool (decide (a % 2 = 1))) (knOr (knI 117 fun a => .int .i64 (a / 2)) (knOr (knI 115 fun a => .int .i64 (a / 2)) (knI 118 fun a => .int .i64 (wrap64 (2 * a))))))
theorem kn19v_ok : KnOk Try.prog kn19v := knOr_ok (kn1_ok sane19) (knOr_ok (knI_ok locked_any) (knOr_ok (knI_ok ver_any) (knOr_ok (knI_ok who_any) (knI_ok free_any))))
/-- Whether reads are visible. -/
def kgNeeds : KnG := fun f args st => match Nat.beq f 16, args with
  | true, [xl, .v (.agg a)] => match (aggL (pvE xl)).bind lyOf2, a.toList with
    | some L, [.int .i64 s, .int .i64 k, .int .i64 A] => some ⟨.ret (.y (.bool (needsV L.c.m A))), st⟩
    | _, _ => none
  | _, _ => none
theorem kgNeeds_ok : KnGOk Try.prog kgNeeds := by
  intro f args st o h
  unfold kgNeeds at h
  split at h
  · rename_i xl a hf
    have := Nat.eq_of_beq_eq_true hf
    subst this
    split at h
    · rename_i L s k A hL ha
      simp only [Option.some.injEq] at h
      subst h
      refine ⟨Sfx.refl _, trivial, fun tr w0 F B S w hS R hargs => ?_⟩
      cases h1 : aggL (pvE xl) with
      | none => rw [h1] at hL; cases hL
      | some al =>
        rw [h1] at hL
        have ea : (denL B [xl, .v (.agg a)]).toArray = #[L.v, .agg #[.int .i64 s, .int .i64 k, .int .i64 A]] := by
          obtain ⟨l⟩ := a
          simp only at ha
          subst ha
          simp only [denL, aggL_den B h1, lyOf2_v (show lyOf2 al = some L from hL), den]
        rw [ea]
        refine (needs_any w L s k A).mono ?_
        rintro e w' ⟨rfl, hb⟩
        exact ⟨B, Ag.refl _ _ _, Nat.le_refl _, by rw [ext_self]; exact R.below hb, by simp [den], by simp [bd]⟩
    · cases h
  · cases h
noncomputable def kg19G : KnG := kgOr (gk kn19v) kgVis
theorem kg19G_ok : KnGOk Try.prog kg19G := kgOr_ok (gk_ok kn19v_ok) kgVis_ok
noncomputable def kg19N : KnG := kgOr (gk kn19v) kgNeeds
theorem kg19N_ok : KnGOk Try.prog kg19N := kgOr_ok (gk_ok kn19v_ok) kgNeeds_ok
end
def vI (x : Int) : Int := IntKind.i64.wrap x
def wI (x : Int) : Int := IntKind.i64.wrap (2 * IntKind.i64.wrap x)
def nw (ck : Int) : Int := IntKind.i64.wrap (256 + IntKind.i64.wrap ck)
def vr (x s : Int) : Int := IntKind.i64.wrap (IntKind.i64.wrap x + IntKind.i64.wrap (IntKind.u8.wrap (Int.tdiv (Int.tmod s 4) 3)))
def fr (a : Int) : Int := wrap64 (2 * a)
def mM (mg : Int) : Int := Int.tmod (IntKind.i64.wrap mg) 4
def kK (lc : Int) : Int := Int.tmod (IntKind.i64.wrap lc) 3
end Go.Proofs.Ytmjfnlangebhlaa
