/- DurableSurvivesCrash: for every row of bytes, every stop and every row of cuts, a crash while records are written and synced leaves what Boot restores as the statement says: all synced records, and of the next one all or nothing. No condition. -/
import Derived.Test.YtfhmdlihnidjoaaRows
import Derived.Test.YtfhmdlihnidjoaaPf1
import Derived.Test.YtfhmdlihnidjoaaPf14
import Derived.Test.YtfhmdlihnidjoaaPf13
import Derived.Test.YtfhmdlihnidjoaaPf23
import Derived.WalkKit
import Derived.ProofKit
import Derived.OpenShut
import Derived.Lib.Hide
import Derived.Carry
namespace Go.Proofs.Ytfhmdlihnidjoaa.durableSurvivesCrash
open Go.ChangeShapes Go.WideShapes Go.ChangeAt Go.RowKit
set_option linter.unusedVariables false

theorem walk (w : World) (v : Value) (l : List Nat) (hv : Qeu w v l) (h256 : ∀ b ∈ l, b < 256) (m : Int) (hm : (Lit.int .u8 m).wf = true) (v2 : Value) (cs : List Int) (hv2 : HasIn w v2 cs) : Calls Try.prog 4 #[v, .int .u8 m, v2] w fun e w' => e = .returned (.bool true) ∧ Below w.heap.size w w' := by
  have hm2 := QiE hm
  obtain ⟨b, rfl⟩ := Int.eq_ofNat_of_zero_le hm2.1
  have hb : b < 256 := by omega
  obtain ⟨a, cap, rfl, _, h⟩ := hv
  obtain ⟨a2, cap2, rfl, h2⟩ := hv2
  obtain ⟨g, o, h1, h1'⟩ : ∃ g o, (l.length = 0 ∨ a = some ⟨g, o, none⟩) ∧ ByAt w g o l := by
    rcases h with h | ⟨g, o, rfl, h⟩
    · exact ⟨0, 0, Or.inl h, fun j hj => by omega⟩
    · exact ⟨g, o, Or.inr rfl, h⟩
  obtain ⟨b2, o2, h3, h3'⟩ : ∃ b o, (cs.length = 0 ∨ a2 = some ⟨b, o, none⟩) ∧ Qbm w b o cs := by
    rcases h2 with h | ⟨b, o, rfl, h⟩
    · exact ⟨0, 0, Or.inl h, fun j hj => by omega⟩
    · exact ⟨b, o, Or.inr rfl, h⟩
  exact sq_all w l a cap g o h1 h256 b hb h1' cs a2 cap2 b2 o2 h3 h3'

theorem own : ownKnob Try.prog.godebug = none := by kernel_rfl
theorem laidOut : laidOutB Try.prog = true := by kernel_rfl

set_option maxRecDepth 100000 in
theorem lifted (os : Os) (started : os.Started) (H : Type) (enc : TypeId × Value → H) :
    ReturnsInHanded {} Try.checked os 4 .any (Rows.durableSurvivesCrashSpec.pre6 enc Try.prog Try.f4 Rows.durableSurvivesCrashRow.domain false) (Rows.durableSurvivesCrashSpec.post enc Try.prog Try.f4 false true false false) := by
  refine returnsInHanded_of_change (C := Try.checked) own started (by kernel_rfl) Try.func4
    (ChangeSpec.witness6 (enc := enc) (C := Try.checked) false ⟨#[], #[.slice none 0 0, .int .u8 0, .slice none 0 0], []⟩ 8 (by kernel_rfl) (by kernel_rfl) (by kernel_rfl) (by kernel_rfl)) ?_
  intro W base args ds gs before hval0 hW hcnd _
  have hval : ∀ (j : Nat) t v, Try.f4.params[j]? = some t → args[j]? = some v → Value.okWide Try.prog W .any base t v := hval0
  have hW' := hW
  obtain ⟨p, q, hA0, hV, rfl, hfz, hnd⟩ := hW
  have hA : DataW.TrodAll enc Try.prog W 0 (fun _ => true) true Try.f4.params.toList args.toList ds p := hA0
  rw [Try.params4] at hA hval
  obtain ⟨v0, vs0, d0, ds0, p0, q0, hargs, rfl, rfl, h0, r0⟩ := trodAll_cons hA
  obtain ⟨v1, vs1, d1, ds1, p1, q1, rfl, rfl, rfl, h1, r1⟩ := trodAll_cons r0
  obtain ⟨v2, vs2, d2, ds2, p2, q2, rfl, rfl, rfl, h2, r2⟩ := trodAll_cons r1
  obtain ⟨rfl, rfl, rfl⟩ := trodAll_nil r2
  obtain rfl : args = #[v0, v1, v2] := by cases args; simp_all
  obtain ⟨rfl, rfl⟩ := trodVars_none hV
  clear hA0 hval0
  simp only [List.append_nil] at hW'
  have lt0 : ∀ x ∈ p0, x.block < W.heap.size := fun x hx => hW'.lt x (by simp [hx])
  have lt1 : ∀ x ∈ p1, x.block < W.heap.size := fun x hx => hW'.lt x (by simp [hx])
  have lt2 : ∀ x ∈ p2, x.block < W.heap.size := fun x hx => hW'.lt x (by simp [hx])
  have back0 : ∀ W', Below W.heap.size W W' → DataW.Trod enc Try.prog W' 0 (fun b => decide (b < W.heap.size)) true 48 v0 d0 p0 := fun W' hb => Below.trod laidOut (by kernel_rfl) (of_decide_eq_true (by kernel_rfl)) h0 hb lt0
  have back1 : ∀ W', Below W.heap.size W W' → DataW.Trod enc Try.prog W' 0 (fun b => decide (b < W.heap.size)) true 5 v1 d1 p1 := fun W' hb => Below.trod laidOut (by kernel_rfl) (of_decide_eq_true (by kernel_rfl)) h1 hb lt1
  have back2 : ∀ W', Below W.heap.size W W' → DataW.Trod enc Try.prog W' 0 (fun b => decide (b < W.heap.size)) true 26 v2 d2 p2 := fun W' hb => Below.trod laidOut (by kernel_rfl) (of_decide_eq_true (by kernel_rfl)) h2 hb lt2
  obtain ⟨l0, k0, b0⟩ := open_bys (hval 0 48 v0 rfl rfl) h0
  obtain ⟨a1, rfl, rfl, rfl, w1⟩ := open_int Try.underlying5 (hval 1 5 v1 rfl rfl) h1
  obtain ⟨z2, k2⟩ := Qg5 (hval 2 26 v2 rfl rfl) h2
  refine (walk W v0 l0 k0 b0 a1 w1 v2 z2 k2).mono fun e W' ⟨he, hg⟩ => ?_
  subst he
  exact ⟨_, rfl, _, _, _, [], _, [], hW', (trodAll_cons_mk (shut_bool Try.underlying4 _) trodAll_mk0), (trodAll_cons_mk (back0 _ hg) (trodAll_cons_mk (back1 _ hg) (trodAll_cons_mk (back2 _ hg) trodAll_mk0))), rfl, hg.frame _, fun h => by cases h⟩

theorem over : Rows.durableSurvivesCrashRow.holds Try.pinned (OpenSpec.ofChange Rows.durableSurvivesCrashSpec) :=
  OpenClaim.holds_of_wide 4 Try.f4 rfl rfl rfl rfl rfl rfl rfl ⟨rfl, rfl, rfl, rfl, rfl⟩ rfl rfl rfl rfl rfl (by kernel_rfl) Try.func4 (by kernel_rfl)
    (of_decide_eq_true (by kernel_rfl)) (by unfold Func.isWrapper; first | (rw [if_pos (by decide +kernel)]; kernel_rfl) | (rw [if_neg (by decide +kernel)]; exact ⟨rfl, rfl⟩))
    (fun os started H enc _ => lifted os started H enc)

/-- The given statement. -/
theorem proved : Rows.DurableSurvivesCrashSaid :=
  over
#print axioms proved
end Go.Proofs.Ytfhmdlihnidjoaa.durableSurvivesCrash
