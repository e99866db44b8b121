/- WireSealMatchesSpec: for every byte sequence, its checksum, its seal, and the result of opening it are those of the specification. No condition. -/
import Derived.Test.YtoieifhagekgfaaRows
import Derived.Test.YtoieifhagekgfaaWireA
import Derived.Test.YtoieifhagekgfaaWireB
import Derived.Test.YtoieifhagekgfaaWireC
import Derived.Test.YtoieifhagekgfaaWireD
import Derived.Test.YtoieifhagekgfaaWireF
import Derived.Test.YtoieifhagekgfaaWireK
import Derived.Test.YtoieifhagekgfaaWireL
import Derived.Test.YtoieifhagekgfaaWireO
import Derived.Test.YtoieifhagekgfaaWireS
import Derived.WalkKit
import Derived.ProofKit
import Derived.OpenShut
import Derived.Lib.Hide
import Derived.Carry
namespace Go.Proofs.Ytoieifhagekgfaa.wireSealMatchesSpec
open Go.ChangeShapes Go.WideShapes Go.ChangeAt Go.RowKit
set_option linter.unusedVariables false

theorem open_form (l : List Nat) : ∃ (p : List Nat) (u E : Int), ∀ W e w', OpenV W l e w' → ∃ v, e = .returned (.tuple #[v, .int .i64 u, .int .i64 E]) ∧ HasB w' v p ∧ Below W.heap.size W w' := by
  cases h : openB l with
  | none =>
    refine ⟨[], 0, 3, fun W e w' hn => ?_⟩
    unfold OpenV at hn
    rw [h] at hn
    exact ⟨_, hn.2, ⟨none, 0, rfl, ⟨by simp, by simp, by simp, fun _ => rfl⟩, Or.inl rfl⟩, hn.1⟩
  | some x =>
    obtain ⟨p, u⟩ := x
    refine ⟨p, (u : Int), 0, fun W e w' hn => ?_⟩
    unfold OpenV at hn
    rw [h] at hn
    obtain ⟨hb, v, he, hv⟩ := hn
    exact ⟨v, he, hv, hb⟩

set_option maxHeartbeats 4000000 in
set_option maxRecDepth 100000 in
theorem walk_big (w : World) (v : Value) (l : List Nat) (hv : HasB w v l) (hbig : 1000 < l.length) :
    Calls Try.prog 11 #[v] w fun e w' => e = .returned (.bool true) ∧ Below w.heap.size w w' := by
  obtain ⟨a, cap, rfl, _, _⟩ := hv
  have hb : decide ((1000 : Int) < l.length) = true := by simp; omega
  go_enter Try.func11, Try.ntmps11
  go_wp2_with fail
  refine (sane_any _).mono ?_
  rintro e w1 ⟨rfl, hb1⟩
  have HW := Lib.hid hb1
  clear hb1
  go_wp2
  go_ret
  exact ⟨rfl, HW.out⟩

set_option maxHeartbeats 8000000 in
set_option maxRecDepth 100000 in
theorem walk_small (w : World) (v : Value) (l : List Nat) (hv : HasB w v l) (hl : ∀ b ∈ l, b < 256) (hsm : l.length ≤ 1000) :
    Calls Try.prog 11 #[v] w fun e w' => e = .returned (.bool true) ∧ Below w.heap.size w w' := by
  have HV := Lib.hid hv
  have HL := Lib.hid hl
  have HM : Hid (l.length ≤ 1000000) := Lib.hid (by omega)
  obtain ⟨p, u, E, hO⟩ := open_form l
  have HO := Lib.hid hO
  obtain ⟨A, hA⟩ : ∃ A : Int, A = (adler l : Int) := ⟨_, rfl⟩
  have HA := Lib.hid hA.symm
  obtain ⟨a, cap, rfl, _, _⟩ := hv
  have hb : decide ((1000 : Int) < l.length) = false := by simp; omega
  clear hl hO hA
  go_enter Try.func11, Try.ntmps11
  go_wp2_with fail
  refine (open_any _ l HL.out HM.out _ HV.out).mono ?_
  rintro e w1 h1
  obtain ⟨v1, rfl, h1, hb1⟩ := HO.out _ _ _ h1
  have HW := Lib.hid hb1
  have H1 := Lib.hid h1
  clear hb1 h1
  go_wp2_with fail
  refine (ropen_any _ l HL.out HM.out _ (hasB_keep HV.out HW.out)).mono ?_
  rintro e w2 h2
  obtain ⟨v2, rfl, h2, hb2⟩ := HO.out _ _ _ h2
  replace HW := Lib.hid (HW.out.trans (hb2.mono HW.out.size))
  replace H1 := Lib.hid (hasB_keep H1.out hb2)
  have H2 := Lib.hid h2
  clear hb2 h2
  go_wp2_with fail
  refine (sane_any _).mono ?_
  rintro e w3 ⟨rfl, hb3⟩
  replace HW := Lib.hid (HW.out.trans (hb3.mono HW.out.size))
  replace H1 := Lib.hid (hasB_keep H1.out hb3)
  replace H2 := Lib.hid (hasB_keep H2.out hb3)
  clear hb3
  go_wp2_with fail
  refine (sum_any _ l HL.out _ (hasB_keep HV.out HW.out)).mono ?_
  rintro e w4 ⟨rfl, rfl⟩
  rw [HA.out]
  go_wp2_with fail
  refine (rsum_any _ l HL.out _ (hasB_keep HV.out HW.out)).mono ?_
  rintro e w4 ⟨rfl, rfl⟩
  rw [HA.out]
  go_wp2_with fail
  refine (seal_any _ l HL.out HM.out _ (hasB_keep HV.out HW.out)).mono ?_
  rintro e w5 ⟨v5, rfl, h5, hb5⟩
  replace HW := Lib.hid (HW.out.trans (hb5.mono HW.out.size))
  replace H1 := Lib.hid (hasB_keep H1.out hb5)
  replace H2 := Lib.hid (hasB_keep H2.out hb5)
  have H5 := Lib.hid (hasB_of_owns h5)
  clear hb5 h5
  go_wp2_with fail
  refine (rseal_any _ l HL.out HM.out _ (hasB_keep HV.out HW.out)).mono ?_
  rintro e w6 ⟨v6, rfl, h6, hb6⟩
  replace HW := Lib.hid (HW.out.trans (hb6.mono HW.out.size))
  replace H1 := Lib.hid (hasB_keep H1.out hb6)
  replace H2 := Lib.hid (hasB_keep H2.out hb6)
  replace H5 := Lib.hid (hasB_keep H5.out hb6)
  have H6 := Lib.hid (hasB_of_owns h6)
  clear hb6 h6
  go_wp2_with fail
  refine (same_s (sealB l) (sealB l) true (by simp) H5.out H6.out).mono ?_
  rintro e w7 ⟨rfl, hb7⟩
  replace HW := Lib.hid (HW.out.trans (hb7.mono HW.out.size))
  replace H1 := Lib.hid (hasB_keep H1.out hb7)
  replace H2 := Lib.hid (hasB_keep H2.out hb7)
  clear hb7
  go_wp2_with fail
  refine (same_s p p true (by simp) H1.out H2.out).mono ?_
  rintro e w8 ⟨rfl, hb8⟩
  replace HW := Lib.hid (HW.out.trans (hb8.mono HW.out.size))
  clear hb8
  go_wp2
  go_ret
  exact ⟨rfl, HW.out⟩

theorem walk (w : World) (v : Value) (l : List Nat) (hv : HasB w v l) (hl : ∀ b ∈ l, b < 256) :
    Calls Try.prog 11 #[v] w fun e w' => e = .returned (.bool true) ∧ Below w.heap.size w w' := by
  by_cases h : 1000 < l.length
  · exact walk_big w v l hv h
  · exact walk_small w v l hv hl (by omega)

theorem own : ownKnob Try.prog.godebug = none := by kernel_rfl
theorem laidOut : laidOutB Try.prog = true := by kernel_rfl

set_option maxRecDepth 100000 in
theorem lifted (os : Os) (started : os.Started) (H : Type) (enc : TypeId × Value → H) :
    ReturnsInHanded {} Try.checked os 11 .any (Rows.wireSealMatchesSpecSpec.pre6 enc Try.prog Try.f11 Rows.wireSealMatchesSpecRow.domain false) (Rows.wireSealMatchesSpecSpec.post enc Try.prog Try.f11 false true false false) := by
  refine returnsInHanded_of_change (C := Try.checked) own started (by kernel_rfl) Try.func11
    (ChangeSpec.witness6 (enc := enc) (C := Try.checked) false ⟨#[], #[.slice none 0 0], []⟩ 8 (by kernel_rfl) (by kernel_rfl) (by kernel_rfl) (by kernel_rfl)) ?_
  intro W base args ds gs before hval0 hW hcnd _
  have hval : ∀ (j : Nat) t v, Try.f11.params[j]? = some t → args[j]? = some v → Value.okWide Try.prog W .any base t v := hval0
  have hW' := hW
  obtain ⟨p, q, hA0, hV, rfl, hfz, hnd⟩ := hW
  have hA : DataW.TrodAll enc Try.prog W 0 (fun _ => true) true Try.f11.params.toList args.toList ds p := hA0
  rw [Try.params11] at hA hval
  obtain ⟨v0, vs0, d0, ds0, p0, q0, hargs, rfl, rfl, h0, r0⟩ := trodAll_cons hA
  obtain ⟨rfl, rfl, rfl⟩ := trodAll_nil r0
  obtain rfl : args = #[v0] := by cases args; simp_all
  obtain ⟨rfl, rfl⟩ := trodVars_none hV
  clear hA0 hval0
  simp only [List.append_nil] at hW'
  have lt0 : ∀ x ∈ p0, x.block < W.heap.size := fun x hx => hW'.lt x (by simp [hx])
  have back0 : ∀ W', Below W.heap.size W W' → DataW.Trod enc Try.prog W' 0 (fun b => decide (b < W.heap.size)) true 24 v0 d0 p0 := fun W' hb => Below.trod laidOut (by kernel_rfl) (of_decide_eq_true (by kernel_rfl)) h0 hb lt0
  obtain ⟨l0, k0, b0⟩ := open_bytesArg (hval 0 24 v0 rfl rfl) h0
  refine (walk W v0 l0 k0 b0).mono fun e W' ⟨he, hg⟩ => ?_
  subst he
  exact ⟨_, rfl, _, _, _, [], _, [], hW', (trodAll_cons_mk (shut_bool Try.underlying4 _) trodAll_mk0), (trodAll_cons_mk (back0 _ hg) trodAll_mk0), rfl, hg.frame _, fun h => by cases h⟩

theorem over : Rows.wireSealMatchesSpecRow.holds Try.pinned (OpenSpec.ofChange Rows.wireSealMatchesSpecSpec) :=
  OpenClaim.holds_of_wide 11 Try.f11 rfl rfl rfl rfl rfl rfl rfl ⟨rfl, rfl, rfl, rfl, rfl⟩ rfl rfl rfl rfl rfl (by kernel_rfl) Try.func11 (by kernel_rfl)
    (of_decide_eq_true (by kernel_rfl)) (by unfold Func.isWrapper; first | (rw [if_pos (by decide +kernel)]; kernel_rfl) | (rw [if_neg (by decide +kernel)]; exact ⟨rfl, rfl⟩))
    (fun os started H enc _ => lifted os started H enc)

/-- The given statement. -/
theorem proved : Rows.WireSealMatchesSpecSaid :=
  over
#print axioms proved
end Go.Proofs.Ytoieifhagekgfaa.wireSealMatchesSpec
