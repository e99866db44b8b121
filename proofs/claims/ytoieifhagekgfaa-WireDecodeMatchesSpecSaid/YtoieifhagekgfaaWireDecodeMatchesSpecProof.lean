/- WireDecodeMatchesSpec: for every byte sequence, decoding a number, a string and a list from its beginning returns the results of the specification. No condition. -/
import Derived.Test.YtoieifhagekgfaaRows
import Derived.Test.YtoieifhagekgfaaWireA
import Derived.Test.YtoieifhagekgfaaWireB
import Derived.Test.YtoieifhagekgfaaWireC
import Derived.Test.YtoieifhagekgfaaWireD
import Derived.Test.YtoieifhagekgfaaWireG
import Derived.Test.YtoieifhagekgfaaWireH
import Derived.Test.YtoieifhagekgfaaWireJ
import Derived.Test.YtoieifhagekgfaaWireO
import Derived.Test.YtoieifhagekgfaaWireS
import Derived.WalkKit
import Derived.ProofKit
import Derived.OpenShut
import Derived.Lib.Hide
import Derived.Carry
namespace Go.Proofs.Ytoieifhagekgfaa.wireDecodeMatchesSpec
open Go.ChangeShapes Go.WideShapes Go.ChangeAt Go.RowKit
set_option linter.unusedVariables false

theorem decV_form (l : List Nat) : ∃ n k E : Int, decV l = .tuple #[.int .i64 n, .int .i64 k, .int .i64 E] := by
  unfold decV; split
  · exact ⟨_, _, _, rfl⟩
  · exact ⟨_, _, _, rfl⟩
theorem gtextV_form (l : List Nat) : ∃ (s : ByteArray) (k E : Int), gtextV l = .tuple #[.string s, .int .i64 k, .int .i64 E] := by
  unfold gtextV; split
  · exact ⟨_, _, _, rfl⟩
  · exact ⟨_, _, _, rfl⟩
theorem nums_form (l : List Nat) : ∃ (ns : List Int) (u E : Int), ∀ W e w', NumsV W l e w' → ∃ v, e = .returned (.tuple #[v, .int .i64 u, .int .i64 E]) ∧ HasInts w' v ns ∧ Below W.heap.size W w' := by
  cases h : decNums l with
  | none =>
    refine ⟨[], 0, 3, fun W e w' hn => ?_⟩
    unfold NumsV at hn
    rw [h] at hn
    exact ⟨_, hn.2, ⟨none, 0, rfl, by simp, Or.inl rfl⟩, hn.1⟩
  | some x =>
    obtain ⟨ns, u⟩ := x
    refine ⟨ns, (u : Int), 0, fun W e w' hn => ?_⟩
    unfold NumsV at hn
    rw [h] at hn
    obtain ⟨hb, v, he, hv⟩ := hn
    exact ⟨v, he, hv, hb⟩

set_option maxHeartbeats 4000000 in
set_option maxRecDepth 100000 in
theorem walk_big (w : World) (v : Value) (l : List Nat) (hv : HasB w v l) (hbig : 1000 < l.length) :
    Calls Try.prog 4 #[v] w fun e w' => e = .returned (.bool true) ∧ Below w.heap.size w w' := by
  obtain ⟨a, cap, rfl, _, _⟩ := hv
  have hb : decide ((1000 : Int) < l.length) = true := by simp; omega
  go_enter Try.func4, Try.ntmps4
  go_wp2_with fail
  refine (sane_any _).mono ?_
  rintro e w1 ⟨rfl, hb1⟩
  have HW := Lib.hid hb1
  clear hb1
  go_wp2
  go_ret
  exact ⟨rfl, HW.out⟩

set_option maxHeartbeats 8000000 in
set_option maxRecDepth 100000 in
theorem walk_small (w : World) (v : Value) (l : List Nat) (hv : HasB w v l) (hl : ∀ b ∈ l, b < 256) (hsm : l.length ≤ 1000) :
    Calls Try.prog 4 #[v] w fun e w' => e = .returned (.bool true) ∧ Below w.heap.size w w' := by
  have HV := Lib.hid hv
  have HL := Lib.hid hl
  have HM : Hid (l.length ≤ 1000000) := Lib.hid (by omega)
  obtain ⟨n, k, E, hD⟩ := decV_form l
  obtain ⟨S, k2, E2, hG⟩ := gtextV_form l
  obtain ⟨ns, k3, E3, hN⟩ := nums_form l
  have HD := Lib.hid hD
  have HG := Lib.hid hG
  have HN := Lib.hid hN
  obtain ⟨a, cap, rfl, _, _⟩ := hv
  have hb : decide ((1000 : Int) < l.length) = false := by simp; omega
  clear hl hD hG hN
  go_enter Try.func4, Try.ntmps4
  go_wp2_with fail
  refine (get_s l _ HL.out HD.out HV.out).mono ?_
  rintro e w1 ⟨rfl, hb1⟩
  have HW := Lib.hid hb1
  clear hb1
  go_wp2_with fail
  refine (rget_any _ l HL.out _ (hasB_keep HV.out HW.out)).mono ?_
  rintro e w2 ⟨rfl, hb2⟩
  rw [HD.out]
  replace HW := Lib.hid (HW.out.trans (hb2.mono HW.out.size))
  clear hb2
  go_wp2_with fail
  refine (gtext_s l _ HL.out HG.out (hasB_keep HV.out HW.out)).mono ?_
  rintro e w3 ⟨rfl, hb3⟩
  replace HW := Lib.hid (HW.out.trans (hb3.mono HW.out.size))
  clear hb3
  go_wp2_with fail
  refine (rgtext_any _ l HL.out _ (hasB_keep HV.out HW.out)).mono ?_
  rintro e w4 ⟨rfl, hb4⟩
  rw [HG.out]
  replace HW := Lib.hid (HW.out.trans (hb4.mono HW.out.size))
  clear hb4
  go_wp2_with fail
  refine (gnums_any _ l HL.out HM.out _ (hasB_keep HV.out HW.out)).mono ?_
  rintro e w5 h5
  obtain ⟨v5, rfl, h5, hb5⟩ := HN.out _ _ _ h5
  replace HW := Lib.hid (HW.out.trans (hb5.mono HW.out.size))
  have H5 := Lib.hid h5
  clear hb5 h5
  go_wp2_with fail
  refine (rgnums_any _ l HL.out HM.out _ (hasB_keep HV.out HW.out)).mono ?_
  rintro e w6 h6
  obtain ⟨v6, rfl, h6, hb6⟩ := HN.out _ _ _ h6
  replace HW := Lib.hid (HW.out.trans (hb6.mono HW.out.size))
  replace H5 := Lib.hid (hasInts_keep H5.out hb6)
  have H6 := Lib.hid h6
  clear hb6 h6
  go_wp2_with fail
  refine (sane_any _).mono ?_
  rintro e w7 ⟨rfl, hb7⟩
  replace HW := Lib.hid (HW.out.trans (hb7.mono HW.out.size))
  replace H5 := Lib.hid (hasInts_keep H5.out hb7)
  replace H6 := Lib.hid (hasInts_keep H6.out hb7)
  clear hb7
  go_wp2_with fail
  refine (ints_s ns ns true (by simp) H5.out H6.out).mono ?_
  rintro e w8 ⟨rfl, hb8⟩
  replace HW := Lib.hid (HW.out.trans (hb8.mono HW.out.size))
  clear hb8
  go_wp2
  go_ret
  exact ⟨rfl, HW.out⟩

theorem walk (w : World) (v : Value) (l : List Nat) (hv : HasB w v l) (hl : ∀ b ∈ l, b < 256) :
    Calls Try.prog 4 #[v] w fun e w' => e = .returned (.bool true) ∧ Below w.heap.size w w' := by
  by_cases h : 1000 < l.length
  · exact walk_big w v l hv h
  · exact walk_small w v l hv hl (by omega)

theorem own : ownKnob Try.prog.godebug = none := by kernel_rfl
theorem laidOut : laidOutB Try.prog = true := by kernel_rfl

set_option maxRecDepth 100000 in
theorem lifted (os : Os) (started : os.Started) (H : Type) (enc : TypeId × Value → H) :
    ReturnsInHanded {} Try.checked os 4 .any (Rows.wireDecodeMatchesSpecSpec.pre6 enc Try.prog Try.f4 Rows.wireDecodeMatchesSpecRow.domain false) (Rows.wireDecodeMatchesSpecSpec.post enc Try.prog Try.f4 false true false false) := by
  refine returnsInHanded_of_change (C := Try.checked) own started (by kernel_rfl) Try.func4
    (ChangeSpec.witness6 (enc := enc) (C := Try.checked) false ⟨#[], #[.slice none 0 0], []⟩ 8 (by kernel_rfl) (by kernel_rfl) (by kernel_rfl) (by kernel_rfl)) ?_
  intro W base args ds gs before hval0 hW hcnd _
  have hval : ∀ (j : Nat) t v, Try.f4.params[j]? = some t → args[j]? = some v → Value.okWide Try.prog W .any base t v := hval0
  have hW' := hW
  obtain ⟨p, q, hA0, hV, rfl, hfz, hnd⟩ := hW
  have hA : DataW.TrodAll enc Try.prog W 0 (fun _ => true) true Try.f4.params.toList args.toList ds p := hA0
  rw [Try.params4] at hA hval
  obtain ⟨v0, vs0, d0, ds0, p0, q0, hargs, rfl, rfl, h0, r0⟩ := trodAll_cons hA
  obtain ⟨rfl, rfl, rfl⟩ := trodAll_nil r0
  obtain rfl : args = #[v0] := by cases args; simp_all
  obtain ⟨rfl, rfl⟩ := trodVars_none hV
  clear hA0 hval0
  simp only [List.append_nil] at hW'
  have lt0 : ∀ x ∈ p0, x.block < W.heap.size := fun x hx => hW'.lt x (by simp [hx])
  have back0 : ∀ W', Below W.heap.size W W' → DataW.Trod enc Try.prog W' 0 (fun b => decide (b < W.heap.size)) true 24 v0 d0 p0 := fun W' hb => Below.trod laidOut (by kernel_rfl) (of_decide_eq_true (by kernel_rfl)) h0 hb lt0
  obtain ⟨l0, k0, b0⟩ := open_bytesArg (hval 0 24 v0 rfl rfl) h0
  refine (walk W v0 l0 k0 b0).mono fun e W' ⟨he, hg⟩ => ?_
  subst he
  exact ⟨_, rfl, _, _, _, [], _, [], hW', (trodAll_cons_mk (shut_bool Try.underlying4 _) trodAll_mk0), (trodAll_cons_mk (back0 _ hg) trodAll_mk0), rfl, hg.frame _, fun h => by cases h⟩

theorem over : Rows.wireDecodeMatchesSpecRow.holds Try.pinned (OpenSpec.ofChange Rows.wireDecodeMatchesSpecSpec) :=
  OpenClaim.holds_of_wide 4 Try.f4 rfl rfl rfl rfl rfl rfl rfl ⟨rfl, rfl, rfl, rfl, rfl⟩ rfl rfl rfl rfl rfl (by kernel_rfl) Try.func4 (by kernel_rfl)
    (of_decide_eq_true (by kernel_rfl)) (by unfold Func.isWrapper; first | (rw [if_pos (by decide +kernel)]; kernel_rfl) | (rw [if_neg (by decide +kernel)]; exact ⟨rfl, rfl⟩))
    (fun os started H enc _ => lifted os started H enc)

/-- The given statement. -/
theorem proved : Rows.WireDecodeMatchesSpecSaid :=
  over
#print axioms proved
end Go.Proofs.Ytoieifhagekgfaa.wireDecodeMatchesSpec
