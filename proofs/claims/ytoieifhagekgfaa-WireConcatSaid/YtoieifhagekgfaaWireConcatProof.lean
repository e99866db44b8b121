/- WireConcat: two lists that were encoded one after the other are decoded one after the other. No condition. -/
import Derived.Test.YtoieifhagekgfaaRows
import Derived.Test.YtoieifhagekgfaaWireA
import Derived.Test.YtoieifhagekgfaaWireB
import Derived.Test.YtoieifhagekgfaaWireC
import Derived.Test.YtoieifhagekgfaaWireF
import Derived.Test.YtoieifhagekgfaaWireH
import Derived.Test.YtoieifhagekgfaaWireI
import Derived.Test.YtoieifhagekgfaaWireO
import Derived.Test.YtoieifhagekgfaaWireQ
import Derived.Test.YtoieifhagekgfaaWireS
import Derived.WalkKit
import Derived.ProofKit
import Derived.OpenShut
import Derived.Lib.Hide
import Derived.Carry
namespace Go.Proofs.Ytoieifhagekgfaa.wireConcat
open Go.ChangeShapes Go.WideShapes Go.ChangeAt Go.RowKit
set_option linter.unusedVariables false

theorem numsB_dec (l : List Int) (hl : ∀ n ∈ l, I64 n) (hlen : l.length ≤ 1000) (r : List Nat) : decNums (numsB l ++ r) = some (l, (numsB l).length) := by
  have h1 := dec_enc (n := (l.length : Int)) (by unfold I64; omega) (encs l ++ r)
  unfold decNums numsB
  rw [List.append_assoc, h1]
  simp only
  rw [if_neg (by omega), List.drop_left, Int.toNat_natCast, decMany_encs l hl r, List.length_append]
set_option maxHeartbeats 4000000 in
set_option maxRecDepth 100000 in
theorem walk_big (w : World) (v : Value) (l : List Int) (hv : HasInts w v l) (u : Value) (m : List Int) (hu : HasInts w u m) (hll : l.length + m.length ≤ 4611686018427387903) (hbig : 300 < l.length + m.length) :
    Calls Try.prog 10 #[v, u] w fun e w' => e = .returned (.bool true) ∧ Below w.heap.size w w' := by
  obtain ⟨a, cap, rfl, _, _⟩ := hv
  obtain ⟨a', cap', rfl, _, _⟩ := hu
  have hb : decide ((300 : Int) < (l.length : Int) + m.length) = true := by simp; omega
  have q1 : 0 ≤ (l.length : Int) + m.length := by omega
  have q2 : (l.length : Int) + m.length ≤ 9223372036854775807 := by omega
  go_enter Try.func10, Try.ntmps10
  go_wp2_with fail
  refine (sane_any _).mono ?_
  rintro e w1 ⟨rfl, hb1⟩
  have HW := Lib.hid hb1
  clear hb1
  go_wp2
  go_ret
  exact ⟨rfl, HW.out⟩

set_option maxHeartbeats 4000000 in
set_option maxRecDepth 100000 in
theorem walk_small (w : World) (v : Value) (l : List Int) (hv : HasInts w v l) (hl : ∀ n ∈ l, I64 n) (u : Value) (m : List Int) (hu : HasInts w u m) (hm : ∀ n ∈ m, I64 n) (hsm : l.length + m.length ≤ 300) :
    Calls Try.prog 10 #[v, u] w fun e w' => e = .returned (.bool true) ∧ Below w.heap.size w w' := by
  obtain ⟨i0, hi, hz0, hz1, hz2⟩ := info_parts info_u8
  have HV := Lib.hid hv
  have HU := Lib.hid hu
  have HL := Lib.hid hl
  have HM := Lib.hid hm
  obtain ⟨a, cap, rfl, _, _⟩ := hv
  obtain ⟨a', cap', rfl, _, _⟩ := hu
  have hb : decide ((300 : Int) < (l.length : Int) + m.length) = false := by simp; omega
  have q1 : (l.length : Int) + m.length ≤ 300 := by omega
  obtain ⟨P, hP⟩ : ∃ P, P = (numsB l).length := ⟨_, rfl⟩
  obtain ⟨R, hR⟩ : ∃ R, R = (numsB m).length := ⟨_, rfl⟩
  have p1 : P ≤ 3010 := by have := numsB_len l hl (by omega); omega
  have p2 : R ≤ 3010 := by have := numsB_len m hm (by omega); omega
  have p3 : 0 < R := by rw [hR]; exact numsB_pos m
  have HP := Lib.hid hP
  have HR := Lib.hid hR
  clear hP hR hl hm
  go_enter Try.func10, Try.ntmps10
  go_wp2_with fail
  refine (nums_any _ l HL.out (by omega) _ HV.out).mono ?_
  rintro e w1 ⟨v1, rfl, h1, hb1⟩
  have HW := Lib.hid hb1
  have H1 := Lib.hid h1
  clear h1 hb1
  go_wp2_with fail
  refine (nums_any _ m HM.out (by omega) _ (hasInts_keep HU.out HW.out)).mono ?_
  rintro e w2 ⟨v2, rfl, h2, hb2⟩
  replace HW := Lib.hid (HW.out.trans (hb2.mono HW.out.size))
  replace H1 := Lib.hid (own_below H1.out hb2)
  obtain ⟨g, c, rfl, hcells⟩ := own_addr h2 (by rw [← HR.out]; omega)
  have HC := Lib.hid hcells
  clear h2 hb2 hcells
  go_wp2_with (first
    | (at_builtin; refine wpList_append_own _ rfl _ _ 24 rfl w.heap.size 5 i0 (.int .u8 0) 1 1 Try.underlying24 hi hz0 hz1 hz2 rfl (by decide) _ _ _ rfl H1.out ⟨g, 0, none⟩ _ c _ rfl (by rw [List.length_map, Nat.mul_one]) HC.out (bV_one _) (by rw [← HP.out, ← HR.out]; unfold maxLen; omega) (by rw [← HP.out, ← HR.out]; omega) HW.out.size ?_; intro v3 w3 hown hgrow _)
    | fail)
  have h3 : OwnB w3 w.heap.size v3 (numsB l ++ numsB m) := own_join rfl hown
  have HB : Hid (∀ b ∈ numsB l ++ numsB m, b < 256) := Lib.hid (fun b hb => by
    rcases List.mem_append.1 hb with h | h
    · exact numsB_byte l b h
    · exact numsB_byte m b h)
  have HT : Hid ((numsB l ++ numsB m).length = P + R) := Lib.hid (by rw [List.length_append, ← HP.out, ← HR.out])
  replace HW := Lib.hid (HW.out.grown hgrow HW.out.size (fun j hj => (World.ownsRow.lt H1.out j hj).1))
  have h3' := hasB_of_owns h3
  have H3 := Lib.hid h3'
  obtain ⟨a3, c3, rfl, hc3, _⟩ := h3'
  rw [HT.out] at H3 hc3 ⊢
  obtain ⟨_, hc3, _⟩ := hc3
  clear h3 hown hgrow
  refine (gnums_s (numsB l ++ numsB m) l (P : Int) HB.out (by rw [HT.out]; omega) (by rw [numsB_dec l HL.out (by omega), Int.toNat_natCast, HP.out]) (by simp) H3.out).mono ?_
  rintro e w4 ⟨r4, rfl, h4, hb4⟩
  replace HW := Lib.hid (HW.out.trans (hb4.mono HW.out.size))
  replace H3 := Lib.hid (hasB_keep H3.out hb4)
  have H4 := Lib.hid h4
  have HX : Hid (HasB w4 (.slice (if c3 = P then a3 else a3.map (·.add P)) (P + R - P) (c3 - P)) (numsB m)) := Lib.hid (by
    have h := hasB_drop H3.out (j := P) (by omega)
    have e : (numsB l ++ numsB m).drop P = numsB m := by rw [HP.out]; exact List.drop_left
    rw [e] at h
    exact h)
  rw [if_neg (by omega), Nat.add_sub_cancel_left] at HX
  have hne : ¬ c3 = P := by omega
  have q5 : (P : Int) ≤ P + R := by omega
  have q6 : (P : Int) + R ≤ c3 := by omega
  clear h4 hb4
  go_wp2_with fail
  refine (gnums_s (numsB m) m (R : Int) (numsB_byte m) (by rw [← HR.out]; omega) (by have := numsB_dec m HM.out (by omega) []; rw [List.append_nil] at this; rw [this, Int.toNat_natCast, HR.out]) (by simp) HX.out).mono ?_
  rintro e w5 ⟨r5, rfl, h5, hb5⟩
  replace HW := Lib.hid (HW.out.trans (hb5.mono HW.out.size))
  replace H4 := Lib.hid (hasInts_keep H4.out hb5)
  have H5 := Lib.hid h5
  clear h5 hb5
  go_wp2_with fail
  refine (sane_any _).mono ?_
  rintro e w6 ⟨rfl, hb6⟩
  replace HW := Lib.hid (HW.out.trans (hb6.mono HW.out.size))
  replace H4 := Lib.hid (hasInts_keep H4.out hb6)
  replace H5 := Lib.hid (hasInts_keep H5.out hb6)
  clear hb6
  go_wp2_with fail
  refine (ints_s l l true (by simp) H4.out (hasInts_keep HV.out HW.out)).mono ?_
  rintro e w7 ⟨rfl, hb7⟩
  replace HW := Lib.hid (HW.out.trans (hb7.mono HW.out.size))
  replace H5 := Lib.hid (hasInts_keep H5.out hb7)
  clear hb7
  go_wp2_with fail
  refine (ints_s m m true (by simp) H5.out (hasInts_keep HU.out HW.out)).mono ?_
  rintro e w8 ⟨rfl, hb8⟩
  replace HW := Lib.hid (HW.out.trans (hb8.mono HW.out.size))
  clear hb8
  go_wp2
  go_ret
  exact ⟨rfl, HW.out⟩

theorem walk (w : World) (v : Value) (l : List Int) (hv : HasInts w v l) (hl : ∀ n ∈ l, I64 n) (xl : l.length ≤ 17592186044416) (u : Value) (m : List Int) (hu : HasInts w u m) (hm : ∀ n ∈ m, I64 n) (xm : m.length ≤ 17592186044416) :
    Calls Try.prog 10 #[v, u] w fun e w' => e = .returned (.bool true) ∧ Below w.heap.size w w' := by
  by_cases h : 300 < l.length + m.length
  · exact walk_big w v l hv u m hu (by omega) h
  · exact walk_small w v l hv hl u m hu hm (by omega)

theorem own : ownKnob Try.prog.godebug = none := by kernel_rfl
theorem laidOut : laidOutB Try.prog = true := by kernel_rfl

set_option maxRecDepth 100000 in
theorem lifted (os : Os) (started : os.Started) (H : Type) (enc : TypeId × Value → H) :
    ReturnsInHanded {} Try.checked os 10 .any (Rows.wireConcatSpec.pre6 enc Try.prog Try.f10 Rows.wireConcatRow.domain false) (Rows.wireConcatSpec.post enc Try.prog Try.f10 false true false false) := by
  refine returnsInHanded_of_change_sized (C := Try.checked) own started (by kernel_rfl) Try.func10
    (ChangeSpec.witness6 (enc := enc) (C := Try.checked) false ⟨#[], #[.slice none 0 0, .slice none 0 0], []⟩ 8 (by kernel_rfl) (by kernel_rfl) (by kernel_rfl) (by kernel_rfl)) ?_
  intro W base args ds gs before hval0 hW hcnd hsz0 _
  have hsz : (DataW.weightsEach Try.prog (Try.f10.params.toList ++ Rows.wireConcatSpec.plain.varTypes Try.prog) (ds ++ gs)).all (· ≤ reachBytes) = true := hsz0
  have hval : ∀ (j : Nat) t v, Try.f10.params[j]? = some t → args[j]? = some v → Value.okWide Try.prog W .any base t v := hval0
  have hW' := hW
  obtain ⟨p, q, hA0, hV, rfl, hfz, hnd⟩ := hW
  have hA : DataW.TrodAll enc Try.prog W 0 (fun _ => true) true Try.f10.params.toList args.toList ds p := hA0
  rw [Try.params10] at hA hval hsz
  obtain ⟨v0, vs0, d0, ds0, p0, q0, hargs, rfl, rfl, h0, r0⟩ := trodAll_cons hA
  obtain ⟨v1, vs1, d1, ds1, p1, q1, rfl, rfl, rfl, h1, r1⟩ := trodAll_cons r0
  obtain ⟨rfl, rfl, rfl⟩ := trodAll_nil r1
  obtain rfl : args = #[v0, v1] := by cases args; simp_all
  obtain ⟨rfl, rfl⟩ := trodVars_none hV
  clear hA0 hval0
  simp only [List.append_nil] at hW'
  have lt0 : ∀ x ∈ p0, x.block < W.heap.size := fun x hx => hW'.lt x (by simp [hx])
  have lt1 : ∀ x ∈ p1, x.block < W.heap.size := fun x hx => hW'.lt x (by simp [hx])
  have back0 : ∀ W', Below W.heap.size W W' → DataW.Trod enc Try.prog W' 0 (fun b => decide (b < W.heap.size)) true 32 v0 d0 p0 := fun W' hb => Below.trod laidOut (by kernel_rfl) (of_decide_eq_true (by kernel_rfl)) h0 hb lt0
  have back1 : ∀ W', Below W.heap.size W W' → DataW.Trod enc Try.prog W' 0 (fun b => decide (b < W.heap.size)) true 32 v1 d1 p1 := fun W' hb => Below.trod laidOut (by kernel_rfl) (of_decide_eq_true (by kernel_rfl)) h1 hb lt1
  obtain ⟨z0, k0, b0, y0⟩ := open_ints64s (hval 0 32 v0 rfl rfl) h0
  have x0 : z0.length ≤ 17592186044416 := by
    rcases y0 with hq | ⟨e, s, rfl, hq⟩
    · omega
    · have := sized_slice hsz (j := 0) (t := 32) (e := 3) rfl rfl Try.underlying32
      rw [bytes_int] at this; simp only [reachBytes] at this; omega
  obtain ⟨z1, k1, b1, y1⟩ := open_ints64s (hval 1 32 v1 rfl rfl) h1
  have x1 : z1.length ≤ 17592186044416 := by
    rcases y1 with hq | ⟨e, s, rfl, hq⟩
    · omega
    · have := sized_slice hsz (j := 1) (t := 32) (e := 3) rfl rfl Try.underlying32
      rw [bytes_int] at this; simp only [reachBytes] at this; omega
  refine (walk W v0 z0 k0 b0 x0 v1 z1 k1 b1 x1).mono fun e W' ⟨he, hg⟩ => ?_
  subst he
  exact ⟨_, rfl, _, _, _, [], _, [], hW', (trodAll_cons_mk (shut_bool Try.underlying4 _) trodAll_mk0), (trodAll_cons_mk (back0 _ hg) (trodAll_cons_mk (back1 _ hg) trodAll_mk0)), rfl, hg.frame _, fun h => by cases h⟩

theorem over : Rows.wireConcatRow.holds Try.pinned (OpenSpec.ofChange Rows.wireConcatSpec) :=
  OpenClaim.holds_of_wide 10 Try.f10 rfl rfl rfl rfl rfl rfl rfl ⟨rfl, rfl, rfl, rfl, rfl⟩ rfl rfl rfl rfl rfl (by kernel_rfl) Try.func10 (by kernel_rfl)
    (of_decide_eq_true (by kernel_rfl)) (by unfold Func.isWrapper; first | (rw [if_pos (by decide +kernel)]; kernel_rfl) | (rw [if_neg (by decide +kernel)]; exact ⟨rfl, rfl⟩))
    (fun os started H enc _ => lifted os started H enc)

/-- The given statement. -/
theorem proved : Rows.WireConcatSaid :=
  over
#print axioms proved
end Go.Proofs.Ytoieifhagekgfaa.wireConcat
