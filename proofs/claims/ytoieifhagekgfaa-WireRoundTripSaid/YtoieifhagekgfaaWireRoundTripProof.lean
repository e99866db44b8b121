/- WireRoundTrip: decoding the encoding of an integer returns the integer and the length of the encoding, at most ten bytes, whatever follows it. No condition. -/
import Derived.Test.YtoieifhagekgfaaRows
import Derived.Test.YtoieifhagekgfaaWireA
import Derived.Test.YtoieifhagekgfaaWireB
import Derived.Test.YtoieifhagekgfaaWireC
import Derived.Test.YtoieifhagekgfaaWireF
import Derived.Test.YtoieifhagekgfaaWireO
import Derived.Test.YtoieifhagekgfaaWireP
import Derived.Test.YtoieifhagekgfaaWireS
import Derived.WalkKit
import Derived.ProofKit
import Derived.OpenShut
import Derived.Lib.Hide
import Derived.Carry
namespace Go.Proofs.Ytoieifhagekgfaa.wireRoundTrip
open Go.ChangeShapes Go.WideShapes Go.ChangeAt Go.RowKit
set_option linter.unusedVariables false

set_option maxHeartbeats 4000000 in
set_option maxRecDepth 100000 in
theorem walk_big (w : World) (n : Int) (v : Value) (l : List Nat) (hv : HasB w v l) (hbig : 1000 < l.length) :
    Calls Try.prog 5 #[.int .i64 n, v] w fun e w' => e = .returned (.bool true) ∧ Below w.heap.size w w' := by
  obtain ⟨a, cap, rfl, _, _⟩ := hv
  have hb : decide ((1000 : Int) < l.length) = true := by simp; omega
  go_enter Try.func5, Try.ntmps5
  go_wp2_with fail
  refine (sane_any _).mono ?_
  rintro e w1 ⟨rfl, hb1⟩
  have HW := Lib.hid hb1
  clear hb1
  go_wp2
  go_ret
  exact ⟨rfl, HW.out⟩

set_option maxHeartbeats 4000000 in
set_option maxRecDepth 100000 in
theorem walk_small (w : World) (n : Int) (hn : Hid (I64 n)) (v : Value) (l : List Nat) (hv : HasB w v l) (hl : ∀ b ∈ l, b < 256) (hsm : l.length ≤ 1000) :
    Calls Try.prog 5 #[.int .i64 n, v] w fun e w' => e = .returned (.bool true) ∧ Below w.heap.size w w' := by
  obtain ⟨i0, hi, hz0, hz1, hz2⟩ := info_parts info_u8
  have HV := Lib.hid hv
  have HL := Lib.hid hl
  obtain ⟨a, cap, rfl, _, _⟩ := hv
  have hb : decide ((1000 : Int) < l.length) = false := by simp; omega
  obtain ⟨P, hP⟩ : ∃ P, P = (enc n).length := ⟨_, rfl⟩
  have p1 : 1 ≤ P := by rw [hP]; exact enc_pos n
  have p10 : P ≤ 10 := by rw [hP]; exact enc_len hn.out
  have HP := Lib.hid hP
  have d1 : decide ((P : Int) ≤ 10) = true := by simp; omega
  have d2 : decide ((1 : Int) ≤ P) = true := by simp; omega
  clear hP hl
  go_enter Try.func5, Try.ntmps5
  go_wp2_with fail
  refine (put_any n hn.out _).mono ?_
  rintro e w2 ⟨v2, rfl, h2, hb2⟩
  have HW := Lib.hid hb2
  obtain ⟨g, c, rfl, hcells⟩ := own_addr h2 (by rw [← HP.out]; omega)
  have H2 := Lib.hid h2
  rw [← HP.out] at H2 ⊢
  have hc : P ≤ c := by
    obtain ⟨_, h | ⟨g', cap', cur, he, _, _, hn', _⟩⟩ := h2
    · cases h.1
    · simp only [Value.slice.injEq] at he
      obtain ⟨_, _, rfl⟩ := he
      rw [HP.out]; exact hn'
  clear h2 hb2
  have HD : Hid (decV (enc n ++ l) = .tuple #[.int .i64 n, .int .i64 (P : Int), .int .i64 0]) := Lib.hid (by unfold decV; rw [dec_enc hn.out, HP.out])
  have HB : Hid (∀ b ∈ enc n ++ l, b < 256) := Lib.hid (fun b hb => by
    rcases List.mem_append.1 hb with h | h
    · exact enc_byte n b h
    · exact HL.out b h)
  have HCC := Lib.hid hcells
  clear hcells
  rcases (hasB_src HV.out).2 with ⟨rfl, hz, rfl⟩ | ⟨ad, rfl, hcs⟩
  · have hl0 : l = [] := List.length_eq_zero_iff.1 hz
    subst hl0
    have H4 : Hid (HasB w2 (.slice (some ⟨g, 0, none⟩) P P) (enc n ++ [])) := Lib.hid (by
      rw [List.append_nil]
      have h := hasB_of_owns H2.out
      obtain ⟨a', c', he, hl', hx⟩ := h
      simp only [Value.slice.injEq] at he
      obtain ⟨rfl, hP', rfl⟩ := he
      refine ⟨_, P, by rw [HP.out], ⟨by rw [← HP.out]; omega, by rw [← HP.out]; exact Nat.le_refl _, by omega, fun h => by cases h⟩, hx⟩)
    clear hz
    go_wp2_with fail
    have h4 := H4.out
    refine (get_s (enc n ++ []) (.tuple #[.int .i64 n, .int .i64 (P : Int), .int .i64 0]) HB.out HD.out h4).mono ?_
    rintro e w5 ⟨rfl, hb5⟩
    replace HW := Lib.hid (HW.out.trans (hb5.mono HW.out.size))
    clear hb5
    go_wp2_with fail
    refine (sane_any _).mono ?_
    rintro e w6 ⟨rfl, hb6⟩
    replace HW := Lib.hid (HW.out.trans (hb6.mono HW.out.size))
    clear hb6
    go_wp2
    go_ret
    exact ⟨rfl, HW.out⟩
  · have HCS : Hid (∀ j u, (l.map bV)[j]? = some u → w2.cell? (ad.add j) = some u) := Lib.hid (fun j u hu => by
      have h := hcs j u hu
      exact (HW.out.cell (World.block_lt_of_cell? w _ h)).trans h)
    clear hcs
    go_wp2_with (first
      | (at_builtin; refine wpList_append_cut _ rfl _ _ rfl i0 hi hz0 hz1 hz2 g P (enc n) rfl HP.out.symm (by omega) HCC.out ad l.length cap l rfl rfl HCS.out (by omega) ?_; intro v4 w4 h4 hb4)
      | fail)
    have H4 := Lib.hid h4
    replace HW := Lib.hid (HW.out.trans (hb4.mono HW.out.size))
    clear h4 hb4
    refine (get_s (enc n ++ l) (.tuple #[.int .i64 n, .int .i64 (P : Int), .int .i64 0]) HB.out HD.out H4.out).mono ?_
    rintro e w5 ⟨rfl, hb5⟩
    replace HW := Lib.hid (HW.out.trans (hb5.mono HW.out.size))
    clear hb5
    go_wp2_with fail
    refine (sane_any _).mono ?_
    rintro e w6 ⟨rfl, hb6⟩
    replace HW := Lib.hid (HW.out.trans (hb6.mono HW.out.size))
    clear hb6
    go_wp2
    go_ret
    exact ⟨rfl, HW.out⟩

theorem walk (w : World) (n : Int) (wf : (Lit.int .i64 n).wf = true) (v : Value) (l : List Nat) (hv : HasB w v l) (hl : ∀ b ∈ l, b < 256) :
    Calls Try.prog 5 #[.int .i64 n, v] w fun e w' => e = .returned (.bool true) ∧ Below w.heap.size w w' := by
  by_cases h : 1000 < l.length
  · exact walk_big w n v l hv h
  · exact walk_small w n (Lib.hid (i64_of_wf wf)) v l hv hl (by omega)

theorem own : ownKnob Try.prog.godebug = none := by kernel_rfl
theorem laidOut : laidOutB Try.prog = true := by kernel_rfl

set_option maxRecDepth 100000 in
theorem lifted (os : Os) (started : os.Started) (H : Type) (enc : TypeId × Value → H) :
    ReturnsInHanded {} Try.checked os 5 .any (Rows.wireRoundTripSpec.pre6 enc Try.prog Try.f5 Rows.wireRoundTripRow.domain false) (Rows.wireRoundTripSpec.post enc Try.prog Try.f5 false true false false) := by
  refine returnsInHanded_of_change (C := Try.checked) own started (by kernel_rfl) Try.func5
    (ChangeSpec.witness6 (enc := enc) (C := Try.checked) false ⟨#[], #[.int .i64 0, .slice none 0 0], []⟩ 8 (by kernel_rfl) (by kernel_rfl) (by kernel_rfl) (by kernel_rfl)) ?_
  intro W base args ds gs before hval0 hW hcnd _
  have hval : ∀ (j : Nat) t v, Try.f5.params[j]? = some t → args[j]? = some v → Value.okWide Try.prog W .any base t v := hval0
  have hW' := hW
  obtain ⟨p, q, hA0, hV, rfl, hfz, hnd⟩ := hW
  have hA : DataW.TrodAll enc Try.prog W 0 (fun _ => true) true Try.f5.params.toList args.toList ds p := hA0
  rw [Try.params5] at hA hval
  obtain ⟨v0, vs0, d0, ds0, p0, q0, hargs, rfl, rfl, h0, r0⟩ := trodAll_cons hA
  obtain ⟨v1, vs1, d1, ds1, p1, q1, rfl, rfl, rfl, h1, r1⟩ := trodAll_cons r0
  obtain ⟨rfl, rfl, rfl⟩ := trodAll_nil r1
  obtain rfl : args = #[v0, v1] := by cases args; simp_all
  obtain ⟨rfl, rfl⟩ := trodVars_none hV
  clear hA0 hval0
  simp only [List.append_nil] at hW'
  have lt0 : ∀ x ∈ p0, x.block < W.heap.size := fun x hx => hW'.lt x (by simp [hx])
  have lt1 : ∀ x ∈ p1, x.block < W.heap.size := fun x hx => hW'.lt x (by simp [hx])
  have back0 : ∀ W', Below W.heap.size W W' → DataW.Trod enc Try.prog W' 0 (fun b => decide (b < W.heap.size)) true 3 v0 d0 p0 := fun W' hb => Below.trod laidOut (by kernel_rfl) (of_decide_eq_true (by kernel_rfl)) h0 hb lt0
  have back1 : ∀ W', Below W.heap.size W W' → DataW.Trod enc Try.prog W' 0 (fun b => decide (b < W.heap.size)) true 24 v1 d1 p1 := fun W' hb => Below.trod laidOut (by kernel_rfl) (of_decide_eq_true (by kernel_rfl)) h1 hb lt1
  obtain ⟨a0, rfl, rfl, rfl, w0⟩ := open_int Try.underlying3 (hval 0 3 v0 rfl rfl) h0
  obtain ⟨l1, k1, b1⟩ := open_bytesArg (hval 1 24 v1 rfl rfl) h1
  refine (walk W a0 w0 v1 l1 k1 b1).mono fun e W' ⟨he, hg⟩ => ?_
  subst he
  exact ⟨_, rfl, _, _, _, [], _, [], hW', (trodAll_cons_mk (shut_bool Try.underlying4 _) trodAll_mk0), (trodAll_cons_mk (back0 _ hg) (trodAll_cons_mk (back1 _ hg) trodAll_mk0)), rfl, hg.frame _, fun h => by cases h⟩

theorem over : Rows.wireRoundTripRow.holds Try.pinned (OpenSpec.ofChange Rows.wireRoundTripSpec) :=
  OpenClaim.holds_of_wide 5 Try.f5 rfl rfl rfl rfl rfl rfl rfl ⟨rfl, rfl, rfl, rfl, rfl⟩ rfl rfl rfl rfl rfl (by kernel_rfl) Try.func5 (by kernel_rfl)
    (of_decide_eq_true (by kernel_rfl)) (by unfold Func.isWrapper; first | (rw [if_pos (by decide +kernel)]; kernel_rfl) | (rw [if_neg (by decide +kernel)]; exact ⟨rfl, rfl⟩))
    (fun os started H enc _ => lifted os started H enc)

/-- The given statement. -/
theorem proved : Rows.WireRoundTripSaid :=
  over
#print axioms proved
end Go.Proofs.Ytoieifhagekgfaa.wireRoundTrip
