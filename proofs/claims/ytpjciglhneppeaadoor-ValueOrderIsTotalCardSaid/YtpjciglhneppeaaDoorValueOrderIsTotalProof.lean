/- ValueOrderIsTotal: for all integers x, y, z and all booleans p, q: OLess is a strict total order that fits OEq, and OAnd and OOr are conjunction and disjunction. The package variables that the row lists are as the program's text lays them. -/
import Derived.Test.YtpjciglhneppeaaDoorRows
import Derived.Test.YtpjciglhneppeaaDoorBase
import Derived.Test.YtpjciglhneppeaaDoorVot0
import Derived.Test.YtpjciglhneppeaaDoorVot1
import Derived.Test.YtpjciglhneppeaaDoorVot2
import Derived.Test.YtpjciglhneppeaaDoorVot3
import Derived.Test.YtpjciglhneppeaaDoorVot4
import Derived.Test.YtpjciglhneppeaaDoorVotO
import Derived.Test.YtpjciglhneppeaaDoorTie
import Derived.Test.YtpjciglhneppeaaDoorCards
import Derived.LaidMore
import Derived.Lay
import Derived.SevenTiedAt
import Derived.Stop.Joined
import Derived.WalkKit
import Derived.ProofKit
import Derived.OpenShut
import Derived.Lib.Hide
import Derived.Carry
namespace Go.Proofs.YtpjciglhneppeaaDoor.valueOrderIsTotal
open Go.ChangeShapes Go.WideShapes Go.ChangeAt Go.RowKit
set_option linter.unusedVariables false

theorem dl {u v : Int} (h : u < v) : decide (u < v) = true := by simp [h]
theorem dn {u v : Int} (h : v ≤ u) : decide (u < v) = false := by simp; omega
theorem be {u v : Int} (h : u = v) : (u == v) = true := by simp [h]
theorem bn {u v : Int} (h : u < v ∨ v < u) : (u == v) = false := by simp only [beq_eq_false_iff_ne, ne_eq]; omega
theorem walk (w : World) (x y z : Int) (p q : Bool) (i1 : I64 x) (i2 : I64 y) (i3 : I64 z) : Calls Tryd.prog 4 #[.agg #[.int .i64 x, .int .i64 y, .int .i64 z, .bool p, .bool q]] w fun e w' => e = .returned (.bool true) ∧ Below w.heap.size w w' := by
  rcases Int.lt_trichotomy (rnd x) (rnd y) with a | a | a <;> rcases Int.lt_trichotomy (rnd x) (rnd z) with b | b | b <;> rcases Int.lt_trichotomy (rnd y) (rnd z) with c | c | c
  · cases p <;> cases q
    · exact ord_12_00 rnd knT_ok rnd_range w x y z (dl (by omega)) (dl (by omega)) (dn (by omega)) (dl (by omega)) (dn (by omega)) (dn (by omega)) (bn (by omega)) (bn (by omega)) (bn (by omega))
    · exact ord_12_01 rnd knT_ok rnd_range w x y z (dl (by omega)) (dl (by omega)) (dn (by omega)) (dl (by omega)) (dn (by omega)) (dn (by omega)) (bn (by omega)) (bn (by omega)) (bn (by omega))
    · exact ord_12_10 rnd knT_ok rnd_range w x y z (dl (by omega)) (dl (by omega)) (dn (by omega)) (dl (by omega)) (dn (by omega)) (dn (by omega)) (bn (by omega)) (bn (by omega)) (bn (by omega))
    · exact ord_12_11 rnd knT_ok rnd_range w x y z (dl (by omega)) (dl (by omega)) (dn (by omega)) (dl (by omega)) (dn (by omega)) (dn (by omega)) (bn (by omega)) (bn (by omega)) (bn (by omega))
  · cases p <;> cases q
    · exact ord_10_00 rnd knT_ok rnd_range w x y z (dl (by omega)) (dl (by omega)) (dn (by omega)) (dn (by omega)) (dn (by omega)) (dn (by omega)) (bn (by omega)) (bn (by omega)) (be (by omega))
    · exact ord_10_01 rnd knT_ok rnd_range w x y z (dl (by omega)) (dl (by omega)) (dn (by omega)) (dn (by omega)) (dn (by omega)) (dn (by omega)) (bn (by omega)) (bn (by omega)) (be (by omega))
    · exact ord_10_10 rnd knT_ok rnd_range w x y z (dl (by omega)) (dl (by omega)) (dn (by omega)) (dn (by omega)) (dn (by omega)) (dn (by omega)) (bn (by omega)) (bn (by omega)) (be (by omega))
    · exact ord_10_11 rnd knT_ok rnd_range w x y z (dl (by omega)) (dl (by omega)) (dn (by omega)) (dn (by omega)) (dn (by omega)) (dn (by omega)) (bn (by omega)) (bn (by omega)) (be (by omega))
  · cases p <;> cases q
    · exact ord_11_00 rnd knT_ok rnd_range w x y z (dl (by omega)) (dl (by omega)) (dn (by omega)) (dn (by omega)) (dn (by omega)) (dl (by omega)) (bn (by omega)) (bn (by omega)) (bn (by omega))
    · exact ord_11_01 rnd knT_ok rnd_range w x y z (dl (by omega)) (dl (by omega)) (dn (by omega)) (dn (by omega)) (dn (by omega)) (dl (by omega)) (bn (by omega)) (bn (by omega)) (bn (by omega))
    · exact ord_11_10 rnd knT_ok rnd_range w x y z (dl (by omega)) (dl (by omega)) (dn (by omega)) (dn (by omega)) (dn (by omega)) (dl (by omega)) (bn (by omega)) (bn (by omega)) (bn (by omega))
    · exact ord_11_11 rnd knT_ok rnd_range w x y z (dl (by omega)) (dl (by omega)) (dn (by omega)) (dn (by omega)) (dn (by omega)) (dl (by omega)) (bn (by omega)) (bn (by omega)) (bn (by omega))
  · exfalso; omega
  · exfalso; omega
  · cases p <;> cases q
    · exact ord_8_00 rnd knT_ok rnd_range w x y z (dl (by omega)) (dn (by omega)) (dn (by omega)) (dn (by omega)) (dn (by omega)) (dl (by omega)) (bn (by omega)) (be (by omega)) (bn (by omega))
    · exact ord_8_01 rnd knT_ok rnd_range w x y z (dl (by omega)) (dn (by omega)) (dn (by omega)) (dn (by omega)) (dn (by omega)) (dl (by omega)) (bn (by omega)) (be (by omega)) (bn (by omega))
    · exact ord_8_10 rnd knT_ok rnd_range w x y z (dl (by omega)) (dn (by omega)) (dn (by omega)) (dn (by omega)) (dn (by omega)) (dl (by omega)) (bn (by omega)) (be (by omega)) (bn (by omega))
    · exact ord_8_11 rnd knT_ok rnd_range w x y z (dl (by omega)) (dn (by omega)) (dn (by omega)) (dn (by omega)) (dn (by omega)) (dl (by omega)) (bn (by omega)) (be (by omega)) (bn (by omega))
  · exfalso; omega
  · exfalso; omega
  · cases p <;> cases q
    · exact ord_9_00 rnd knT_ok rnd_range w x y z (dl (by omega)) (dn (by omega)) (dn (by omega)) (dn (by omega)) (dl (by omega)) (dl (by omega)) (bn (by omega)) (bn (by omega)) (bn (by omega))
    · exact ord_9_01 rnd knT_ok rnd_range w x y z (dl (by omega)) (dn (by omega)) (dn (by omega)) (dn (by omega)) (dl (by omega)) (dl (by omega)) (bn (by omega)) (bn (by omega)) (bn (by omega))
    · exact ord_9_10 rnd knT_ok rnd_range w x y z (dl (by omega)) (dn (by omega)) (dn (by omega)) (dn (by omega)) (dl (by omega)) (dl (by omega)) (bn (by omega)) (bn (by omega)) (bn (by omega))
    · exact ord_9_11 rnd knT_ok rnd_range w x y z (dl (by omega)) (dn (by omega)) (dn (by omega)) (dn (by omega)) (dl (by omega)) (dl (by omega)) (bn (by omega)) (bn (by omega)) (bn (by omega))
  · cases p <;> cases q
    · exact ord_6_00 rnd knT_ok rnd_range w x y z (dn (by omega)) (dl (by omega)) (dn (by omega)) (dl (by omega)) (dn (by omega)) (dn (by omega)) (be (by omega)) (bn (by omega)) (bn (by omega))
    · exact ord_6_01 rnd knT_ok rnd_range w x y z (dn (by omega)) (dl (by omega)) (dn (by omega)) (dl (by omega)) (dn (by omega)) (dn (by omega)) (be (by omega)) (bn (by omega)) (bn (by omega))
    · exact ord_6_10 rnd knT_ok rnd_range w x y z (dn (by omega)) (dl (by omega)) (dn (by omega)) (dl (by omega)) (dn (by omega)) (dn (by omega)) (be (by omega)) (bn (by omega)) (bn (by omega))
    · exact ord_6_11 rnd knT_ok rnd_range w x y z (dn (by omega)) (dl (by omega)) (dn (by omega)) (dl (by omega)) (dn (by omega)) (dn (by omega)) (be (by omega)) (bn (by omega)) (bn (by omega))
  · exfalso; omega
  · exfalso; omega
  · exfalso; omega
  · cases p <;> cases q
    · exact ord_0_00 rnd knT_ok rnd_range w x y z (dn (by omega)) (dn (by omega)) (dn (by omega)) (dn (by omega)) (dn (by omega)) (dn (by omega)) (be (by omega)) (be (by omega)) (be (by omega))
    · exact ord_0_01 rnd knT_ok rnd_range w x y z (dn (by omega)) (dn (by omega)) (dn (by omega)) (dn (by omega)) (dn (by omega)) (dn (by omega)) (be (by omega)) (be (by omega)) (be (by omega))
    · exact ord_0_10 rnd knT_ok rnd_range w x y z (dn (by omega)) (dn (by omega)) (dn (by omega)) (dn (by omega)) (dn (by omega)) (dn (by omega)) (be (by omega)) (be (by omega)) (be (by omega))
    · exact ord_0_11 rnd knT_ok rnd_range w x y z (dn (by omega)) (dn (by omega)) (dn (by omega)) (dn (by omega)) (dn (by omega)) (dn (by omega)) (be (by omega)) (be (by omega)) (be (by omega))
  · exfalso; omega
  · exfalso; omega
  · exfalso; omega
  · cases p <;> cases q
    · exact ord_1_00 rnd knT_ok rnd_range w x y z (dn (by omega)) (dn (by omega)) (dn (by omega)) (dn (by omega)) (dl (by omega)) (dl (by omega)) (be (by omega)) (bn (by omega)) (bn (by omega))
    · exact ord_1_01 rnd knT_ok rnd_range w x y z (dn (by omega)) (dn (by omega)) (dn (by omega)) (dn (by omega)) (dl (by omega)) (dl (by omega)) (be (by omega)) (bn (by omega)) (bn (by omega))
    · exact ord_1_10 rnd knT_ok rnd_range w x y z (dn (by omega)) (dn (by omega)) (dn (by omega)) (dn (by omega)) (dl (by omega)) (dl (by omega)) (be (by omega)) (bn (by omega)) (bn (by omega))
    · exact ord_1_11 rnd knT_ok rnd_range w x y z (dn (by omega)) (dn (by omega)) (dn (by omega)) (dn (by omega)) (dl (by omega)) (dl (by omega)) (be (by omega)) (bn (by omega)) (bn (by omega))
  · cases p <;> cases q
    · exact ord_7_00 rnd knT_ok rnd_range w x y z (dn (by omega)) (dl (by omega)) (dl (by omega)) (dl (by omega)) (dn (by omega)) (dn (by omega)) (bn (by omega)) (bn (by omega)) (bn (by omega))
    · exact ord_7_01 rnd knT_ok rnd_range w x y z (dn (by omega)) (dl (by omega)) (dl (by omega)) (dl (by omega)) (dn (by omega)) (dn (by omega)) (bn (by omega)) (bn (by omega)) (bn (by omega))
    · exact ord_7_10 rnd knT_ok rnd_range w x y z (dn (by omega)) (dl (by omega)) (dl (by omega)) (dl (by omega)) (dn (by omega)) (dn (by omega)) (bn (by omega)) (bn (by omega)) (bn (by omega))
    · exact ord_7_11 rnd knT_ok rnd_range w x y z (dn (by omega)) (dl (by omega)) (dl (by omega)) (dl (by omega)) (dn (by omega)) (dn (by omega)) (bn (by omega)) (bn (by omega)) (bn (by omega))
  · exfalso; omega
  · exfalso; omega
  · cases p <;> cases q
    · exact ord_4_00 rnd knT_ok rnd_range w x y z (dn (by omega)) (dn (by omega)) (dl (by omega)) (dl (by omega)) (dn (by omega)) (dn (by omega)) (bn (by omega)) (be (by omega)) (bn (by omega))
    · exact ord_4_01 rnd knT_ok rnd_range w x y z (dn (by omega)) (dn (by omega)) (dl (by omega)) (dl (by omega)) (dn (by omega)) (dn (by omega)) (bn (by omega)) (be (by omega)) (bn (by omega))
    · exact ord_4_10 rnd knT_ok rnd_range w x y z (dn (by omega)) (dn (by omega)) (dl (by omega)) (dl (by omega)) (dn (by omega)) (dn (by omega)) (bn (by omega)) (be (by omega)) (bn (by omega))
    · exact ord_4_11 rnd knT_ok rnd_range w x y z (dn (by omega)) (dn (by omega)) (dl (by omega)) (dl (by omega)) (dn (by omega)) (dn (by omega)) (bn (by omega)) (be (by omega)) (bn (by omega))
  · exfalso; omega
  · exfalso; omega
  · cases p <;> cases q
    · exact ord_5_00 rnd knT_ok rnd_range w x y z (dn (by omega)) (dn (by omega)) (dl (by omega)) (dl (by omega)) (dl (by omega)) (dn (by omega)) (bn (by omega)) (bn (by omega)) (bn (by omega))
    · exact ord_5_01 rnd knT_ok rnd_range w x y z (dn (by omega)) (dn (by omega)) (dl (by omega)) (dl (by omega)) (dl (by omega)) (dn (by omega)) (bn (by omega)) (bn (by omega)) (bn (by omega))
    · exact ord_5_10 rnd knT_ok rnd_range w x y z (dn (by omega)) (dn (by omega)) (dl (by omega)) (dl (by omega)) (dl (by omega)) (dn (by omega)) (bn (by omega)) (bn (by omega)) (bn (by omega))
    · exact ord_5_11 rnd knT_ok rnd_range w x y z (dn (by omega)) (dn (by omega)) (dl (by omega)) (dl (by omega)) (dl (by omega)) (dn (by omega)) (bn (by omega)) (bn (by omega)) (bn (by omega))
  · cases p <;> cases q
    · exact ord_2_00 rnd knT_ok rnd_range w x y z (dn (by omega)) (dn (by omega)) (dl (by omega)) (dn (by omega)) (dl (by omega)) (dn (by omega)) (bn (by omega)) (bn (by omega)) (be (by omega))
    · exact ord_2_01 rnd knT_ok rnd_range w x y z (dn (by omega)) (dn (by omega)) (dl (by omega)) (dn (by omega)) (dl (by omega)) (dn (by omega)) (bn (by omega)) (bn (by omega)) (be (by omega))
    · exact ord_2_10 rnd knT_ok rnd_range w x y z (dn (by omega)) (dn (by omega)) (dl (by omega)) (dn (by omega)) (dl (by omega)) (dn (by omega)) (bn (by omega)) (bn (by omega)) (be (by omega))
    · exact ord_2_11 rnd knT_ok rnd_range w x y z (dn (by omega)) (dn (by omega)) (dl (by omega)) (dn (by omega)) (dl (by omega)) (dn (by omega)) (bn (by omega)) (bn (by omega)) (be (by omega))
  · cases p <;> cases q
    · exact ord_3_00 rnd knT_ok rnd_range w x y z (dn (by omega)) (dn (by omega)) (dl (by omega)) (dn (by omega)) (dl (by omega)) (dl (by omega)) (bn (by omega)) (bn (by omega)) (bn (by omega))
    · exact ord_3_01 rnd knT_ok rnd_range w x y z (dn (by omega)) (dn (by omega)) (dl (by omega)) (dn (by omega)) (dl (by omega)) (dl (by omega)) (bn (by omega)) (bn (by omega)) (bn (by omega))
    · exact ord_3_10 rnd knT_ok rnd_range w x y z (dn (by omega)) (dn (by omega)) (dl (by omega)) (dn (by omega)) (dl (by omega)) (dl (by omega)) (bn (by omega)) (bn (by omega)) (bn (by omega))
    · exact ord_3_11 rnd knT_ok rnd_range w x y z (dn (by omega)) (dn (by omega)) (dl (by omega)) (dn (by omega)) (dl (by omega)) (dl (by omega)) (bn (by omega)) (bn (by omega)) (bn (by omega))

theorem own : ownKnob Tryd.prog.godebug = none := by kernel_rfl
theorem laidOut : laidOutB Tryd.prog = true := by kernel_rfl

set_option maxRecDepth 100000 in
theorem lifted (os : Os) (started : os.Started) (H : Type) (enc : TypeId × Value → H) :
    ReturnsInHanded {} Tryd.checked os 4 .any (fun w args => (Rows.valueOrderIsTotalSpec.pre enc Tryd.prog Tryd.f4 Rows.valueOrderIsTotalRow.domain false w args ∧ laidMetH Tryd.prog Rows.valueOrderIsTotalRow.laid w) ∧ sizedMet enc Tryd.prog Tryd.f4 (OpenSpec.ofChange Rows.valueOrderIsTotalSpec) false w args) (Rows.valueOrderIsTotalSpec.post enc Tryd.prog Tryd.f4 false true false false) := by
  refine returnsInHanded_of_change_and (C := Tryd.checked) (X := fun w _ => laidMetH Tryd.prog Rows.valueOrderIsTotalRow.laid w) (fun _ _ _ hh h => h.of_heap hh) own started (by kernel_rfl) Tryd.func4
    (ChangeSpec.witness_shaped (enc := enc) (C := Tryd.checked) (os := os) (X := fun w _ => laidMetH Tryd.prog Rows.valueOrderIsTotalRow.laid w) false (World.laidAll Tryd.prog os Rows.valueOrderIsTotalRow.laid) #[.agg #[.int .i64 0, .int .i64 0, .int .i64 0, .bool false, .bool false]] 8 (World.laidAll_os _ _ _)
      (World.shaped_of_ZipB (by kernel_rfl) (by kernel_rfl)) (by kernel_rfl) (by kernel_rfl) (by kernel_rfl)
      (by rw [MakeChecks.laidMetH_plain _ _ _ (by kernel_rfl)]; exact laidMet_laidAll _ (by kernel_rfl) (by kernel_rfl))) ?_
  intro W base args ds gs before hval0 hW hcnd _ hL _
  have hval : ∀ (j : Nat) t v, Tryd.f4.params[j]? = some t → args[j]? = some v → Value.okWide Tryd.prog W .any base t v := hval0
  have hW' := hW
  obtain ⟨p, q, hA0, hV, rfl, hfz, hnd⟩ := hW
  have hA : DataW.TrodAll enc Tryd.prog W 0 (fun _ => true) true Tryd.f4.params.toList args.toList ds p := hA0
  rw [Tryd.params4] at hA hval
  obtain ⟨v0, vs0, d0, ds0, p0, q0, hargs, rfl, rfl, h0, r0⟩ := trodAll_cons hA
  obtain ⟨rfl, rfl, rfl⟩ := trodAll_nil r0
  obtain rfl : args = #[v0] := by cases args; simp_all
  obtain ⟨rfl, rfl⟩ := trodVars_none hV
  clear hA0 hval0
  simp only [List.append_nil] at hW'
  have lt0 : ∀ x ∈ p0, x.block < W.heap.size := fun x hx => hW'.lt x (by simp [hx])
  have back0 : ∀ W', Below W.heap.size W W' → DataW.Trod enc Tryd.prog W' 0 (fun b => decide (b < W.heap.size)) true 31 v0 d0 p0 := fun W' hb => Below.trod laidOut (by kernel_rfl) (of_decide_eq_true (by kernel_rfl)) h0 hb lt0
  obtain ⟨m0, o0, u0, b0, c0, rfl, ia0, ib0, ic0⟩ := open_vt (hval 0 31 v0 rfl rfl) h0
  refine (walk W m0 o0 u0 b0 c0 ia0 ib0 ic0).mono fun e W' ⟨he, hg⟩ => ?_
  subst he
  exact ⟨_, rfl, _, _, _, [], _, [], hW', (trodAll_cons_mk (shut_bool Tryd.underlying4 _) trodAll_mk0), (trodAll_cons_mk (back0 _ hg) trodAll_mk0), rfl, hg.frame _, fun h => by cases h⟩

theorem over : Rows.valueOrderIsTotalRow.holds Tryd.pinned (OpenSpec.ofChange Rows.valueOrderIsTotalSpec) :=
  OpenClaim.holds_of_wide 4 Tryd.f4 rfl rfl rfl rfl rfl rfl rfl ⟨rfl, rfl, rfl, rfl, rfl⟩ rfl rfl rfl rfl rfl (by kernel_rfl) Tryd.func4 (by kernel_rfl)
    (of_decide_eq_true (by kernel_rfl)) (by unfold Func.isWrapper; first | (rw [if_pos (by decide +kernel)]; kernel_rfl) | (rw [if_neg (by decide +kernel)]; exact ⟨rfl, rfl⟩))
    (fun os started H enc _ => lifted os started H enc)

/-- The given statement. -/
theorem proved : Rows.ValueOrderIsTotalCardSaid :=
  Claim7.holds_tied_plain_at .later [] [.data, .data, .data] true (true, "b586c1946d1b37c6e4f64d4f84396cd0044154635eac61861aef14b790fb1948") false over (fun _ h => by cases h) (by kernel_rfl) (fun _ h => by cases h) valueOrderIsTotal_row_tie rfl ⟨rfl, rfl⟩ (by kernel_rfl) rfl
    (fun f fn hf hfn => by
      obtain rfl : f = 4 := Option.some.inj ((show Tryd.prog.funcNamed "hallmoot/hallmootlaw08.ValueOrderIsTotal" = some 4 by kernel_rfl).symm.trans hf) |>.symm
      obtain rfl : fn = Tryd.f4 := (Option.some.inj (Tryd.func4.symm.trans hfn)).symm
      exact ⟨by kernel_rfl, fun j t ht => by
        rw [Tryd.params4] at ht
        have hm : t ∈ [31] := by simpa using Array.mem_of_getElem? ht
        have hall : ([31].all fun u => !Tryd.prog.wantsStandIn u) = true := by kernel_rfl
        exact (show Tryd.prog.wantsStandIn t = false by simpa using List.all_eq_true.1 hall t hm)⟩)
    (by kernel_rfl)
#print axioms proved
end Go.Proofs.YtpjciglhneppeaaDoor.valueOrderIsTotal
