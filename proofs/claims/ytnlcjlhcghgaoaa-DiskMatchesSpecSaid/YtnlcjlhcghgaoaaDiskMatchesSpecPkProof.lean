/- DiskMatchesSpec: all functions return what the specification says. No condition. -/
import Derived.Test.YtnlcjlhcghgaoaaRows
import Derived.Test.YtnlcjlhcghgaoaaPm2
import Derived.Test.YtnlcjlhcghgaoaaPm10
import Derived.Test.YtnlcjlhcghgaoaaPm12
import Derived.WalkKit
import Derived.ProofKit
import Derived.OpenShut
import Derived.Lib.Hide
import Derived.Carry
namespace Go.Proofs.Ytnlcjlhcghgaoaa.diskMatchesSpec
open Go.ChangeShapes Go.WideShapes Go.ChangeAt Go.RowKit
set_option linter.unusedVariables false

theorem walk (w : World) (d c : Dk) (n : Int) (s : ByteArray) (vc : Value) (l2 : List Int) (hd : DkIn w d) (hc : DkIn w c) (hl : HasIn w vc l2) : Calls Try.prog 3 #[.agg #[.slice d.sa d.sl d.sc, .slice d.ta d.tl d.tc, .slice c.sa c.sl c.sc, .slice c.ta c.tl c.tc, .int .i64 n, .string s, vc]] w fun e w' => e = .returned (.bool true) ∧ Below w.heap.size w w' := by
  obtain ⟨a3, c3, b3, o3, rfl, h3, h3'⟩ : ∃ a c b o, vc = .slice a l2.length c ∧ (l2.length = 0 ∨ a = some ⟨b, o, none⟩) ∧ IntsAt w b o l2 := by
    obtain ⟨a, cap, rfl, h⟩ := hl
    rcases h with h | ⟨b, o, rfl, h⟩
    · exact ⟨a, cap, 0, 0, rfl, Or.inl h, fun j hj => by omega⟩
    · exact ⟨_, cap, b, o, rfl, Or.inr rfl, h⟩
  exact dms_all w d c hd.1 hc.1 n s l2 a3 c3 b3 o3 h3 hd.2.1 hd.2.2 hc.2.1 hc.2.2 h3'

theorem own : ownKnob Try.prog.godebug = none := by kernel_rfl
theorem laidOut : laidOutB Try.prog = true := by kernel_rfl

set_option maxRecDepth 100000 in
theorem lifted (os : Os) (started : os.Started) (H : Type) (enc : TypeId × Value → H) :
    ReturnsInHanded {} Try.checked os 3 .any (Rows.diskMatchesSpecSpec.pre6 enc Try.prog Try.f3 Rows.diskMatchesSpecRow.domain false) (Rows.diskMatchesSpecSpec.post enc Try.prog Try.f3 false true false false) := by
  refine returnsInHanded_of_change (C := Try.checked) own started (by kernel_rfl) Try.func3
    (ChangeSpec.witness6 (enc := enc) (C := Try.checked) false ⟨#[], #[.agg #[.slice none 0 0, .slice none 0 0, .slice none 0 0, .slice none 0 0, .int .i64 0, .string ByteArray.empty, .slice none 0 0]], []⟩ 8 (by kernel_rfl) (by kernel_rfl) (by kernel_rfl) (by kernel_rfl)) ?_
  intro W base args ds gs before hval0 hW hcnd _
  have hval : ∀ (j : Nat) t v, Try.f3.params[j]? = some t → args[j]? = some v → Value.okWide Try.prog W .any base t v := hval0
  have hW' := hW
  obtain ⟨p, q, hA0, hV, rfl, hfz, hnd⟩ := hW
  have hA : DataW.TrodAll enc Try.prog W 0 (fun _ => true) true Try.f3.params.toList args.toList ds p := hA0
  rw [Try.params3] at hA hval
  obtain ⟨v0, vs0, d0, ds0, p0, q0, hargs, rfl, rfl, h0, r0⟩ := trodAll_cons hA
  obtain ⟨rfl, rfl, rfl⟩ := trodAll_nil r0
  obtain rfl : args = #[v0] := by cases args; simp_all
  obtain ⟨rfl, rfl⟩ := trodVars_none hV
  clear hA0 hval0
  simp only [List.append_nil] at hW'
  have lt0 : ∀ x ∈ p0, x.block < W.heap.size := fun x hx => hW'.lt x (by simp [hx])
  have back0 : ∀ W', Below W.heap.size W W' → DataW.Trod enc Try.prog W' 0 (fun b => decide (b < W.heap.size)) true 28 v0 d0 p0 := fun W' hb => Below.trod laidOut (by kernel_rfl) (of_decide_eq_true (by kernel_rfl)) h0 hb lt0
  obtain ⟨dd, cc, nn, ss, vc, l2, rfl, hka, hkb, hkc⟩ := open_dm (hval 0 28 v0 rfl rfl) h0
  refine (walk W dd cc nn ss vc l2 hka hkb hkc).mono fun e W' ⟨he, hg⟩ => ?_
  subst he
  exact ⟨_, rfl, _, _, _, [], _, [], hW', (trodAll_cons_mk (shut_bool Try.underlying4 _) trodAll_mk0), (trodAll_cons_mk (back0 _ hg) trodAll_mk0), rfl, hg.frame _, fun h => by cases h⟩

theorem over : Rows.diskMatchesSpecRow.holds Try.pinned (OpenSpec.ofChange Rows.diskMatchesSpecSpec) :=
  OpenClaim.holds_of_wide 3 Try.f3 rfl rfl rfl rfl rfl rfl rfl ⟨rfl, rfl, rfl, rfl, rfl⟩ rfl rfl rfl rfl rfl (by kernel_rfl) Try.func3 (by kernel_rfl)
    (of_decide_eq_true (by kernel_rfl)) (by unfold Func.isWrapper; first | (rw [if_pos (by decide +kernel)]; kernel_rfl) | (rw [if_neg (by decide +kernel)]; exact ⟨rfl, rfl⟩))
    (fun os started H enc _ => lifted os started H enc)

/-- The given statement. -/
theorem proved : Rows.DiskMatchesSpecSaid :=
  over
#print axioms proved
end Go.Proofs.Ytnlcjlhcghgaoaa.diskMatchesSpec
