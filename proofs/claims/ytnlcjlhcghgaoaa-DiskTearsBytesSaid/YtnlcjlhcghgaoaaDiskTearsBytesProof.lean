/- DiskTearsBytes: the device after a crash is valid, has no unsynced writes, and each of its bytes is the byte at the last sync or the byte of a write since then. No condition. -/
import Derived.Test.YtnlcjlhcghgaoaaRows
import Derived.Test.YtnlcjlhcghgaoaaBase
import Derived.Test.YtnlcjlhcghgaoaaDkO
import Derived.Test.YtnlcjlhcghgaoaaDkP
import Derived.Test.YtnlcjlhcghgaoaaDk14
import Derived.WalkKit
import Derived.ProofKit
import Derived.OpenShut
import Derived.Lib.Hide
import Derived.Carry
namespace Go.Proofs.Ytnlcjlhcghgaoaa.diskTearsBytes
open Go.ChangeShapes Go.WideShapes Go.ChangeAt Go.RowKit
set_option linter.unusedVariables false

theorem walk (w : World) (m : Int) (hm : (Lit.int .u8 m).wf = true) (v : Value) (l : List Nat) (hv : HasBy w v l) (h256 : ∀ b ∈ l, b < 256) (v2 : Value) (cs : List Int) (hv2 : HasIn w v2 cs) : Calls Try.prog 6 #[.int .u8 m, v, v2] w fun e w' => e = .returned (.bool true) ∧ Below w.heap.size w w' := by
  have hx : ∀ i, i < l.length → l.getD i 0 < 256 := fun i hi => h256 _ (getD_mem l i 0 hi)
  obtain ⟨a, cap, rfl, hc, h⟩ := hv
  obtain ⟨a2, cap2, rfl, h2⟩ := hv2
  obtain ⟨b, o, h1, h1'⟩ : ∃ b o, (l.length = 0 ∨ a = some ⟨b, o, none⟩) ∧ ByAt w b o l := by
    rcases h with h | ⟨b, o, rfl, h⟩
    · exact ⟨0, 0, Or.inl h, fun j hj => by omega⟩
    · exact ⟨b, o, Or.inr rfl, h⟩
  obtain ⟨b2, o2, h3, h3'⟩ : ∃ b o, (cs.length = 0 ∨ a2 = some ⟨b, o, none⟩) ∧ IntsAt w b o cs := by
    rcases h2 with h | ⟨b, o, rfl, h⟩
    · exact ⟨0, 0, Or.inl h, fun j hj => by omega⟩
    · exact ⟨b, o, Or.inr rfl, h⟩
  exact tears_all w m (u8_of_wf hm) l hx a cap b o h1 hc h1' cs a2 cap2 b2 o2 h3 h3'

theorem own : ownKnob Try.prog.godebug = none := by kernel_rfl
theorem laidOut : laidOutB Try.prog = true := by kernel_rfl

set_option maxRecDepth 100000 in
theorem lifted (os : Os) (started : os.Started) (H : Type) (enc : TypeId × Value → H) :
    ReturnsInHanded {} Try.checked os 6 .any (Rows.diskTearsBytesSpec.pre6 enc Try.prog Try.f6 Rows.diskTearsBytesRow.domain false) (Rows.diskTearsBytesSpec.post enc Try.prog Try.f6 false true false false) := by
  refine returnsInHanded_of_change (C := Try.checked) own started (by kernel_rfl) Try.func6
    (ChangeSpec.witness6 (enc := enc) (C := Try.checked) false ⟨#[], #[.int .u8 0, .slice none 0 0, .slice none 0 0], []⟩ 8 (by kernel_rfl) (by kernel_rfl) (by kernel_rfl) (by kernel_rfl)) ?_
  intro W base args ds gs before hval0 hW hcnd _
  have hval : ∀ (j : Nat) t v, Try.f6.params[j]? = some t → args[j]? = some v → Value.okWide Try.prog W .any base t v := hval0
  have hW' := hW
  obtain ⟨p, q, hA0, hV, rfl, hfz, hnd⟩ := hW
  have hA : DataW.TrodAll enc Try.prog W 0 (fun _ => true) true Try.f6.params.toList args.toList ds p := hA0
  rw [Try.params6] at hA hval
  obtain ⟨v0, vs0, d0, ds0, p0, q0, hargs, rfl, rfl, h0, r0⟩ := trodAll_cons hA
  obtain ⟨v1, vs1, d1, ds1, p1, q1, rfl, rfl, rfl, h1, r1⟩ := trodAll_cons r0
  obtain ⟨v2, vs2, d2, ds2, p2, q2, rfl, rfl, rfl, h2, r2⟩ := trodAll_cons r1
  obtain ⟨rfl, rfl, rfl⟩ := trodAll_nil r2
  obtain rfl : args = #[v0, v1, v2] := by cases args; simp_all
  obtain ⟨rfl, rfl⟩ := trodVars_none hV
  clear hA0 hval0
  simp only [List.append_nil] at hW'
  have lt0 : ∀ x ∈ p0, x.block < W.heap.size := fun x hx => hW'.lt x (by simp [hx])
  have lt1 : ∀ x ∈ p1, x.block < W.heap.size := fun x hx => hW'.lt x (by simp [hx])
  have lt2 : ∀ x ∈ p2, x.block < W.heap.size := fun x hx => hW'.lt x (by simp [hx])
  have back0 : ∀ W', Below W.heap.size W W' → DataW.Trod enc Try.prog W' 0 (fun b => decide (b < W.heap.size)) true 5 v0 d0 p0 := fun W' hb => Below.trod laidOut (by kernel_rfl) (of_decide_eq_true (by kernel_rfl)) h0 hb lt0
  have back1 : ∀ W', Below W.heap.size W W' → DataW.Trod enc Try.prog W' 0 (fun b => decide (b < W.heap.size)) true 41 v1 d1 p1 := fun W' hb => Below.trod laidOut (by kernel_rfl) (of_decide_eq_true (by kernel_rfl)) h1 hb lt1
  have back2 : ∀ W', Below W.heap.size W W' → DataW.Trod enc Try.prog W' 0 (fun b => decide (b < W.heap.size)) true 26 v2 d2 p2 := fun W' hb => Below.trod laidOut (by kernel_rfl) (of_decide_eq_true (by kernel_rfl)) h2 hb lt2
  obtain ⟨a0, rfl, rfl, rfl, w0⟩ := open_int Try.underlying5 (hval 0 5 v0 rfl rfl) h0
  obtain ⟨l1, k1, b1⟩ := open_bytesArg (hval 1 41 v1 rfl rfl) h1
  obtain ⟨z2, k2⟩ := open_intsArg (hval 2 26 v2 rfl rfl) h2
  refine (walk W a0 w0 v1 l1 k1 b1 v2 z2 k2).mono fun e W' ⟨he, hg⟩ => ?_
  subst he
  exact ⟨_, rfl, _, _, _, [], _, [], hW', (trodAll_cons_mk (shut_bool Try.underlying4 _) trodAll_mk0), (trodAll_cons_mk (back0 _ hg) (trodAll_cons_mk (back1 _ hg) (trodAll_cons_mk (back2 _ hg) trodAll_mk0))), rfl, hg.frame _, fun h => by cases h⟩

theorem over : Rows.diskTearsBytesRow.holds Try.pinned (OpenSpec.ofChange Rows.diskTearsBytesSpec) :=
  OpenClaim.holds_of_wide 6 Try.f6 rfl rfl rfl rfl rfl rfl rfl ⟨rfl, rfl, rfl, rfl, rfl⟩ rfl rfl rfl rfl rfl (by kernel_rfl) Try.func6 (by kernel_rfl)
    (of_decide_eq_true (by kernel_rfl)) (by unfold Func.isWrapper; first | (rw [if_pos (by decide +kernel)]; kernel_rfl) | (rw [if_neg (by decide +kernel)]; exact ⟨rfl, rfl⟩))
    (fun os started H enc _ => lifted os started H enc)

/-- The given statement. -/
theorem proved : Rows.DiskTearsBytesSaid :=
  over
#print axioms proved
end Go.Proofs.Ytnlcjlhcghgaoaa.diskTearsBytes
