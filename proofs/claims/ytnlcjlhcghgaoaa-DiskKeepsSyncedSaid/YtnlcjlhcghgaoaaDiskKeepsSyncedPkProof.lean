/- DiskKeepsSynced: a crash preserves every sector that was not written after the sync, preserves everything without cuts, restores the state at the sync with all cuts 0, and a second crash changes nothing. No condition. -/
import Derived.Test.YtnlcjlhcghgaoaaRows
import Derived.Test.YtnlcjlhcghgaoaaPk2
import Derived.Test.YtnlcjlhcghgaoaaPk10
import Derived.Test.YtnlcjlhcghgaoaaPk11
import Derived.WalkKit
import Derived.ProofKit
import Derived.OpenShut
import Derived.Lib.Hide
import Derived.Carry
namespace Go.Proofs.Ytnlcjlhcghgaoaa.diskKeepsSynced
open Go.ChangeShapes Go.WideShapes Go.ChangeAt Go.RowKit
set_option linter.unusedVariables false

theorem walk (w : World) (m : Int) (va vb vc : Value) (l0 l1 : List Nat) (l2 : List Int) (hm : 0 ≤ m ∧ m ≤ 255) (ha : HasBy w va l0 ∧ ∀ b ∈ l0, b < 256) (hb : HasBy w vb l1 ∧ ∀ b ∈ l1, b < 256) (hc : HasIn w vc l2) : Calls Try.prog 5 #[.agg #[.int .u8 m, va, vb, vc]] w fun e w' => e = .returned (.bool true) ∧ Below w.heap.size w w' := by
  have key : ∀ {v : Value} {l : List Nat}, HasBy w v l → ∃ a c b o, v = .slice a l.length c ∧ (l.length = 0 ∨ a = some ⟨b, o, none⟩) ∧ ByAt w b o l := by
    intro v l h
    obtain ⟨a, cap, rfl, _, h⟩ := h
    rcases h with h | ⟨b, o, rfl, h⟩
    · exact ⟨a, cap, 0, 0, rfl, Or.inl h, fun j hj => by omega⟩
    · exact ⟨_, cap, b, o, rfl, Or.inr rfl, h⟩
  obtain ⟨a1, c1, b1, o1, rfl, h1, h1'⟩ := key ha.1
  obtain ⟨a2, c2, b2, o2, rfl, h2, h2'⟩ := key hb.1
  obtain ⟨a3, c3, b3, o3, rfl, h3, h3'⟩ : ∃ a c b o, vc = .slice a l2.length c ∧ (l2.length = 0 ∨ a = some ⟨b, o, none⟩) ∧ IntsAt w b o l2 := by
    obtain ⟨a, cap, rfl, h⟩ := hc
    rcases h with h | ⟨b, o, rfl, h⟩
    · exact ⟨a, cap, 0, 0, rfl, Or.inl h, fun j hj => by omega⟩
    · exact ⟨_, cap, b, o, rfl, Or.inr rfl, h⟩
  exact keeps_all w m hm l0 (fun i hi => ha.2 _ (getD_mem l0 i 0 hi)) a1 c1 b1 o1 h1 h1' l1 (fun i hi => hb.2 _ (getD_mem l1 i 0 hi)) a2 c2 b2 o2 h2 h2' l2 a3 c3 b3 o3 h3 h3'

theorem own : ownKnob Try.prog.godebug = none := by kernel_rfl
theorem laidOut : laidOutB Try.prog = true := by kernel_rfl

set_option maxRecDepth 100000 in
theorem lifted (os : Os) (started : os.Started) (H : Type) (enc : TypeId × Value → H) :
    ReturnsInHanded {} Try.checked os 5 .any (Rows.diskKeepsSyncedSpec.pre6 enc Try.prog Try.f5 Rows.diskKeepsSyncedRow.domain false) (Rows.diskKeepsSyncedSpec.post enc Try.prog Try.f5 false true false false) := by
  refine returnsInHanded_of_change (C := Try.checked) own started (by kernel_rfl) Try.func5
    (ChangeSpec.witness6 (enc := enc) (C := Try.checked) false ⟨#[], #[.agg #[.int .u8 0, .slice none 0 0, .slice none 0 0, .slice none 0 0]], []⟩ 8 (by kernel_rfl) (by kernel_rfl) (by kernel_rfl) (by kernel_rfl)) ?_
  intro W base args ds gs before hval0 hW hcnd _
  have hval : ∀ (j : Nat) t v, Try.f5.params[j]? = some t → args[j]? = some v → Value.okWide Try.prog W .any base t v := hval0
  have hW' := hW
  obtain ⟨p, q, hA0, hV, rfl, hfz, hnd⟩ := hW
  have hA : DataW.TrodAll enc Try.prog W 0 (fun _ => true) true Try.f5.params.toList args.toList ds p := hA0
  rw [Try.params5] at hA hval
  obtain ⟨v0, vs0, d0, ds0, p0, q0, hargs, rfl, rfl, h0, r0⟩ := trodAll_cons hA
  obtain ⟨rfl, rfl, rfl⟩ := trodAll_nil r0
  obtain rfl : args = #[v0] := by cases args; simp_all
  obtain ⟨rfl, rfl⟩ := trodVars_none hV
  clear hA0 hval0
  simp only [List.append_nil] at hW'
  have lt0 : ∀ x ∈ p0, x.block < W.heap.size := fun x hx => hW'.lt x (by simp [hx])
  have back0 : ∀ W', Below W.heap.size W W' → DataW.Trod enc Try.prog W' 0 (fun b => decide (b < W.heap.size)) true 49 v0 d0 p0 := fun W' hb => Below.trod laidOut (by kernel_rfl) (of_decide_eq_true (by kernel_rfl)) h0 hb lt0
  obtain ⟨m, va, vb, vc, l0, l1, l2, rfl, hm, hka, hkb, hkc⟩ := open_ks (hval 0 49 v0 rfl rfl) h0
  refine (walk W m va vb vc l0 l1 l2 hm hka hkb hkc).mono fun e W' ⟨he, hg⟩ => ?_
  subst he
  exact ⟨_, rfl, _, _, _, [], _, [], hW', (trodAll_cons_mk (shut_bool Try.underlying4 _) trodAll_mk0), (trodAll_cons_mk (back0 _ hg) trodAll_mk0), rfl, hg.frame _, fun h => by cases h⟩

theorem over : Rows.diskKeepsSyncedRow.holds Try.pinned (OpenSpec.ofChange Rows.diskKeepsSyncedSpec) :=
  OpenClaim.holds_of_wide 5 Try.f5 rfl rfl rfl rfl rfl rfl rfl ⟨rfl, rfl, rfl, rfl, rfl⟩ rfl rfl rfl rfl rfl (by kernel_rfl) Try.func5 (by kernel_rfl)
    (of_decide_eq_true (by kernel_rfl)) (by unfold Func.isWrapper; first | (rw [if_pos (by decide +kernel)]; kernel_rfl) | (rw [if_neg (by decide +kernel)]; exact ⟨rfl, rfl⟩))
    (fun os started H enc _ => lifted os started H enc)

/-- The given statement. -/
theorem proved : Rows.DiskKeepsSyncedSaid :=
  over
#print axioms proved
end Go.Proofs.Ytnlcjlhcghgaoaa.diskKeepsSynced
