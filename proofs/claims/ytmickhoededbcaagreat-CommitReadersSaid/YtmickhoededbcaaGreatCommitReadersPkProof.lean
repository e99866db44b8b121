/- CommitReaders: a visible reader of a written location is doomed if it is active and younger; if it is older and not idle, the commit is lost before it draws a version; a reader that is committing and younger does not delay the commit. No condition. -/
import Derived.Test.YtmickhoededbcaaGreatRows
import Derived.Test.YtmickhoededbcaaGreatPk1
import Derived.Test.YtmickhoededbcaaGreatPk6
import Derived.WalkKit
import Derived.ProofKit
import Derived.OpenShut
import Derived.Lib.Hide
import Derived.Carry
namespace Go.Proofs.YtmickhoededbcaaGreat.commitReaders
open Go.ChangeShapes Go.WideShapes Go.ChangeAt Go.RowKit
set_option linter.unusedVariables false

theorem wrap_u8 {x : Int} (h : 0 ≤ x ∧ x ≤ 255) : IntKind.i64.wrap x = x := by
  have h0 : -9223372036854775808 ≤ x ∧ x ≤ 9223372036854775807 := by omega
  simp [IntKind.wrap, IntKind.bits, IntKind.signed]
  omega
theorem walk (w : World) (m : Int) (h1 : (Lit.int .u8 m).wf = true) (o : Int) (h2 : (Lit.int .u8 o).wf = true) (a : Int) (h3 : (Lit.int .u8 a).wf = true) : Calls Tryz.prog 4 #[.int .u8 m, .int .u8 o, .int .u8 a] w fun e w' => e = .returned (.bool true) ∧ Below w.heap.size w w' := by
  have hm := wrap_u8 (u8_of_wf h1)
  have ho := wrap_u8 (u8_of_wf h2)
  have h3 := u8_of_wf h3
  have ht : Int.tmod a 4 = a % 4 := Int.tmod_eq_emod_of_nonneg h3.1
  have hw : ∀ k, a % 4 = k → 0 ≤ k ∧ k ≤ 3 → IntKind.i64.wrap (Int.tmod a 4) = k := fun k hk hr => by rw [ht, hk]; exact wrap_u8 (by omega)
  have hk : a % 4 = 0 ∨ a % 4 = 1 ∨ a % 4 = 2 ∨ a % 4 = 3 := by omega
  by_cases hlt : m < o
  · have l1 : decide (m < o) = true := decide_eq_true hlt
    have l2 : decide (m ≥ o) = false := decide_eq_false (by omega)
    rcases hk with hk | hk | hk | hk
    · exact cr_0 w m o a hm ho (hw 0 hk (by omega)) (by rw [ht, hk]; rfl) (by rw [ht, hk]; rfl)
    · exact cr_1t w m o a hm ho l1 l2 (hw 1 hk (by omega)) (by rw [ht, hk]; rfl) (by rw [ht, hk]; rfl)
    · exact cr_2t w m o a hm ho l1 l2 (hw 2 hk (by omega)) (by rw [ht, hk]; rfl) (by rw [ht, hk]; rfl)
    · exact cr_3t w m o a hm ho l1 l2 (hw 3 hk (by omega)) (by rw [ht, hk]; rfl) (by rw [ht, hk]; rfl)
  · have l1 : decide (m < o) = false := decide_eq_false hlt
    have l2 : decide (m ≥ o) = true := decide_eq_true (by omega)
    rcases hk with hk | hk | hk | hk
    · exact cr_0 w m o a hm ho (hw 0 hk (by omega)) (by rw [ht, hk]; rfl) (by rw [ht, hk]; rfl)
    · exact cr_1f w m o a hm ho l1 l2 (hw 1 hk (by omega)) (by rw [ht, hk]; rfl) (by rw [ht, hk]; rfl)
    · exact cr_2f w m o a hm ho l1 l2 (hw 2 hk (by omega)) (by rw [ht, hk]; rfl) (by rw [ht, hk]; rfl)
    · exact cr_3f w m o a hm ho l1 l2 (hw 3 hk (by omega)) (by rw [ht, hk]; rfl) (by rw [ht, hk]; rfl)

theorem own : ownKnob Tryz.prog.godebug = none := by kernel_rfl
theorem laidOut : laidOutB Tryz.prog = true := by kernel_rfl

set_option maxRecDepth 100000 in
theorem lifted (os : Os) (started : os.Started) (H : Type) (enc : TypeId × Value → H) :
    ReturnsInHanded {} Tryz.checked os 4 .any (Rows.commitReadersSpec.pre6 enc Tryz.prog Tryz.f4 Rows.commitReadersRow.domain false) (Rows.commitReadersSpec.post enc Tryz.prog Tryz.f4 false true false false) := by
  refine returnsInHanded_of_change (C := Tryz.checked) own started (by kernel_rfl) Tryz.func4
    (ChangeSpec.witness6 (enc := enc) (C := Tryz.checked) false ⟨#[], #[.int .u8 0, .int .u8 0, .int .u8 0], []⟩ 8 (by kernel_rfl) (by kernel_rfl) (by kernel_rfl) (by kernel_rfl)) ?_
  intro W base args ds gs before hval0 hW hcnd _
  have hval : ∀ (j : Nat) t v, Tryz.f4.params[j]? = some t → args[j]? = some v → Value.okWide Tryz.prog W .any base t v := hval0
  have hW' := hW
  obtain ⟨p, q, hA0, hV, rfl, hfz, hnd⟩ := hW
  have hA : DataW.TrodAll enc Tryz.prog W 0 (fun _ => true) true Tryz.f4.params.toList args.toList ds p := hA0
  rw [Tryz.params4] at hA hval
  obtain ⟨v0, vs0, d0, ds0, p0, q0, hargs, rfl, rfl, h0, r0⟩ := trodAll_cons hA
  obtain ⟨v1, vs1, d1, ds1, p1, q1, rfl, rfl, rfl, h1, r1⟩ := trodAll_cons r0
  obtain ⟨v2, vs2, d2, ds2, p2, q2, rfl, rfl, rfl, h2, r2⟩ := trodAll_cons r1
  obtain ⟨rfl, rfl, rfl⟩ := trodAll_nil r2
  obtain rfl : args = #[v0, v1, v2] := by cases args; simp_all
  obtain ⟨rfl, rfl⟩ := trodVars_none hV
  clear hA0 hval0
  simp only [List.append_nil] at hW'
  have lt0 : ∀ x ∈ p0, x.block < W.heap.size := fun x hx => hW'.lt x (by simp [hx])
  have lt1 : ∀ x ∈ p1, x.block < W.heap.size := fun x hx => hW'.lt x (by simp [hx])
  have lt2 : ∀ x ∈ p2, x.block < W.heap.size := fun x hx => hW'.lt x (by simp [hx])
  have back0 : ∀ W', Below W.heap.size W W' → DataW.Trod enc Tryz.prog W' 0 (fun b => decide (b < W.heap.size)) true 5 v0 d0 p0 := fun W' hb => Below.trod laidOut (by kernel_rfl) (of_decide_eq_true (by kernel_rfl)) h0 hb lt0
  have back1 : ∀ W', Below W.heap.size W W' → DataW.Trod enc Tryz.prog W' 0 (fun b => decide (b < W.heap.size)) true 5 v1 d1 p1 := fun W' hb => Below.trod laidOut (by kernel_rfl) (of_decide_eq_true (by kernel_rfl)) h1 hb lt1
  have back2 : ∀ W', Below W.heap.size W W' → DataW.Trod enc Tryz.prog W' 0 (fun b => decide (b < W.heap.size)) true 5 v2 d2 p2 := fun W' hb => Below.trod laidOut (by kernel_rfl) (of_decide_eq_true (by kernel_rfl)) h2 hb lt2
  obtain ⟨a0, rfl, rfl, rfl, w0⟩ := open_int Tryz.underlying5 (hval 0 5 v0 rfl rfl) h0
  obtain ⟨a1, rfl, rfl, rfl, w1⟩ := open_int Tryz.underlying5 (hval 1 5 v1 rfl rfl) h1
  obtain ⟨a2, rfl, rfl, rfl, w2⟩ := open_int Tryz.underlying5 (hval 2 5 v2 rfl rfl) h2
  refine (walk W a0 w0 a1 w1 a2 w2).mono fun e W' ⟨he, hg⟩ => ?_
  subst he
  exact ⟨_, rfl, _, _, _, [], _, [], hW', (trodAll_cons_mk (shut_bool Tryz.underlying4 _) trodAll_mk0), (trodAll_cons_mk (back0 _ hg) (trodAll_cons_mk (back1 _ hg) (trodAll_cons_mk (back2 _ hg) trodAll_mk0))), rfl, hg.frame _, fun h => by cases h⟩

theorem over : Rows.commitReadersRow.holds Tryz.pinned (OpenSpec.ofChange Rows.commitReadersSpec) :=
  OpenClaim.holds_of_wide 4 Tryz.f4 rfl rfl rfl rfl rfl rfl rfl ⟨rfl, rfl, rfl, rfl, rfl⟩ rfl rfl rfl rfl rfl (by kernel_rfl) Tryz.func4 (by kernel_rfl)
    (of_decide_eq_true (by kernel_rfl)) (by unfold Func.isWrapper; first | (rw [if_pos (by decide +kernel)]; kernel_rfl) | (rw [if_neg (by decide +kernel)]; exact ⟨rfl, rfl⟩))
    (fun os started H enc _ => lifted os started H enc)

/-- The given statement. -/
theorem proved : Rows.CommitReadersSaid :=
  over
#print axioms proved
end Go.Proofs.YtmickhoededbcaaGreat.commitReaders
