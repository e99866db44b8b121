/- DurableBootMatchesSpec: for every valid layout, every valid device of at most 600 sectors and 60 writes, at most 40 initial values and every location, Boot and Last return what the specification says. No condition. -/
import Derived.Test.YtfhmdlihnidjoaaRows
import Derived.Test.YtfhmdlihnidjoaaPd2
import Derived.Test.YtfhmdlihnidjoaaPd14
import Derived.Test.YtfhmdlihnidjoaaPd22
import Derived.WalkKit
import Derived.ProofKit
import Derived.OpenShut
import Derived.Lib.Hide
import Derived.Carry
namespace Go.Proofs.Ytfhmdlihnidjoaa.durableBootMatchesSpec
open Go.ChangeShapes Go.WideShapes Go.ChangeAt Go.RowKit
set_option linter.unusedVariables false

theorem walk (w : World) (L : Ly) (zs : List Int) (fv : Value) (k : Dk) (loc : Int) (hfi : HasIn w fv zs) (hki : DkIn w k) (hcp : k.sl ≤ k.sc) : Calls Try.prog 3 #[.agg #[.int .i64 L.c.t, .int .i64 L.c.l, .int .i64 L.c.k, .int .i64 L.c.s, .int .i64 L.c.m, .int .i64 L.clock, .int .i64 L.stamps, .int .i64 L.log, .int .i64 L.fin, .int .i64 L.thread, .int .i64 L.lock, .int .i64 L.loc, .int .i64 L.size, fv, .slice k.sa k.sl k.sc, .slice k.ta k.tl k.tc, .int .i64 loc]] w fun e w' => e = .returned (.bool true) ∧ Below w.heap.size w w' := by
  obtain ⟨sa, sl, sc, ta, tl, tc, b, o, cc, p, S, W⟩ := k
  obtain ⟨hg, hA, hB⟩ := hki
  obtain rfl : S.length = sl := hg.hS
  obtain rfl : W.length = tl := hg.hW
  obtain ⟨fa, fc, rfl, hfx⟩ := hfi
  rcases hfx with h0 | ⟨fb, fo, h1, h2⟩
  · exact bi_all w L zs fa fc 0 0 (Or.inl h0) sa sc ta tc b o cc p S W hg hcp loc (fun j hj => by omega) hA hB
  · exact bi_all w L zs fa fc fb fo (Or.inr h1) sa sc ta tc b o cc p S W hg hcp loc h2 hA hB

theorem own : ownKnob Try.prog.godebug = none := by kernel_rfl
theorem laidOut : laidOutB Try.prog = true := by kernel_rfl

set_option maxRecDepth 100000 in
theorem lifted (os : Os) (started : os.Started) (H : Type) (enc : TypeId × Value → H) :
    ReturnsInHanded {} Try.checked os 3 .any (Rows.durableBootMatchesSpecSpec.pre6 enc Try.prog Try.f3 Rows.durableBootMatchesSpecRow.domain false) (Rows.durableBootMatchesSpecSpec.post enc Try.prog Try.f3 false true false false) := by
  refine returnsInHanded_of_change (C := Try.checked) own started (by kernel_rfl) Try.func3
    (ChangeSpec.witness6 (enc := enc) (C := Try.checked) false ⟨#[], #[.agg #[.int .i64 0, .int .i64 0, .int .i64 0, .int .i64 0, .int .i64 0, .int .i64 0, .int .i64 0, .int .i64 0, .int .i64 0, .int .i64 0, .int .i64 0, .int .i64 0, .int .i64 0, .slice none 0 0, .slice none 0 0, .slice none 0 0, .int .i64 0]], []⟩ 8 (by kernel_rfl) (by kernel_rfl) (by kernel_rfl) (by kernel_rfl)) ?_
  intro W base args ds gs before hval0 hW hcnd _
  have hval : ∀ (j : Nat) t v, Try.f3.params[j]? = some t → args[j]? = some v → Value.okWide Try.prog W .any base t v := hval0
  have hW' := hW
  obtain ⟨p, q, hA0, hV, rfl, hfz, hnd⟩ := hW
  have hA : DataW.TrodAll enc Try.prog W 0 (fun _ => true) true Try.f3.params.toList args.toList ds p := hA0
  rw [Try.params3] at hA hval
  obtain ⟨v0, vs0, d0, ds0, p0, q0, hargs, rfl, rfl, h0, r0⟩ := trodAll_cons hA
  obtain ⟨rfl, rfl, rfl⟩ := trodAll_nil r0
  obtain rfl : args = #[v0] := by cases args; simp_all
  obtain ⟨rfl, rfl⟩ := trodVars_none hV
  clear hA0 hval0
  simp only [List.append_nil] at hW'
  have lt0 : ∀ x ∈ p0, x.block < W.heap.size := fun x hx => hW'.lt x (by simp [hx])
  have back0 : ∀ W', Below W.heap.size W W' → DataW.Trod enc Try.prog W' 0 (fun b => decide (b < W.heap.size)) true 32 v0 d0 p0 := fun W' hb => Below.trod laidOut (by kernel_rfl) (of_decide_eq_true (by kernel_rfl)) h0 hb lt0
  obtain ⟨L, zs, fv, dk, loc, rfl, hfi, hki, hcp⟩ := open_bi (hval 0 32 v0 rfl rfl) h0
  refine (walk W L zs fv dk loc hfi hki hcp).mono fun e W' ⟨he, hg⟩ => ?_
  subst he
  exact ⟨_, rfl, _, _, _, [], _, [], hW', (trodAll_cons_mk (shut_bool Try.underlying4 _) trodAll_mk0), (trodAll_cons_mk (back0 _ hg) trodAll_mk0), rfl, hg.frame _, fun h => by cases h⟩

theorem over : Rows.durableBootMatchesSpecRow.holds Try.pinned (OpenSpec.ofChange Rows.durableBootMatchesSpecSpec) :=
  OpenClaim.holds_of_wide 3 Try.f3 rfl rfl rfl rfl rfl rfl rfl ⟨rfl, rfl, rfl, rfl, rfl⟩ rfl rfl rfl rfl rfl (by kernel_rfl) Try.func3 (by kernel_rfl)
    (of_decide_eq_true (by kernel_rfl)) (by unfold Func.isWrapper; first | (rw [if_pos (by decide +kernel)]; kernel_rfl) | (rw [if_neg (by decide +kernel)]; exact ⟨rfl, rfl⟩))
    (fun os started H enc _ => lifted os started H enc)

/-- The given statement. -/
theorem proved : Rows.DurableBootMatchesSpecSaid :=
  over
#print axioms proved
end Go.Proofs.Ytfhmdlihnidjoaa.durableBootMatchesSpec
