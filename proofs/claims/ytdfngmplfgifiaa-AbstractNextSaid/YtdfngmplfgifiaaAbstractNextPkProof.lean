/- AbstractNext: for every operation on an abstract lock and every log of results, Next returns the access or the outcome that the reference implementation returns (and the example of the documentation holds). No condition. -/
import Derived.Test.YtdfngmplfgifiaaRows
import Derived.Test.YtdfngmplfgifiaaPk1
import Derived.Test.YtdfngmplfgifiaaPk3
import Derived.Test.YtdfngmplfgifiaaPk18
import Derived.WalkKit
import Derived.ProofKit
import Derived.OpenShut
import Derived.Lib.Hide
import Derived.Carry
namespace Go.Proofs.Ytdfngmplfgifiaa.abstractNext
open Go.ChangeShapes Go.WideShapes Go.ChangeAt Go.RowKit
set_option linter.unusedVariables false

theorem u8_in {q : Int} (h : (Lit.int .u8 q).wf = true) : 0 ≤ q ∧ q ≤ 255 := by
  simp only [Lit.wf, IntKind.min, IntKind.max, IntKind.signed, IntKind.bits, Bool.and_eq_true] at h
  simpa using h
theorem walk (w : World) (q : Int) (hq : (Lit.int .u8 q).wf = true) (p : Int) (hp : (Lit.int .u8 p).wf = true) (k a b t s kr ab : Int) (sa wa da : Option Addr) (sl sc wl wc dl dc : Nat) (g1 : I64 k) (g2 : I64 a) (g3 : I64 b) (g4 : I64 t) (g5 : I64 s) (g6 : I64 kr) (g7 : I64 ab) (v : Value) (l : List (Int × Bool)) (hv : LogQ w v l) (hI : ∀ x ∈ l, I64 x.1) : Calls Try.prog 7 #[.int .u8 q, .int .u8 p, .agg #[.int .i64 k, .int .i64 a, .int .i64 b, .int .i64 t, .int .i64 s, .int .i64 kr, .int .i64 ab, .slice sa sl sc, .slice wa wl wc, .slice da dl dc], v] w fun e w' => e = .returned (.bool true) ∧ Below w.heap.size w w' :=
  absnext_all w q p (u8_in hq) (u8_in hp) k a b t s kr ab sa wa da sl sc wl wc dl dc v l hv hI

theorem own : ownKnob Try.prog.godebug = none := by kernel_rfl
theorem laidOut : laidOutB Try.prog = true := by kernel_rfl

set_option maxRecDepth 100000 in
theorem lifted (os : Os) (started : os.Started) (H : Type) (enc : TypeId × Value → H) :
    ReturnsInHanded {} Try.checked os 7 .any (Rows.abstractNextSpec.pre6 enc Try.prog Try.f7 Rows.abstractNextRow.domain false) (Rows.abstractNextSpec.post enc Try.prog Try.f7 false true false false) := by
  refine returnsInHanded_of_change (C := Try.checked) own started (by kernel_rfl) Try.func7
    (ChangeSpec.witness6 (enc := enc) (C := Try.checked) false ⟨#[], #[.int .u8 0, .int .u8 0, .agg #[.int .i64 0, .int .i64 0, .int .i64 0, .int .i64 0, .int .i64 0, .int .i64 0, .int .i64 0, .slice none 0 0, .slice none 0 0, .slice none 0 0], .slice none 0 0], []⟩ 8 (by kernel_rfl) (by kernel_rfl) (by kernel_rfl) (by kernel_rfl)) ?_
  intro W base args ds gs before hval0 hW hcnd _
  have hval : ∀ (j : Nat) t v, Try.f7.params[j]? = some t → args[j]? = some v → Value.okWide Try.prog W .any base t v := hval0
  have hW' := hW
  obtain ⟨p, q, hA0, hV, rfl, hfz, hnd⟩ := hW
  have hA : DataW.TrodAll enc Try.prog W 0 (fun _ => true) true Try.f7.params.toList args.toList ds p := hA0
  rw [Try.params7] at hA hval
  obtain ⟨v0, vs0, d0, ds0, p0, q0, hargs, rfl, rfl, h0, r0⟩ := trodAll_cons hA
  obtain ⟨v1, vs1, d1, ds1, p1, q1, rfl, rfl, rfl, h1, r1⟩ := trodAll_cons r0
  obtain ⟨v2, vs2, d2, ds2, p2, q2, rfl, rfl, rfl, h2, r2⟩ := trodAll_cons r1
  obtain ⟨v3, vs3, d3, ds3, p3, q3, rfl, rfl, rfl, h3, r3⟩ := trodAll_cons r2
  obtain ⟨rfl, rfl, rfl⟩ := trodAll_nil r3
  obtain rfl : args = #[v0, v1, v2, v3] := by cases args; simp_all
  obtain ⟨rfl, rfl⟩ := trodVars_none hV
  clear hA0 hval0
  simp only [List.append_nil] at hW'
  have lt0 : ∀ x ∈ p0, x.block < W.heap.size := fun x hx => hW'.lt x (by simp [hx])
  have lt1 : ∀ x ∈ p1, x.block < W.heap.size := fun x hx => hW'.lt x (by simp [hx])
  have lt2 : ∀ x ∈ p2, x.block < W.heap.size := fun x hx => hW'.lt x (by simp [hx])
  have lt3 : ∀ x ∈ p3, x.block < W.heap.size := fun x hx => hW'.lt x (by simp [hx])
  have back0 : ∀ W', Below W.heap.size W W' → DataW.Trod enc Try.prog W' 0 (fun b => decide (b < W.heap.size)) true 5 v0 d0 p0 := fun W' hb => Below.trod laidOut (by kernel_rfl) (of_decide_eq_true (by kernel_rfl)) h0 hb lt0
  have back1 : ∀ W', Below W.heap.size W W' → DataW.Trod enc Try.prog W' 0 (fun b => decide (b < W.heap.size)) true 5 v1 d1 p1 := fun W' hb => Below.trod laidOut (by kernel_rfl) (of_decide_eq_true (by kernel_rfl)) h1 hb lt1
  have back2 : ∀ W', Below W.heap.size W W' → DataW.Trod enc Try.prog W' 0 (fun b => decide (b < W.heap.size)) true 32 v2 d2 p2 := fun W' hb => Below.trod laidOut (by kernel_rfl) (of_decide_eq_true (by kernel_rfl)) h2 hb lt2
  have back3 : ∀ W', Below W.heap.size W W' → DataW.Trod enc Try.prog W' 0 (fun b => decide (b < W.heap.size)) true 33 v3 d3 p3 := fun W' hb => Below.trod laidOut (by kernel_rfl) (of_decide_eq_true (by kernel_rfl)) h3 hb lt3
  obtain ⟨a0, rfl, rfl, rfl, w0⟩ := open_int Try.underlying5 (hval 0 5 v0 rfl rfl) h0
  obtain ⟨a1, rfl, rfl, rfl, w1⟩ := open_int Try.underlying5 (hval 1 5 v1 rfl rfl) h1
  obtain ⟨ok2, oa2, ob2, oy2, os2, or2, om2, sa2, wa2, da2, sl2, sc2, wl2, wc2, dl2, dc2, rfl, xa2, xb2, xc2, xd2, xe2, xf2, xg2⟩ := open_opq (hval 2 32 v2 rfl rfl) h2
  obtain ⟨l3, k3, y3⟩ := open_ressq (hval 3 33 v3 rfl rfl) h3
  refine (walk W a0 w0 a1 w1 ok2 oa2 ob2 oy2 os2 or2 om2 sa2 wa2 da2 sl2 sc2 wl2 wc2 dl2 dc2 xa2 xb2 xc2 xd2 xe2 xf2 xg2 v3 l3 k3 y3).mono fun e W' ⟨he, hg⟩ => ?_
  subst he
  exact ⟨_, rfl, _, _, _, [], _, [], hW', (trodAll_cons_mk (shut_bool Try.underlying4 _) trodAll_mk0), (trodAll_cons_mk (back0 _ hg) (trodAll_cons_mk (back1 _ hg) (trodAll_cons_mk (back2 _ hg) (trodAll_cons_mk (back3 _ hg) trodAll_mk0)))), rfl, hg.frame _, fun h => by cases h⟩

theorem over : Rows.abstractNextRow.holds Try.pinned (OpenSpec.ofChange Rows.abstractNextSpec) :=
  OpenClaim.holds_of_wide 7 Try.f7 rfl rfl rfl rfl rfl rfl rfl ⟨rfl, rfl, rfl, rfl, rfl⟩ rfl rfl rfl rfl rfl (by kernel_rfl) Try.func7 (by kernel_rfl)
    (of_decide_eq_true (by kernel_rfl)) (by unfold Func.isWrapper; first | (rw [if_pos (by decide +kernel)]; kernel_rfl) | (rw [if_neg (by decide +kernel)]; exact ⟨rfl, rfl⟩))
    (fun os started H enc _ => lifted os started H enc)

/-- The given statement. -/
theorem proved : Rows.AbstractNextSaid :=
  over
#print axioms proved
end Go.Proofs.Ytdfngmplfgifiaa.abstractNext
