/- ViewMatchesSpec: for every valid layout, every thread, every operation with at most 30 earlier reads and every log of at most 200 results, Next returns what the reference implementation returns (and the example of the documentation holds). No condition. -/
import Derived.Test.YtfahnmpcclhjlaaGreatRows
import Derived.Test.YtfahnmpcclhjlaaGreatPv3
import Derived.Test.YtfahnmpcclhjlaaGreatPv15
import Derived.Test.YtfahnmpcclhjlaaGreatPv16
import Derived.WalkKit
import Derived.ProofKit
import Derived.OpenShut
import Derived.Lib.Hide
import Derived.Carry
namespace Go.Proofs.YtfahnmpcclhjlaaGreat.viewMatchesSpec
open Go.ChangeShapes Go.WideShapes Go.ChangeAt Go.RowKit
set_option linter.unusedVariables false

theorem walk (w : World) (L : Ly) (me k a bb ty ms mk ma : Int) (sa wa da : Option Addr) (sl sc wl wc dl dc : Nat) (lv : Value) (l : List (Int × Bool)) (hlg : LogQ w lv l) (hI : ∀ x ∈ l, I64 x.1) (ha : I64 a) (Q : List (Int × Int × Int)) (hQ : SeenQ w sa sl Q) : Calls Tryz.prog 3 #[.agg #[.int .i64 L.c.t, .int .i64 L.c.l, .int .i64 L.c.k, .int .i64 L.c.s, .int .i64 L.c.m, .int .i64 L.clock, .int .i64 L.stamps, .int .i64 L.log, .int .i64 L.fin, .int .i64 L.thread, .int .i64 L.lock, .int .i64 L.loc, .int .i64 L.size, .int .i64 me, .int .i64 k, .int .i64 a, .int .i64 bb, .int .i64 ty, .int .i64 ms, .int .i64 mk, .int .i64 ma, .slice sa sl sc, .slice wa wl wc, .slice da dl dc, lv]] w fun e w' => e = .returned (.bool true) ∧ Below w.heap.size w w' := by
  have hw : LogOf w lv l := hlg
  obtain ⟨la, lc, rfl, _⟩ := hlg
  obtain ⟨hl, hq⟩ := hQ
  rcases hq with h0 | ⟨b, o, e, hq⟩
  · exact vw_all w L me k a bb ty ms mk ma sa wa da sl sc wl wc dl dc la lc l hw hI 0 0 Q hl (Or.inl h0) (fun j hj => by omega)
  · exact vw_all w L me k a bb ty ms mk ma sa wa da sl sc wl wc dl dc la lc l hw hI b o Q hl (Or.inr e) (fun j hj => hq j (by omega))

theorem own : ownKnob Tryz.prog.godebug = none := by kernel_rfl
theorem laidOut : laidOutB Tryz.prog = true := by kernel_rfl

set_option maxRecDepth 100000 in
theorem lifted (os : Os) (started : os.Started) (H : Type) (enc : TypeId × Value → H) :
    ReturnsInHanded {} Tryz.checked os 3 .any (Rows.viewMatchesSpecSpec.pre6 enc Tryz.prog Tryz.f3 Rows.viewMatchesSpecRow.domain false) (Rows.viewMatchesSpecSpec.post enc Tryz.prog Tryz.f3 false true false false) := by
  refine returnsInHanded_of_change (C := Tryz.checked) own started (by kernel_rfl) Tryz.func3
    (ChangeSpec.witness6 (enc := enc) (C := Tryz.checked) false ⟨#[], #[.agg #[.int .i64 0, .int .i64 0, .int .i64 0, .int .i64 0, .int .i64 0, .int .i64 0, .int .i64 0, .int .i64 0, .int .i64 0, .int .i64 0, .int .i64 0, .int .i64 0, .int .i64 0, .int .i64 0, .int .i64 0, .int .i64 0, .int .i64 0, .int .i64 0, .int .i64 0, .int .i64 0, .int .i64 0, .slice none 0 0, .slice none 0 0, .slice none 0 0, .slice none 0 0]], []⟩ 8 (by kernel_rfl) (by kernel_rfl) (by kernel_rfl) (by kernel_rfl)) ?_
  intro W base args ds gs before hval0 hW hcnd _
  have hval : ∀ (j : Nat) t v, Tryz.f3.params[j]? = some t → args[j]? = some v → Value.okWide Tryz.prog W .any base t v := hval0
  have hW' := hW
  obtain ⟨p, q, hA0, hV, rfl, hfz, hnd⟩ := hW
  have hA : DataW.TrodAll enc Tryz.prog W 0 (fun _ => true) true Tryz.f3.params.toList args.toList ds p := hA0
  rw [Tryz.params3] at hA hval
  obtain ⟨v0, vs0, d0, ds0, p0, q0, hargs, rfl, rfl, h0, r0⟩ := trodAll_cons hA
  obtain ⟨rfl, rfl, rfl⟩ := trodAll_nil r0
  obtain rfl : args = #[v0] := by cases args; simp_all
  obtain ⟨rfl, rfl⟩ := trodVars_none hV
  clear hA0 hval0
  simp only [List.append_nil] at hW'
  have lt0 : ∀ x ∈ p0, x.block < W.heap.size := fun x hx => hW'.lt x (by simp [hx])
  have back0 : ∀ W', Below W.heap.size W W' → DataW.Trod enc Tryz.prog W' 0 (fun b => decide (b < W.heap.size)) true 35 v0 d0 p0 := fun W' hb => Below.trod laidOut (by kernel_rfl) (of_decide_eq_true (by kernel_rfl)) h0 hb lt0
  obtain ⟨L, me, k, a, b, ty, ms, mk, ma, sa, wa, da, sl, sc, wl, wc, dl, dc, lv, l, rfl, hlg, hlI, hia, Qs, hQs⟩ := open_vw (hval 0 35 v0 rfl rfl) h0
  refine (walk W L me k a b ty ms mk ma sa wa da sl sc wl wc dl dc lv l hlg hlI hia Qs hQs).mono fun e W' ⟨he, hg⟩ => ?_
  subst he
  exact ⟨_, rfl, _, _, _, [], _, [], hW', (trodAll_cons_mk (shut_bool Tryz.underlying4 _) trodAll_mk0), (trodAll_cons_mk (back0 _ hg) trodAll_mk0), rfl, hg.frame _, fun h => by cases h⟩

theorem over : Rows.viewMatchesSpecRow.holds Tryz.pinned (OpenSpec.ofChange Rows.viewMatchesSpecSpec) :=
  OpenClaim.holds_of_wide 3 Tryz.f3 rfl rfl rfl rfl rfl rfl rfl ⟨rfl, rfl, rfl, rfl, rfl⟩ rfl rfl rfl rfl rfl (by kernel_rfl) Tryz.func3 (by kernel_rfl)
    (of_decide_eq_true (by kernel_rfl)) (by unfold Func.isWrapper; first | (rw [if_pos (by decide +kernel)]; kernel_rfl) | (rw [if_neg (by decide +kernel)]; exact ⟨rfl, rfl⟩))
    (fun os started H enc _ => lifted os started H enc)

/-- The given statement. -/
theorem proved : Rows.ViewMatchesSpecSaid :=
  over
#print axioms proved
end Go.Proofs.YtfahnmpcclhjlaaGreat.viewMatchesSpec
