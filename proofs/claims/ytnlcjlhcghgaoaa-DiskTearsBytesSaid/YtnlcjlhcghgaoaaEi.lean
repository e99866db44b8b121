
/-
  Runs by computation: calls, deferred calls, and the whole.
-/
import Derived.Test.YtnlcjlhcghgaoaaEh
namespace Go.Proofs.Ytnlcjlhcghgaoaa.EX
open Go Go.RowKit
set_option linter.unusedVariables false
set_option linter.unusedSimpArgs false
set_option linter.unusedSectionVars false
set_option maxRecDepth 10000
variable [FC]

section
variable {P : Program} {kn : KnG} {dr : Dr} {ih : Job → St → Option Ou} {w0 : World} {F : List RF} {B : Pl} {S : Nat → Prop} {a : Act} {w : World} {st : St} {o : Ou} {fr : Fr}
/-- What is said to be known is so. -/
def KnGOk (P : Program) (kn : KnG) : Prop := ∀ f args st o, kn f args st = some o → Spec P (.call f args) st o
theorem gk_ok {P : Program} {kn : Kn} (hkn : KnOk P kn) : KnGOk P (gk kn) := by
  intro f args st o h
  unfold gk at h
  split at h
  · rename_i v cs hk0
    simp only [Option.some.injEq] at h
    subst h
    obtain ⟨h1, h2⟩ := hkn f args v cs hk0
    refine ⟨⟨⟨cs, rfl⟩, Fm.refl _⟩, trivial, fun tr w0 F B S w hS R hargs => (h2 (fun q hq => tr q (List.mem_append_left _ hq)) B w).mono ?_⟩
    rintro e w' ⟨rfl, hb⟩
    exact ⟨B, Ag.refl _ _ _, Nat.le_refl _, by rw [ext_self]; exact R.below hb, rfl, bd_mono (fun _ h => h.elim) h1⟩
  · cases h
theorem step_call (hkn : KnGOk P kn) (hih : SpecAll P ih) {f : FuncId} {args : List SV} (h : stepJ P kn dr ih (.call f args) st = some o) : Spec P (.call f args) st o := by
  unfold stepJ at h
  simp only at h
  cases hk0 : kn f args st with
  | some q =>
   rw [hk0] at h
   simp only [Option.some.injEq] at h
   subst h
   exact hkn f args st _ hk0
  | none =>
  rw [hk0] at h
  simp only at h
  cases hf : P.funcs[f]? with
  | none => rw [hf] at h; cases h
  | some fn =>
    rw [hf] at h
    simp only at h
    cases hb : fn.body with
    | none => rw [hb] at h; cases h
    | some c =>
      rw [hb] at h
      simp only at h
      split at h
      · rename_i fr u st' h1
        have s1 := hih _ _ _ h1
        have s2 := hih _ _ _ h
        refine ⟨s1.1.trans s2.1, trivial, fun tr w0 F B S w hS R hargs => ?_⟩
        refine calls_of_wp_defers hf hb ?_
        have hk : RunKind (fr0 f fn args) ⟨.fr fr u, st'⟩ := s1.2.1
        have leave : ∀ B' a' w', fr.f = f → Ag st.m.nx st'.m.nx B B' → st.m.nx ≤ st'.m.nx → Re w0 F B' st'.m.K.get (ext S st.m.nx st'.m.nx) w' → Rf B' fr (ext S st.m.nx st'.m.nx) a' → bdM (ext S st.m.nx st'.m.nx) u → Leaves P fn a'.tmps (CallFin st o w0 F B S) a'.defers (denM B' u) w' := by
          intro B' a' w' hff g1 g2 g3 g4 g5
          refine s2.2.2 tr w0 F B' _ a' w' _ fn (by rw [hff]; exact hf) (ext_lt hS g2) g3 g4 g5 ?_
          intro B2 w2 e q1 q2 q3 q4
          rw [ext_ext g2 q2] at q3 q4
          exact ⟨B2, g1.trans q1 g2 q2, Nat.le_trans g2 q2, q3, q4⟩
        refine s1.2.2 (s2.1.tru tr) w0 F B S _ w _ hS R (fr0_ok hargs) ?_
        intro B' a' w' g1 g2 g3
        cases u with
        | ret => exact fun g4 => ⟨leave B' a' w' hk g1 g2 g3 g4 trivial, leave B' a' w' hk g1 g2 g3 g4 trivial⟩
        | pan x => exact fun g4 g5 => leave B' a' w' hk g1 g2 g3 g4 g5
        | rcv x => trivial
      · cases h
theorem chn_tail (B : Pl) (l : List SV) : ((denL B l).map fun v => ent v true).dropWhile (fun e => !e.goexit) = [] := by
  induction denL B l with
  | nil => rfl
  | cons v l ih => simp only [List.map_cons, List.dropWhile, ent, Bool.not_false] at ih ⊢; exact ih
theorem settle_den (B : Pl) (u : Md) : settle (denM B u) = denM B (settleM u) := by
  cases u with
  | ret => rfl
  | pan x => rfl
  | rcv x =>
    have := chn_tail B (tlP x)
    simp only [denM, chn, settle, ent, settleM] at this ⊢
    rw [this]
theorem step_leave (hih : SpecAll P ih) {u : Md} (h : stepJ P kn dr ih (.leave fr u) st = some o) : Spec P (.leave fr u) st o := by
  unfold stepJ at h
  simp only at h
  cases hD : fr.D with
  | nil =>
    rw [hD] at h
    cases u with
    | ret =>
      simp only at h
      cases hf : P.funcs[fr.f]? with
      | none => rw [hf] at h; cases h
      | some fn =>
        rw [hf] at h
        simp only at h
        cases hr : resE P fr.T st.m.K fn.results.toList with
        | none => rw [hr] at h; cases h
        | some ys =>
          rw [hr] at h
          simp only [Option.some.injEq] at h
          subst h
          refine ⟨Sfx.refl _, trivial, fun tr w0 F B S a w R fn' hf' hS Rr A hu hR => ?_⟩
          rw [hf] at hf'; simp only [Option.some.injEq] at hf'; subst hf'
          rw [A.df, hD]
          obtain ⟨h1, h2⟩ := resE_run Rr A.ra hr
          exact ⟨_, h1, hR B w _ (Ag.refl _ _ _) (Nat.le_refl _) (by rw [ext_self]; exact Rr) ⟨rfl, by rw [ext_self]; exact h2⟩⟩
    | pan x =>
      simp only [Option.some.injEq] at h
      subst h
      refine ⟨Sfx.refl _, trivial, fun tr w0 F B S a w R fn' hf' hS Rr A hu hR => ?_⟩
      rw [A.df, hD]
      exact hR B w _ (Ag.refl _ _ _) (Nat.le_refl _) (by rw [ext_self]; exact Rr) ⟨rfl, by rw [ext_self]; exact hu⟩
    | rcv x => cases h
  | cons d ds =>
    rw [hD] at h
    simp only at h
    cases he : SX.entersB P d.fn with
    | false => rw [he] at h; cases h
    | true =>
      rw [he] at h
      simp only at h
      split at h
      · rename_i u' st' h1
        have s1 := hih _ _ _ h1
        have s2 := hih _ _ _ h
        refine ⟨s1.1.trans s2.1, trivial, fun tr w0 F B S a w R fn hf hS Rr A hu hR => ?_⟩
        rw [A.df, hD]
        have hd : bdD S d := A.db d (by rw [hD]; simp)
        refine ⟨by cases u <;> simp [denM], .func d.fn, (denL B d.caps).toArray, d.fn, (denL B (d.args ++ d.caps)).toArray, rfl, ?_, ?_⟩
        · have e : (denL B d.args).toArray ++ (denL B d.caps).toArray = (denL B (d.args ++ d.caps)).toArray := by rw [denL_append]; simp
          show (callFunc d.fn ((denL B d.args).toArray ++ (denL B d.caps).toArray)).run P w = _
          rw [e]
          exact SX.entersB_run he _ w
        · refine (s1.2.2 (s2.1.tru tr) w0 F B S w hS Rr (bdL_append.2 hd) hu).mono ?_
          rintro e u2 w' ⟨B', g1, g2, g3, g4, g5⟩
          have A2 : Rf B' ⟨fr.f, fr.n, fr.T, ds⟩ (ext S st.m.nx st'.m.nx) { a with defers := ds.map (denD B') } :=
            ⟨⟨A.ra.sz, (A.ra.ag (g1.on hS) ext_sub).tm⟩, rfl, fun d' hd' => by
              have := A.db d' (by rw [hD]; exact List.mem_cons_of_mem _ hd')
              exact ⟨bdL_mono ext_sub this.1, bdL_mono ext_sub this.2⟩⟩
          have hds : List.map (denD B) ds = List.map (denD B') ds := List.map_congr_left fun d' hd' => (denD_ag (g1.on hS) (A.db d' (by rw [hD]; exact List.mem_cons_of_mem _ hd'))).symm
          have key : Leaves P fn a.tmps R (List.map (denD B) ds) (denM B' (settleM u')) w' := by
            rw [hds]
            refine s2.2.2 tr w0 F B' _ { a with defers := ds.map (denD B') } w' R fn hf (ext_lt hS g2) g3 A2 (by cases u' <;> first | trivial | exact g5) ?_
            intro B2 w2 e q1 q2 q3 q4
            rw [ext_ext g2 q2] at q3 q4
            exact hR B2 w2 e (g1.trans q1 g2 q2) (Nat.le_trans g2 q2) q3 q4
          rcases g4 with ⟨⟨v, rfl⟩, rfl⟩ | ⟨ch, rfl, hra, hse⟩
          · show Leaves P fn a.tmps R (List.map (denD B) ds) (settle (denM B' u')) w'
            rw [settle_den]
            exact key
          · show Leaves P fn a.tmps R (List.map (denD B) ds) (raised u2 ch) w'
            rw [hra, ← hse]
            exact key
      · cases h
/-- The operations of a region in which a panic may be recovered. -/
theorem dops_ok (hih : SpecAll P ih) {n : Nat} {ops : Array Oper} : ∀ (l : List Nat) {T T' : Tr SV} {st st' : St} {u u' : Md}, dops P ih n ops l T st u = some (T', st', u') → Sfx st st' ∧ (Tru st'.cnd → ∀ w0 F B S a w (c₀ : Frame) (cs : List Frame) (Q : Exit → Act → List Frame → World → Prop),
    (∀ j, S j → j < st.m.nx) → Re w0 F B st.m.K.get S w → Ra B T.get n S a → a.defers = [] → bdM S u →
    (∀ B' a' w', Ag st.m.nx st'.m.nx B B' → st.m.nx ≤ st'.m.nx → Re w0 F B' st'.m.K.get (ext S st.m.nx st'.m.nx) w' → Ra B' T'.get n (ext S st.m.nx st'.m.nx) a' → a'.defers = [] → bdM (ext S st.m.nx st'.m.nx) u' → Q .normal a' ({ c₀ with mode := denM B' u' } :: cs) w') →
    wpOpsS P ops Q l a ({ c₀ with mode := denM B u } :: cs) w)
  | [], T, T', st, st', u, u', h => by
    simp only [dops, Option.some.injEq, Prod.mk.injEq] at h
    obtain ⟨rfl, rfl, rfl⟩ := h
    exact ⟨Sfx.refl _, fun tr w0 F B S a w c₀ cs Q hS R A hd hu hQ => hQ B a w (Ag.refl _ _ _) (Nat.le_refl _) (by rw [ext_self]; exact R) (by rw [ext_self]; exact A) hd (by rw [ext_self]; exact hu)⟩
  | i :: l, T, T', st, st', u, u', h => by
    simp only [dops] at h
    cases ho : ops[i]? with
    | none =>
      rw [ho] at h
      obtain ⟨h1, h2⟩ := dops_ok hih l h
      refine ⟨h1, fun tr w0 F B S a w c₀ cs Q hS R A hd hu hQ => ?_⟩
      simp only [wpOpsS, ho]
      exact h2 tr w0 F B S a w c₀ cs Q hS R A hd hu hQ
    | some op =>
      rw [ho] at h
      simp only at h
      cases hw : wantE n T ops op st with
      | none => rw [hw] at h; cases h
      | some q =>
        obtain ⟨b, T1, st1⟩ := q
        rw [hw] at h
        obtain ⟨hm1, hsf1, hwant⟩ := wantE_ok hw
        cases b with
        | false =>
          simp only at h
          obtain ⟨h1, h2⟩ := dops_ok hih l h
          refine ⟨hsf1.trans h1, fun tr w0 F B S a w c₀ cs Q hS R A hd hu hQ => ?_⟩
          obtain ⟨A1, hwa⟩ := hwant (h1.tru tr) B S a A
          simp only [wpOpsS, ho]
          rw [hwa]
          simp only [Bool.false_eq_true, if_false]
          have := h2 tr w0 F B S (a.put op.dst undef) w c₀ cs Q
          rw [hm1] at this
          exact this hS R (wantE_skip A1 op.dst) (by rw [← hd]; cases op.dst <;> rfl) hu hQ
        | true =>
          simp only at h
          split at h
          · rename_i args ats hop
            have run : ∀ (a : Act) (w : World), (execOp a.eval op).run P w = .ok .recover w := fun a w => by
              unfold execOp
              simp only [hop, resolve, Sem.run_bind, Sem.run_pure, Result.andThen_ok, invoke, builtin]
            split at h
            · rename_i x
              obtain ⟨h1, h2⟩ := dops_ok hih l h
              refine ⟨hsf1.trans h1, fun tr w0 F B S a w c₀ cs Q hS R A hd hu hQ => ?_⟩
              obtain ⟨A1, hwa⟩ := hwant (h1.tru tr) B S a A
              simp only [wpOpsS, ho]
              rw [hwa, if_pos rfl, run]
              simp only [recoverD, denM, chn, ent]
              have := h2 tr w0 F B S (a.put op.dst (den B (hdP x))) w c₀ cs Q
              rw [hm1] at this
              exact this hS R (A1.putT op.dst (hdP_bd hu)) (by rw [← hd]; cases op.dst <;> rfl) hu hQ
            · rename_i hne
              obtain ⟨h1, h2⟩ := dops_ok hih l h
              refine ⟨hsf1.trans h1, fun tr w0 F B S a w c₀ cs Q hS R A hd hu hQ => ?_⟩
              obtain ⟨A1, hwa⟩ := hwant (h1.tru tr) B S a A
              simp only [wpOpsS, ho]
              rw [hwa, if_pos rfl, run]
              have hrec : recoverD ({ c₀ with mode := denM B u } :: cs) = none := by
                cases u with
                | ret => rfl
                | pan x => exact absurd rfl (hne x)
                | rcv x => rfl
              simp only [hrec]
              have := h2 tr w0 F B S (a.put op.dst .nilIface) w c₀ cs Q
              rw [hm1] at this
              have A2 := A1.putT op.dst (x := .v .nilIface) (by simp [bd])
              simp only [den] at A2
              exact this hS R A2 (by rw [← hd]; cases op.dst <;> rfl) hu hQ
          · split at h
            · rename_i x st2 hr
              have hok := opR_sound hih hr
              obtain ⟨h1, h2⟩ := dops_ok hih l h
              refine ⟨(hsf1.trans hok.1).trans h1, fun tr w0 F B S a w c₀ cs Q hS R A hd hu hQ => ?_⟩
              have tr2 := h1.tru tr
              obtain ⟨A1, hwa⟩ := hwant (hok.1.tru tr2) B S a A
              have hwp := hok.2 tr2 w0 F B S a w (fun a' w' => wpOpsS P ops Q l a' ({ c₀ with mode := denM B u } :: cs) w') (fun e a' w' => Q e a' ({ c₀ with mode := denM B u } :: cs) w') (by rw [hm1]; exact hS) (by rw [hm1]; exact R) (rho_ok A1) (by
                intro B' w' g1 g2 g3 g4
                rw [hm1] at g1 g2 g3 g4
                have := h2 tr w0 F B' (ext S st.m.nx st2.m.nx) (a.put op.dst (den B' x)) w' c₀ cs Q (ext_lt hS g2) g3 ((A1.ag (g1.on hS) ext_sub).putT op.dst g4) (by rw [← hd]; cases op.dst <;> rfl) (by cases u <;> first | trivial | exact bd_mono ext_sub hu)
                have e : denM B' u = denM B u := denM_ag (g1.on hS) hu
                rw [e] at this
                refine this ?_
                intro B2 a2 w2 q1 q2 q3 q4 q5 q6
                rw [ext_ext g2 q2] at q3 q4 q6
                exact hQ B2 a2 w2 (g1.trans q1 g2 q2) (Nat.le_trans g2 q2) q3 q4 q5 q6)
              simp only [wpOpsS, ho]
              rw [hwa, if_pos rfl]
              unfold Oper.wp at hwp
              split
              · rename_i w' hrun
                rw [hrun] at hwp
                exact hwp.elim
              · exact hwp
            · cases h
theorem step_dcall (hih : SpecAll P ih) {f : FuncId} {args : List SV} {u : Md} (h : stepJ P kn dr ih (.dcall f args u) st = some o) : Spec P (.dcall f args u) st o := by
  unfold stepJ at h
  simp only at h
  cases hf : P.funcs[f]? with
  | none => rw [hf] at h; cases h
  | some fn =>
    rw [hf] at h
    simp only at h
    cases hb : fn.body with
    | none => rw [hb] at h; cases h
    | some c =>
      rw [hb] at h
      simp only at h
      have plain : ended P fn u (ih (.run (fr0 f fn args) [.code c]) st) = some o → Spec P (.dcall f args u) st o := by
        intro h
        obtain ⟨fr, st2, h1, hD, ⟨ys, hys⟩, rfl⟩ := ended_ok h
        have s1 := hih _ _ _ h1
        refine ⟨s1.1, trivial, fun tr w0 F B S w hS R hargs hu => ?_⟩
        have hc : c.wp P (bodyPost P fn fun e w' => ∃ B', Ag st.m.nx st2.m.nx B B' ∧ st.m.nx ≤ st2.m.nx ∧ Re w0 F B' st2.m.K.get (ext S st.m.nx st2.m.nx) w' ∧ ∃ v, e = .returned v) { tmps := (denL B args).toArray ++ Array.replicate (fn.ntmps - (denL B args).toArray.size) undef, defers := [] } w := by
          refine s1.2.2 tr w0 F B S _ w (bodyPost P fn _) hS R (fr0_ok hargs) ?_
          intro B' a' w' g1 g2 g3 g4
          obtain ⟨h1, h2⟩ := resE_run g3 g4.ra hys
          have hfin : a'.defers = [] ∧ ∃ v, (results fn a'.tmps).run P w' = .ok v w' ∧ (∃ B', Ag st.m.nx st2.m.nx B B' ∧ st.m.nx ≤ st2.m.nx ∧ Re w0 F B' st2.m.K.get (ext S st.m.nx st2.m.nx) w' ∧ ∃ v', Ending.returned v = .returned v') := ⟨by rw [g4.df, hD]; rfl, _, h1, ⟨B', g1, g2, g3, _, rfl⟩⟩
          exact ⟨hfin, hfin⟩
        refine (callsD_of_wp hf hb (u := denM B u) hc).mono ?_
        rintro e u' w' ⟨rfl, B', g1, g2, g3, v, rfl⟩
        exact ⟨B', g1, g2, g3, Or.inl ⟨⟨v, rfl⟩, (denM_ag (g1.on hS) hu).symm⟩, bdM_mono ext_sub hu⟩
      split at h
      · rename_i id ops rest
        cases hr : hasRec ops with
        | false => rw [hr] at h; exact plain h
        | true =>
          rw [hr] at h
          simp only at h
          split at h
          · rename_i T st1 u1 hd
            obtain ⟨d1, d2⟩ := dops_ok hih _ hd
            obtain ⟨fr, st2, hD, hcase⟩ := endedR_ok h
            have he : ∃ en, ih (.run ⟨f, (fr0 f fn args).n, T, []⟩ [.code rest]) st1 = some ⟨.fr fr en, st2⟩ ∧ o.st = st2 := by
              rcases hcase with ⟨h1, _, rfl⟩ | ⟨x, h1, ⟨y, _, rfl⟩ | ⟨_, rfl⟩⟩ <;> exact ⟨_, h1, rfl⟩
            obtain ⟨en, h1, hst⟩ := he
            have s1 := hih _ _ _ h1
            refine ⟨by rw [hst]; exact d1.trans s1.1, trivial, fun tr w0 F B S w hS R hargs hu => ?_⟩
            rw [hst] at tr
            refine callsD_of_wpS hf hb fun c₀ cs hm => ?_
            refine wpS_seq (wpS_region ?_)
            have hA := fr0_ok (B := B) (f := f) (fn := fn) hargs
            have e0 : c₀ = { c₀ with mode := denM B u } := by rw [← hm]
            rw [e0]
            refine d2 (s1.1.tru tr) w0 F B S _ w c₀ cs _ hS R hA.ra hA.df hu ?_
            intro B' a' w' g1 g2 g3 g4 g5 g6
            show rest.wpS P _ a' _ w'
            refine wpS_of_wp ?_
            have A2 : Rf B' ⟨f, (fr0 f fn args).n, T, []⟩ (ext S st.m.nx st1.m.nx) a' := ⟨g4, by rw [g5]; rfl, fun d hd => by cases hd⟩
            refine s1.2.2 tr w0 F B' _ a' w' _ (ext_lt hS g2) g3 A2 ?_
            intro B2 a2 w2 q1 q2 q3
            have hsub : ∀ j, ext S st.m.nx st1.m.nx j → ext S st.m.nx st2.m.nx j := fun j hj => by rw [← ext_ext g2 q2]; exact Or.inl hj
            have hu2 : denM B' u1 = denM B2 u1 := (denM_ag (q1.on (ext_lt hS g2)) g6).symm
            have hb2 : bdM (ext S st.m.nx st2.m.nx) u1 := bdM_mono hsub g6
            have q3' := q3
            rw [ext_ext g2 q2] at q3'
            rcases hcase with ⟨h1', ⟨ys, hys⟩, rfl⟩ | ⟨x, h1', hx⟩
            · rw [h1] at h1'
              simp only [Option.some.injEq, Ou.mk.injEq, En.fr.injEq, true_and, and_true] at h1'
              subst h1'
              intro q4
              obtain ⟨h1, h2⟩ := resE_run q3 q4.ra hys
              have : a2.defers = [] ∧ ∃ u', ({ c₀ with mode := denM B' u1 } :: cs) = { c₀ with mode := u' } :: cs ∧ ∃ v, (results fn a2.tmps).run P w2 = .ok v w2 ∧ (∃ B', Ag st.m.nx st2.m.nx B B' ∧ st.m.nx ≤ st2.m.nx ∧ Re w0 F B' st2.m.K.get (ext S st.m.nx st2.m.nx) w2 ∧ (((∃ v', Ending.returned v = .returned v') ∧ u' = denM B' u1 ∨ ∃ ch, Ending.returned v = .panicked ch ∧ raised u' ch = denM B' u1 ∧ settleM u1 = u1) ∧ bdM (ext S st.m.nx st2.m.nx) u1)) :=
                ⟨by rw [q4.df, hD]; rfl, denM B' u1, rfl, _, h1, B2, g1.trans q1 g2 q2, Nat.le_trans g2 q2, q3', Or.inl ⟨⟨_, rfl⟩, hu2⟩, hb2⟩
              exact ⟨this, this⟩
            · rw [h1] at h1'
              simp only [Option.some.injEq, Ou.mk.injEq, En.fr.injEq, true_and, and_true] at h1'
              subst h1'
              intro q4 q5
              rw [ext_ext g2 q2] at q5
              have fin : ∀ o2 : Md, raised (denM B2 u1) (chn B2 false x) = denM B2 o2 → settleM o2 = o2 → bdM (ext S st.m.nx st2.m.nx) o2 → a2.defers = [] ∧ ∃ u', ({ c₀ with mode := denM B' u1 } :: cs) = { c₀ with mode := u' } :: cs ∧ (∃ B', Ag st.m.nx st2.m.nx B B' ∧ st.m.nx ≤ st2.m.nx ∧ Re w0 F B' st2.m.K.get (ext S st.m.nx st2.m.nx) w2 ∧ (((∃ v', Ending.panicked (chn B2 false x) = .returned v') ∧ u' = denM B' o2 ∨ ∃ ch, Ending.panicked (chn B2 false x) = .panicked ch ∧ raised u' ch = denM B' o2 ∧ settleM o2 = o2) ∧ bdM (ext S st.m.nx st2.m.nx) o2)) := by
                intro o2 h1 h2 h3
                exact ⟨by rw [q4.df, hD]; rfl, denM B' u1, rfl, B2, g1.trans q1 g2 q2, Nat.le_trans g2 q2, q3', Or.inr ⟨_, rfl, by rw [hu2]; exact h1, h2⟩, h3⟩
              rcases hx with ⟨y, rfl, rfl⟩ | ⟨rfl, rfl⟩
              · exact fin (.pan (joinP x y)) (by simp only [denM, raised]; rw [chn_join]) rfl (joinP_bd q5 hb2)
              · exact fin (.pan x) rfl rfl q5
          · cases h
      · exact plain h
theorem stepJ_sound (hkn : KnGOk P kn) (hdr : DrOk P dr) (hih : SpecAll P ih) : SpecAll P (stepJ P kn dr ih) := by
  intro j st o h
  cases j with
  | call f args => exact step_call hkn hih h
  | run fr k => exact step_run hdr hih h
  | leave fr u => exact step_leave hih h
  | dcall f args u => exact step_dcall hih h
/-! ### Runs that stop on the way -/
/-- So many moves of a run, and no more: what it calls runs to its end. -/
def midJ (P : Program) (kn : KnG) (dr : Dr) (big : Job → St → Option Ou) (m : Nat) : Job → St → Option Ou :=
  Nat.rec (motive := fun _ => Job → St → Option Ou) (fun j st => match j with
    | .run fr k => some ⟨.mid fr k, st⟩
    | j => big j st) (fun _ ih j st => match j with
    | .run fr k => stepJ P kn dr ih (.run fr k) st
    | j => big j st) m
theorem midJ_sound (hkn : KnGOk P kn) (hdr : DrOk P dr) {big : Job → St → Option Ou} (hbig : SpecAll P big) : ∀ m, SpecAll P (midJ P kn dr big m)
  | 0 => fun j st o h => by
    cases j with
    | run fr k =>
      obtain rfl : (⟨.mid fr k, st⟩ : Ou) = o := Option.some.inj h
      refine ⟨Sfx.refl _, rfl, fun tr w0 F B S a w Q hS R A hf => ?_⟩
      have := hf B a w (Ag.refl _ _ _) (Nat.le_refl _) (by rw [ext_self]; exact R)
      simp only [ext_self] at this
      exact this A
    | call f args => exact hbig _ _ _ h
    | leave fr u => exact hbig _ _ _ h
    | dcall f args u => exact hbig _ _ _ h
  | m + 1 => fun j st o h => by
    cases j with
    | run fr k => exact stepJ_sound hkn hdr (midJ_sound hkn hdr hbig m) _ _ _ h
    | call f args => exact hbig _ _ _ h
    | leave fr u => exact hbig _ _ _ h
    | dcall f args u => exact hbig _ _ _ h
theorem goJ_sound (hkn : KnGOk P kn) (hdr : DrOk P dr) : ∀ n, SpecAll P (goJ P kn dr n)
  | 0 => fun j st o h => by cases h
  | n + 1 => stepJ_sound hkn hdr (goJ_sound hkn hdr n)
/-- A whole call: what is given to it speaks of no own variable. -/
theorem ex_call (hkn : KnGOk P kn) (hdr : DrOk P dr) (n : Nat) {f : FuncId} {args : List SV} {orc : List Value} {x : SV} {m : Mm} {orc' : List Value} {cnd : List (Value × Value)} {w : World}
    (h : goJ P kn dr n (.call f args) ⟨⟨.leaf, 0, []⟩, orc, []⟩ = some ⟨.ret x, ⟨m, orc', cnd⟩⟩) (hb : bdL (fun _ => False) args) (hc : Tru cnd) (hfc : FcAt w) :
    Calls P f (denL (fun _ => (0, 0)) args).toArray w fun e w' => ∃ B, e = .returned (den B x) ∧ Re w [] B m.K.get (fun j => j < m.nx) w' ∧ Below w.heap.size w w' := by
  have s := goJ_sound hkn hdr n _ _ _ h
  refine (s.2.2 hc w [] (fun _ => (0, 0)) (fun _ => False) w (fun _ h => h.elim) ⟨fun i k h => by simp [Tr.get_leaf] at h, fun i j ki kj h => by simp [Tr.get_leaf] at h, fun i k h => by simp [Tr.get_leaf] at h, fun f hf => by simp at hf, ⟨rfl, rfl, rfl, Nat.le_refl _, fun _ _ _ => rfl⟩, hfc⟩ hb).mono ?_
  rintro e w' ⟨B, g1, g2, g3, g4, g5⟩
  refine ⟨B, g4, ?_, ⟨g3.gr.1.os, g3.gr.1.tape, g3.gr.1.output, g3.gr.1.size, fun k hk => g3.gr.1.block k hk (by simp)⟩⟩
  have e : ext (fun _ => False) 0 m.nx = fun j => j < m.nx := by funext j; apply propext; simp [ext]
  simp only at g3
  rw [e] at g3
  exact g3
def knNone : Kn := fun _ _ => none
theorem knNone_ok {P : Program} : KnOk P knNone := fun _ _ _ _ h => by cases h
def drNone : Dr := fun _ _ _ _ _ => none
theorem drNone_ok : DrOk P drNone := fun ih _ fr ops st fr' st' px h => by cases h
end
end Go.Proofs.Ytnlcjlhcghgaoaa.EX
