
/-
  Runs by computation: drawn regions are sound, the whole.
-/
import Derived.Test.YtnlcjlhcghgaoaaEn
namespace Go.Proofs.Ytnlcjlhcghgaoaa.EX
open Go Go.RowKit
set_option linter.unusedVariables false
set_option linter.unusedSimpArgs false
set_option linter.unusedSectionVars false
set_option linter.unusedSectionVars false
set_option maxRecDepth 10000
variable [FC]

theorem Re.sup {w0 : World} {F : List RF} {B : Pl} {K : Nat → Option Bx} {S S' : Nat → Prop} {w : World} (R : Re w0 F B K S w) (h : ∀ j, S j → S' j) : Re w0 F B K S' w :=
  ⟨fun i k hk => by obtain ⟨h1, h2, h3⟩ := R.bx i k hk; exact ⟨h _ h1, bdK_mono h h2, h3⟩, R.nd, R.lo, R.fs, R.gr⟩
namespace Sq
variable {P : Program} {ih : Job → St → Option Ou} {ops : Array Oper} {pm wr : Tr Nat} {nx0 n : Nat} {s0 : Ds} (C : Sq P ih ops pm wr nx0 n s0) (hih : SpecAll P ih)
include hih
theorem sfx1 {i : Nat} (hi : i < ops.size) : Sfx (C.sq i).st (C.sq (i + 1)).st := by
  constructor
  · obtain ⟨o, p, b, st1, ho, hp, hp', hd, hg, h⟩ := C.oc hi
    obtain ⟨_, ⟨l, hl⟩⟩ := gq_ok hg
    generalize hs : C.sq (i + 1) = s' at h
    cases h with
    | skip => exact ⟨l, hl⟩
    | pure x m' h1 h2 => exact ⟨l, hl⟩
    | ask x ps h1 => exact ⟨ps ++ l, by simp only [hl, List.append_assoc]⟩
    | new x m' k h1 h2 h3 h4 => exact ⟨l, hl⟩
    | one ty y a off k x h1 h2 h3 h4 h5 h6 => exact ⟨l, hl⟩
    | chain x st2 ms h1 h2 h3 h4 h5 =>
      obtain ⟨⟨⟨l', hl'⟩, _⟩, _⟩ := opR_sound hih h3
      exact ⟨l' ++ l, by simp only [hl', hl, List.append_assoc]⟩
    | pan x st2 ms h0 h1 h2 h3 h4 h5 =>
      obtain ⟨⟨⟨l', hl'⟩, _⟩, _⟩ := opR_sound hih h3
      exact ⟨l' ++ l, by simp only [hl', hl, List.append_assoc]⟩
  · refine ⟨C.nx_le hih hi, C.wl i, ?_, fun j hj hn => ?_, fun j hj => ?_⟩
    · rcases C.facts hih hi with ⟨_, q, _⟩ | ⟨a, _, q, _⟩ | ⟨k, _, q⟩ | ⟨ms, K2, _, q⟩
      · rw [q.lg, q.wl]; rfl
      · rw [q.lg, q.wl]; rfl
      · rw [q.lg, q.wl]; rfl
      · exact q.lg
    · refine C.hV hih hi ?_
      rintro (h | h)
      · have h1 : C.nx i ≤ j := h.1
        have h2 : j < C.nx (i + 1) := h.2
        have h3 : j < C.nx i ∨ C.nx (i + 1) ≤ j := hj
        omega
      · exact hn h
    · rcases C.facts hih hi with ⟨_, q, _⟩ | ⟨a, _, q, _⟩ | ⟨k, _, q⟩ | ⟨ms, K2, _, q⟩
      · rw [q.wl] at hj; cases hj
      · rw [q.wl] at hj; cases hj
      · rw [q.wl] at hj; cases hj
      · rcases q.wl j hj with ⟨k, hk⟩ | h
        · by_cases hm : j ∈ ms.map (·.2)
          · rw [if_pos hm] at hk; cases hk
          · rw [if_neg hm] at hk; exact Or.inl ⟨k, hk⟩
        · exact Or.inr h
theorem sfx {i : Nat} : ∀ k, i ≤ k → k ≤ ops.size → Sfx (C.sq i).st (C.sq k).st
  | 0, h, _ => by have : i = 0 := by omega
                  subst this; exact Sfx.refl _
  | k + 1, h, hk => by
    by_cases e : i = k + 1
    · subst e; exact Sfx.refl _
    · exact (sfx k (by omega) (by omega)).trans (C.sfx1 hih (by omega))
theorem pd_up {i : Nat} {q : Nat × SV × Mm} (h : (C.sq i).pd = some q) : ∀ k, i ≤ k → k ≤ ops.size → (C.sq k).pd = some q
  | 0, hk, _ => by have : i = 0 := by omega
                   subst this; exact h
  | k + 1, hk, hs => by
    by_cases e : i = k + 1
    · subst e; exact h
    · have ih' := pd_up h k (by omega) (by omega)
      obtain ⟨o, p, b, st1, _, _, _, _, _, hc⟩ := C.oc (show k < ops.size by omega)
      generalize C.sq (k + 1) = s' at hc ⊢
      cases hc with
      | pan x st2 ms h0 => rw [ih'] at h0; cases h0
      | _ => exact ih'
omit hih in
/-- The operation that has panicked. -/
def PanAt (i : Nat) (q : Nat × SV × Mm) : Prop := ∃ o st1 st2 ms, ops[i]? = some o ∧ gE ops (rhoM (C.sq i).T wr pm i) o (C.sq i).st = some (true, st1) ∧ opR P ih (rhoM (C.sq i).T wr pm i) ⟨⟨maskK ms st1.m.K, st1.m.nx, []⟩, st1.orc, st1.cnd⟩ o = some (.pan q.2.1, st2) ∧
  q.2.2 = st2.m ∧ (ms.all fun q => tinyB q.2) = true ∧ (C.sq (i + 1)).st.cnd = st2.cnd ∧ C.kd i = .chain ms ∧ C.nx (i + 1) = st2.m.nx ∧ ms = ((C.sq i).nl.filter fun q => !bitOf pm i q.1) ∧ ∀ j, C.V (i + 1) j = (unmaskK st1.m.K ms st2.m.K).get j
theorem pd_src : ∀ k, k ≤ ops.size → ∀ q, (C.sq k).pd = some q → q.1 < k ∧ C.PanAt q.1 q
  | 0, _, q, h => by rw [C.zero, C.e5] at h; cases h
  | k + 1, hk, q, h => by
    have ih' := pd_src k (by omega) q
    obtain ⟨o, p, b, st1, ho, _, _, _, hg, hc⟩ := C.oc (show k < ops.size by omega)
    have up : (C.sq k).pd = some q → q.1 < k + 1 ∧ C.PanAt q.1 q := fun h => by
      obtain ⟨h1, h2⟩ := ih' h
      exact ⟨by omega, h2⟩
    generalize hs : C.sq (k + 1) = s' at hc
    rw [hs] at h
    cases hc with
    | pan x st2 ms h0 h1 h2 h3 h4 h5 =>
      simp only [Option.some.injEq] at h
      subst h
      refine ⟨by simp, o, st1, st2, ms, ho, ?_, h3, rfl, h5, by simp only [hs], by simp only [kd, hs], by simp only [nx, hs], h1, fun j => by simp only [V, hs]⟩
      rcases hg with h | ⟨_, h, _⟩
      · exact h
      · cases h
    | _ => exact up h
omit hih in
def dd (i : Nat) : Prop := ∃ q, (C.sq ops.size).pd = some q ∧ q.1 = i
theorem alive {i : Nat} {o : Oper} {b : Bool} {st1 : St} (hi : i < ops.size) (h : Gq ops pm wr i (C.sq i) o b st1) (hnd : ∀ k, pr (ops := ops) (pm := pm) k i → ¬C.dd k) : gE ops (rhoM (C.sq i).T wr pm i) o (C.sq i).st = some (b, st1) := by
  rcases h with h | ⟨h, _, _⟩
  · exact h
  · exfalso
    cases hp : (C.sq i).pd with
    | none => rw [hp] at h; cases h
    | some q =>
      rw [hp] at h
      exact hnd q.1 ⟨hi, h⟩ ⟨q, C.pd_up hih hp ops.size (by omega) (Nat.le_refl _), rfl⟩
theorem rhoM_ok {S : Nat → Prop} {B : Pl} {a : Act} {i : Nat} (h : ∀ t v, C.Ti i t = some v → a.tmps[t]? = some (den B v) ∧ bd S v) : RhoOk B S a (rhoM (C.sq i).T wr pm i) := by
  intro y v hy
  cases y with
  | tmp t =>
    obtain ⟨h1, h2⟩ := h t v hy
    exact ⟨by simp [Act.eval, Array.getD_eq_getD_getElem?, h1], h2⟩
  | const v' => simp only [rhoM, rho, Option.some.injEq] at hy; subst hy; exact ⟨by simp [Act.eval, den], by simp [bd]⟩
  | func f => simp only [rhoM, rho, Option.some.injEq] at hy; subst hy; exact ⟨by simp [Act.eval, den], by simp [bd]⟩
  | global g => simp [rhoM, rho] at hy
theorem eff {w0 : World} {F' : List RF} {S : Nat → Prop} {Q : Exit → Act → World → Prop} (h0 : ∀ j b, C.V 0 j = some b → j < C.nx 0) (tr : Tru (C.sq ops.size).st.cnd) {i : Nat} {o : Oper} {B : Pl} {a : Act} {w : World} {K : Act → World → Prop} (ho : ops[i]? = some o) (hdi : ¬C.dd i) (hnd : ∀ k, pr (ops := ops) (pm := pm) k i → ¬C.dd k) (hS : ∀ j, S j → j < C.nx i)
    (R : Re w0 F' B (C.Ki i) S w) (hsl : ∀ t v, C.Ti i t = some v → a.tmps[t]? = some (den B v) ∧ bd S v)
    (hK : ∀ B' w', Ag (C.nx i) (C.nx (i + 1)) B B' → Re w0 F' B' (fun j => open Classical in if C.tch i j then C.V (i + 1) j else C.Ki i j) (ext S (C.nx i) (C.nx (i + 1))) w' → bd (ext S (C.nx i) (C.nx (i + 1))) (C.x i) → K (a.put o.dst (den B' (C.x i))) w') : wpOp P ops Q i K a w := by
  have hi : i < ops.size := (Array.getElem?_eq_some_iff.1 ho).1
  obtain ⟨o', p, b, st1, ho', hp, hp', hd, hg, h⟩ := C.oc hi
  rw [ho] at ho'
  simp only [Option.some.injEq] at ho'
  subst ho'
  have hg' := C.alive hih hi hg hnd
  obtain ⟨hm, _, hw⟩ := gE_ok hg'
  have hρ := C.rhoM_ok hih hsl
  have hslt : ∀ t v, rhoM (C.sq i).T wr pm i (.tmp t) = some v → a.tmps[t]? = some (den B v) := fun t v h => (hsl t v h).1
  have trn := (C.sfx hih ops.size (by omega : i + 1 ≤ ops.size) (Nat.le_refl _)).tru tr
  have hnx : C.nx i = st1.m.nx := by unfold nx; rw [hm]
  have quiet : C.Quiet i → C.kd i = C.kd i → (fun j => open Classical in if C.tch i j then C.V (i + 1) j else C.Ki i j) = C.Ki i ∧ C.nx (i + 1) = C.nx i := fun q _ => ⟨by
    funext j
    rw [if_neg]
    rintro (h | h)
    · rw [q.nx] at h; omega
    · rw [q.wl] at h; exact absurd h (by simp), q.nx⟩
  have hfacts := C.facts hih hi
  generalize hs : C.sq (i + 1) = s' at h
  unfold wpOp
  rw [ho]
  simp only
  cases h with
  | skip =>
    have tr1 : Tru st1.cnd := by rw [hs] at trn; exact trn
    rw [hw tr1 B S a hρ hslt]
    simp only [Bool.false_eq_true, if_false]
    have hkd : C.kd i = .pure := by simp [kd, hs]
    have hq : C.Quiet i := by
      rcases hfacts with ⟨_, q, _⟩ | ⟨a, g, _⟩ | ⟨k, g, _⟩ | ⟨ms, K2, g, _⟩
      · exact q
      · rw [hkd] at g; cases g
      · rw [hkd] at g; cases g
      · rw [hkd] at g; cases g
    obtain ⟨q1, q2⟩ := quiet hq rfl
    have hx : C.x i = .v undef := by simp [x, hs]
    have := hK B w (Ag.refl _ _ _) (by rw [q1, q2, ext_self]; exact R) (by rw [hx]; simp [bd])
    rw [hx] at this
    simpa [den] using this
  | pure x m' h1 h2 =>
    have tr1 : Tru st1.cnd := by rw [hs] at trn; exact trn
    rw [hw tr1 B S a hρ hslt, if_pos rfl]
    have hkd : C.kd i = .pure := by simp [kd, hs]
    have hq : C.Quiet i := by
      rcases hfacts with ⟨_, q, _⟩ | ⟨a, g, _⟩ | ⟨k, g, _⟩ | ⟨ms, K2, g, _⟩
      · exact q
      · rw [hkd] at g; cases g
      · rw [hkd] at g; cases g
      · rw [hkd] at g; cases g
    obtain ⟨q1, q2⟩ := quiet hq rfl
    have hki : C.Ki i = (Tr.leaf : Tr Bx).get := by funext j; rw [Tr.get_leaf]; unfold Ki; rw [hkd]
    have hx : C.x i = x := by simp [Sq.x, hs]
    rw [hki] at R
    refine Or.inl (wp_of_ok (opE_sound (m := ⟨.leaf, st1.m.nx, []⟩) (by rw [← hnx]; exact hS) R hρ h1) fun B' w' g1 g2 g3 g4 => ?_)
    have hget : m'.K.get = C.Ki i := by
      obtain ⟨_, l, _, f3, f4⟩ := opE_fm h1
      have hl : ∀ j, j ∉ l := fun j hj => by
        rcases f4 j hj with ⟨k, hk⟩ | hk
        · simp only [Tr.get_leaf] at hk; cases hk
        · simp only at hk; omega
      funext j
      rw [hki]
      exact f3 j (by simp only; omega) (hl j)
    simp only at g1 g3 g4
    rw [h2, ← hnx] at g1 g3 g4
    rw [ext_self] at g3 g4
    rw [← hx]
    refine hK B' w' (by rw [q2]; exact g1) ?_ (by rw [q2, ext_self, hx]; exact g4)
    rw [q1, q2, ext_self, ← hget]
    exact g3
  | ask x ps h1 =>
    have trn' : Tru (ps ++ st1.cnd) := by rw [hs] at trn; exact trn
    have tr1 : Tru st1.cnd := fun q hq => trn' q (List.mem_append_right _ hq)
    rw [hw tr1 B S a hρ hslt, if_pos rfl]
    have hkd : C.kd i = .pure := by simp [kd, hs]
    have hq : C.Quiet i := by
      rcases hfacts with ⟨_, q, _⟩ | ⟨a, g, _⟩ | ⟨k, g, _⟩ | ⟨ms, K2, g, _⟩
      · exact q
      · rw [hkd] at g; cases g
      · rw [hkd] at g; cases g
      · rw [hkd] at g; cases g
    obtain ⟨q1, q2⟩ := quiet hq rfl
    have hki : C.Ki i = (Tr.leaf : Tr Bx).get := by funext j; rw [Tr.get_leaf]; unfold Ki; rw [hkd]
    have hx : C.x i = x := by simp [Sq.x, hs]
    rw [hki] at R
    refine Or.inl (wp_of_ok (askE_ok (m := ⟨.leaf, st1.m.nx, []⟩) R hρ h1 (fun q hq => trn' q (List.mem_append_left _ hq))) fun B' w' g1 g2 g3 g4 => ?_)
    simp only at g1 g3 g4
    rw [← hnx] at g1 g3 g4
    rw [ext_self] at g3 g4
    rw [← hx]
    refine hK B' w' (by rw [q2]; exact g1) ?_ (by rw [q2, ext_self, hx]; exact g4)
    rw [q1, q2, ext_self, hki]
    exact g3
  | new x m' k h1 h2 h3 h4 =>
    have tr1 : Tru st1.cnd := by rw [hs] at trn; exact trn
    rw [hw tr1 B S a hρ hslt, if_pos rfl]
    have hkd : C.kd i = .new := by simp [kd, hs]
    obtain ⟨k', hq⟩ : ∃ k', C.IsNew i k' := by
      rcases hfacts with ⟨g, _⟩ | ⟨a, g, _⟩ | ⟨k, _, q⟩ | ⟨ms, K2, g, _⟩
      · rw [hkd] at g; cases g
      · rw [hkd] at g; cases g
      · exact ⟨k, q⟩
      · rw [hkd] at g; cases g
    have hki : C.Ki i = (Tr.leaf : Tr Bx).get := by funext j; rw [Tr.get_leaf]; unfold Ki; rw [hkd]
    have hx : C.x i = x := by simp [Sq.x, hs]
    rw [hki] at R
    refine Or.inl (wp_of_ok (opE_sound (m := ⟨.leaf, st1.m.nx, []⟩) (by rw [← hnx]; exact hS) R hρ h1) fun B' w' g1 g2 g3 g4 => ?_)
    simp only at g1 g3 g4
    rw [h2, ← hnx, ← hq.nx] at g1 g3 g4
    rw [← hx]
    refine hK B' w' g1 ?_ (by rw [hx]; exact g4)
    have hfn : (fun j => open Classical in if C.tch i j then C.V (i + 1) j else C.Ki i j) = m'.K.get := by
      obtain ⟨_, l, _, f3, f4⟩ := opE_fm h1
      funext j
      by_cases e : j = C.nx i
      · subst e
        have htc : C.tch i (C.nx i) := Or.inl ⟨Nat.le_refl _, by rw [hq.nx]; omega⟩
        rw [if_pos htc]
        have hV1 : C.V (i + 1) (C.nx i) = some k := by
          unfold V
          rw [hs, hnx]
          simp only [Tr.get_set h4, setF, if_true]
        rw [hV1, hnx, h3]
      · rw [if_neg]
        · rw [hki, Tr.get_leaf]
          have hjl : j ∉ l := fun hj => by
            rcases f4 j hj with ⟨k, hk⟩ | hk
            · simp only [Tr.get_leaf] at hk; cases hk
            · simp only at hk; omega
          have := f3 j (by simp only; omega) hjl
          rw [this]
          simp only [Tr.get_leaf]
        · rintro (h | h)
          · rw [hq.nx] at h; omega
          · rw [hq.wl] at h; cases h
    rw [hfn]
    exact g3
  | one ty y aa off k x h1 h2 h3 h4 h5 h6 =>
    have tr1 : Tru st1.cnd := by rw [hs] at trn; exact trn
    rw [hw tr1 B S a hρ hslt, if_pos rfl]
    have hkd : C.kd i = .one aa := by simp [kd, hs]
    have hq : C.Quiet i := by
      rcases hfacts with ⟨g, _⟩ | ⟨a, _, q, _⟩ | ⟨k, g, _⟩ | ⟨ms, K2, g, _⟩
      · rw [hkd] at g; cases g
      · exact q
      · rw [hkd] at g; cases g
      · rw [hkd] at g; cases g
    obtain ⟨q1, q2⟩ := quiet hq rfl
    have hx : C.x i = x := by simp [Sq.x, hs]
    have hk : C.Ki i aa = some k := by
      unfold Ki; rw [hkd]; simp only [if_true]; unfold V; rw [← hm]; exact h3
    obtain ⟨g1, g2⟩ := R.ld hk h4
    obtain ⟨e1, e2⟩ := hρ y _ h2
    refine Or.inl ?_
    unfold Oper.wp
    have hop : (execOp a.eval o).run P w = .ok (.value (den B x)) w := by
      unfold execOp
      simp only [h1, e1, den, Instr.loadAt, Instr.sureAddr, Sem.run_bind, Sem.run_pure, Result.andThen_ok, g1]
    rw [hop]
    show K (a.put o.dst (den B x)) w
    rw [← hx]
    exact hK B w (Ag.refl _ _ _) (by rw [q1, q2, ext_self]; exact R) (by rw [q2, ext_self, hx]; exact g2)
  | chain x st2 ms h1 h2 h3 h4 h5 =>
    have tr2 : Tru st2.cnd := by rw [hs] at trn; exact trn
    have hok := opR_sound hih h3
    have tr1 : Tru st1.cnd := hok.1.tru tr2
    rw [hw tr1 B S a hρ hslt, if_pos rfl]
    have hkd : C.kd i = .chain ms := by simp [kd, hs]
    have hki : C.Ki i = (maskK ms st1.m.K).get := by
      funext j
      rw [maskK_get ms st1.m.K j h5]
      unfold Ki; rw [hkd]; simp only
      unfold V; rw [hm]
    have hx : C.x i = x := by simp [Sq.x, hs]
    have hnx2 : C.nx (i + 1) = st2.m.nx := by simp [nx, hs]
    rw [hki] at R
    refine Or.inl (hok.2 tr2 w0 F' B S a w K Q (by simp only; rw [← hnx]; exact hS) R hρ ?_)
    intro B' w' g1 g2 g3 g4
    simp only at g1 g2 g3 g4
    rw [← hnx, ← hnx2] at g1 g3 g4
    rw [← hx]
    refine hK B' w' g1 ?_ (by rw [hx]; exact g4)
    have hfn : (fun j => open Classical in if C.tch i j then C.V (i + 1) j else C.Ki i j) = st2.m.K.get := by
      obtain ⟨⟨_, hfm⟩, _⟩ := hok
      obtain ⟨f1, l, f2, f3, f4⟩ := hfm
      simp only [List.append_nil] at f2
      subst f2
      have hwl : C.wl i = st2.m.lg := by simp [wl, hs]
      have hV1 : ∀ j, C.V (i + 1) j = if j ∈ ms.map (·.2) then C.V i j else st2.m.K.get j := fun j => by
        have : C.V (i + 1) j = (unmaskK st1.m.K ms st2.m.K).get j := by unfold V; rw [hs]
        rw [this, unmaskK_get _ _ _ _ h5]
        unfold V; rw [hm]
      have hmsn : ∀ j, j ∈ ms.map (·.2) → j < C.nx i := fun j hj => by
        obtain ⟨q, hq, rfl⟩ := List.mem_map.1 hj
        rw [h1] at hq
        obtain ⟨l1, _⟩ := C.lists hih i (by omega)
        obtain ⟨a1, a2, a3, _⟩ := l1 q (List.mem_filter.1 hq).1
        have := C.nx_mono hih (by omega : q.1 + 1 ≤ i) (by omega)
        omega
      funext j
      by_cases ht : C.tch i j
      · rw [if_pos ht, hV1]
        have hjm : j ∉ ms.map (·.2) := fun hj => by
          have := hmsn j hj
          rcases ht with h | h
          · omega
          · rw [hwl] at h
            rcases f4 j h with ⟨k, hk⟩ | hk
            · rw [maskK_get ms st1.m.K j h5, if_pos hj] at hk; cases hk
            · simp only at hk; omega
        rw [if_neg hjm]
      · rw [if_neg ht, hki]
        refine (f3 j ?_ ?_).symm
        · simp only
          have : ¬(C.nx i ≤ j ∧ j < C.nx (i + 1)) := fun h => ht (Or.inl h)
          omega
        · intro h; exact ht (Or.inr (by rw [hwl]; exact h))
    rw [hfn]
    exact g3
  | pan x st2 ms h0' h1 h2 h3 h4 h5 =>
    exact absurd ⟨(i, x, st2.m), C.pd_up hih (i := i + 1) (by rw [hs]) ops.size (by omega) (Nat.le_refl _), rfl⟩ hdi
theorem effd {w0 : World} {F' : List RF} {S : Nat → Prop} {Q : Exit → Act → World → Prop} (tr : Tru (C.sq ops.size).st.cnd) {i : Nat} {o : Oper} {B : Pl} {a : Act} {w : World} {K : Act → World → Prop} (ho : ops[i]? = some o) (hS : ∀ j, S j → j < C.nx i) {q : Nat × SV × Mm} (hq : (C.sq ops.size).pd = some q) (hqi : q.1 = i)
    (R : Re w0 F' B (C.Ki i) S w) (hsl : ∀ t v, C.Ti i t = some v → a.tmps[t]? = some (den B v) ∧ bd S v)
    (hK : ∀ B' w', Ag (C.nx i) (C.nx (i + 1)) B B' → Re w0 F' B' q.2.2.K.get (ext S (C.nx i) (C.nx (i + 1))) w' → bd (ext S (C.nx i) (C.nx (i + 1))) q.2.1 → Q (.panic (chn B' false q.2.1)) a w') : wpOp P ops Q i K a w := by
  have hi : i < ops.size := (Array.getElem?_eq_some_iff.1 ho).1
  subst hqi
  obtain ⟨_, o', st1, st2, ms, ho', hg, hr, he, h5, hcnd, hkd, hnx2, _, _⟩ := C.pd_src hih ops.size (Nat.le_refl _) q hq
  rw [ho] at ho'
  simp only [Option.some.injEq] at ho'
  subst ho'
  obtain ⟨hm, _, hw⟩ := gE_ok hg
  have hρ := C.rhoM_ok hih hsl
  have hslt : ∀ t v, rhoM (C.sq q.1).T wr pm q.1 (.tmp t) = some v → a.tmps[t]? = some (den B v) := fun t v h => (hsl t v h).1
  have trn := (C.sfx hih ops.size (by omega : q.1 + 1 ≤ ops.size) (Nat.le_refl _)).tru tr
  rw [hcnd] at trn
  have hnx : C.nx q.1 = st1.m.nx := by unfold nx; rw [hm]
  have hok := opR_sound hih hr
  have tr1 : Tru st1.cnd := hok.1.tru trn
  unfold wpOp
  rw [ho]
  simp only
  rw [hw tr1 B S a hρ hslt, if_pos rfl]
  have hki : C.Ki q.1 = (maskK ms st1.m.K).get := by
    funext j
    rw [maskK_get ms st1.m.K j h5]
    unfold Ki; rw [hkd]; simp only
    unfold V; rw [hm]
  rw [hki] at R
  refine Or.inl (hok.2 trn w0 F' B S a w K Q (by simp only; rw [← hnx]; exact hS) R hρ ?_)
  intro B' w' g1 g2 g3 g4
  simp only at g1 g2 g3 g4
  rw [← hnx, ← hnx2] at g1 g3 g4
  exact hK B' w' g1 (by rw [he]; exact g3) g4
end Sq
theorem clrT_ok : ∀ (l : List Oper) (T : Tr SV) {t : Nat} {v : SV}, (clrT l T).get t = some v → T.get t = some v ∧ ∀ o ∈ l, o.dst ≠ some t
  | [], T, t, v, h => ⟨h, fun o ho => by cases ho⟩
  | o :: l, T, t, v, h => by
    unfold clrT at h
    cases hd : o.dst with
    | none =>
      rw [hd] at h
      obtain ⟨h1, h2⟩ := clrT_ok l T h
      refine ⟨h1, fun o' ho' => ?_⟩
      rcases List.mem_cons.1 ho' with rfl | ho'
      · rw [hd]; simp
      · exact h2 o' ho'
    | some d =>
      rw [hd] at h
      simp only at h
      cases hb : tinyB d with
      | false => rw [hb] at h; simp [Tr.get_leaf] at h
      | true =>
        rw [hb] at h
        simp only [Tr.get_set hb, setF] at h
        by_cases e : t = d
        · rw [if_pos e] at h; cases h
        · rw [if_neg e] at h
          obtain ⟨h1, h2⟩ := clrT_ok l T h
          refine ⟨h1, fun o' ho' => ?_⟩
          rcases List.mem_cons.1 ho' with rfl | ho'
          · rw [hd]; intro e'; cases e'; exact e rfl
          · exact h2 o' ho'
open Classical in
/-- The certificate. -/
noncomputable def Sq.cert {P : Program} {ih : Job → St → Option Ou} {ops : Array Oper} {pm wr : Tr Nat} {nx0 n : Nat} {s0 : Ds} (C : Sq P ih ops pm wr nx0 n s0) (hih : SpecAll P ih) {w0 : World} {F : List RF} {S : Nat → Prop} (Q : Exit → Act → World → Prop)
    (hS : ∀ j, S j → j < C.nx 0) (hS0 : ∀ j b, C.V 0 j = some b → S j) (tr : Tru (C.sq ops.size).st.cnd) (B0 : Pl) (D : List Deferred) (T' : Nat → Option SV)
    (hpan : ∀ q, (C.sq ops.size).pd = some q → ∀ B' a w', Ag (C.nx 0) (C.nx ops.size) B0 B' → Re w0 F B' q.2.2.K.get (ext S (C.nx 0) (C.nx ops.size)) w' → a.defers = D → Ra B' T' n (ext S (C.nx 0) (C.nx ops.size)) a → bd (ext S (C.nx 0) (C.nx ops.size)) q.2.1 → Q (.panic (chn B' false q.2.1)) a w') : Cert P ops w0 F S n Q where
  G := fun B a => Ag (C.nx 0) (C.nx ops.size) B0 B ∧ a.defers = D ∧ Ra B T' n S a
  dd := C.dd
  nx := C.nx
  V := C.V
  T := C.T
  x := C.x
  pr := Sq.pr (ops := ops) (pm := pm)
  tch := C.tch
  Ki := C.Ki
  Ti := C.Ti
  nx_le := fun i hi => C.nx_le hih hi
  s0 := hS
  pr_lt := fun k i h => C.pr_lt i k h
  pr_tr := fun k m i h g => C.pr_tr i m k h g
  edge := fun i o ho k hk => by
    obtain ⟨o', ho', h1, h2⟩ := C.mask (Array.getElem?_eq_some_iff.1 ho).1
    rw [ho] at ho'; simp only [Option.some.injEq] at ho'; subst ho'
    obtain ⟨e, he, hb, hke⟩ := (h1 k).1 hk.2
    refine ⟨e, he, hb, hke.imp id fun h => ⟨?_, h⟩⟩
    have := h2 e he hb
    have := (Array.getElem?_eq_some_iff.1 ho).1
    omega
  edge_lt := fun i o ho e he hb => by
    obtain ⟨o', ho', h1, h2⟩ := C.mask (Array.getElem?_eq_some_iff.1 ho).1
    rw [ho] at ho'; simp only [Option.some.injEq] at ho'; subst ho'
    exact h2 e he hb
  hV := fun m j hm ht => C.hV hih hm ht
  hT := fun i m j hlt hm h1 h2 => C.hT hih (fun j b h => hS j (hS0 j b h)) hlt hm h1 h2
  made := fun i j hi h1 h2 => Or.inl ⟨h1, h2⟩
  dst_lt := fun i o d ho hd => by
    obtain ⟨o', p, b, st1, ho', _, _, hd', _⟩ := C.oc (Array.getElem?_eq_some_iff.1 ho).1
    rw [ho] at ho'; simp only [Option.some.injEq] at ho'; subst ho'
    unfold dstOk at hd'
    rw [hd] at hd'
    simp only at hd'
    split at hd'
    · simp only [Bool.and_eq_true] at hd'
      have := hd'.1.2
      rw [Nat.blt, Nat.ble_eq] at this; exact this
    · cases hd'
  hTt := fun m o t ho => by
    obtain ⟨o', p, b, st1, ho', _, _, hd', _, h⟩ := C.oc (Array.getElem?_eq_some_iff.1 ho).1
    rw [ho] at ho'; simp only [Option.some.injEq] at ho'; subst ho'
    have key : ∀ x, (setD (C.sq m).T o.dst x).get t = if o.dst = some t then some x else C.T m t := fun x => by
      unfold setD
      cases hd : o.dst with
      | none => simp [Sq.T]
      | some d =>
        unfold dstOk at hd'
        rw [hd] at hd'
        simp only at hd'
        split at hd'
        · simp only [Bool.and_eq_true] at hd'
          simp only [Tr.get_set hd'.2, setF, Option.some.injEq, Sq.T]
          by_cases e : t = d
          · rw [if_pos e, if_pos e.symm]
          · rw [if_neg e, if_neg (fun e' => e e'.symm)]
        · cases hd'
    have e1 : C.T (m + 1) t = (C.sq (m + 1)).T.get t := rfl
    have e2 : C.x m = (C.sq (m + 1)).x := rfl
    rw [e1, e2]
    generalize C.sq (m + 1) = s' at h
    cases h <;> exact key _
  dst_one := fun i m o p d ho hp hd hd2 => by
    obtain ⟨o', _, _, _, ho', _, _, hd', _⟩ := C.oc (Array.getElem?_eq_some_iff.1 ho).1
    rw [ho] at ho'; simp only [Option.some.injEq] at ho'; subst ho'
    obtain ⟨p', _, _, _, hp', _, _, hd2', _⟩ := C.oc (Array.getElem?_eq_some_iff.1 hp).1
    rw [hp] at hp'; simp only [Option.some.injEq] at hp'; subst hp'
    unfold dstOk at hd' hd2'
    rw [hd] at hd'
    rw [hd2] at hd2'
    simp only at hd' hd2'
    cases hw : wr.get d with
    | none => rw [hw] at hd'; cases hd'
    | some k =>
      rw [hw] at hd' hd2'
      simp only [Bool.and_eq_true] at hd' hd2'
      exact (Nat.eq_of_beq_eq_true hd'.1.1).symm.trans (Nat.eq_of_beq_eq_true hd2'.1.1)
  ki := fun i j b hi h => C.ki_ok hih (fun j b h => hS j (hS0 j b h)) hS0 hi h
  ti := fun i t v hi h => by
    unfold Sq.Ti rhoM at h
    simp only at h
    cases hw : wr.get t with
    | none =>
      rw [hw] at h
      refine ⟨h, fun m o ho hd => ?_⟩
      obtain ⟨o', _, _, _, ho', _, _, hd', _⟩ := C.oc (Array.getElem?_eq_some_iff.1 ho).1
      rw [ho] at ho'; simp only [Option.some.injEq] at ho'; subst ho'
      unfold dstOk at hd'
      rw [hd] at hd'
      simp only [hw] at hd'
      cases hd'
    | some k =>
      rw [hw] at h
      simp only at h
      cases hb : ordB pm i k with
      | false => rw [hb] at h; cases h
      | true =>
        rw [hb] at h
        refine ⟨h, fun m o ho hd => ?_⟩
        have hm := (Array.getElem?_eq_some_iff.1 ho).1
        obtain ⟨o', _, _, _, ho', _, _, hd', _⟩ := C.oc hm
        rw [ho] at ho'; simp only [Option.some.injEq] at ho'; subst ho'
        unfold dstOk at hd'
        rw [hd] at hd'
        simp only [hw, Bool.and_eq_true] at hd'
        have e := Nat.eq_of_beq_eq_true hd'.1.1
        subst e
        unfold ordB at hb
        simp only [Bool.or_eq_true] at hb
        rcases hb with (h1 | h1) | h1
        · exact Or.inl (Nat.eq_of_beq_eq_true h1)
        · exact Or.inr (Or.inl ⟨hi, h1⟩)
        · exact Or.inr (Or.inr ⟨hm, h1⟩)
  eff := fun i o B a w F' K ho hdi hnd hF R hsl hK => by
    have hi := (Array.getElem?_eq_some_iff.1 ho).1
    refine C.eff hih (fun j b h => hS j (hS0 j b h)) tr ho hdi hnd ?_ R hsl hK
    rintro j (h | ⟨k, h1, h2, h3⟩)
    · exact Nat.lt_of_lt_of_le (hS j h) (C.nx_mono hih (Nat.zero_le _) (by omega))
    · have := C.pr_lt i k h1
      exact Nat.lt_of_lt_of_le h3 (C.nx_mono hih (by omega) (by omega))
  effd := fun i o B a w F' K ho hd hnd hF R hsl hG => by
    have hi := (Array.getElem?_eq_some_iff.1 ho).1
    obtain ⟨q, hq, hqi⟩ := hd
    obtain ⟨hag, hdf, hra⟩ := hG
    have m0 := C.nx_mono hih (Nat.zero_le i) (by omega)
    have m1 := C.nx_le hih hi
    have m2 := C.nx_mono hih (by omega : i + 1 ≤ ops.size) (Nat.le_refl _)
    have hsub : ∀ j, ext (fun j => S j ∨ ∃ k, Sq.pr (ops := ops) (pm := pm) k i ∧ C.nx k ≤ j ∧ j < C.nx (k + 1)) (C.nx i) (C.nx (i + 1)) j → ext S (C.nx 0) (C.nx ops.size) j := by
      rintro j ((h | ⟨k, h1, h2, h3⟩) | ⟨h1, h2⟩)
      · exact Or.inl h
      · have := C.pr_lt i k h1
        have := C.nx_mono hih (Nat.zero_le k) (by omega)
        have := C.nx_mono hih (by omega : k + 1 ≤ ops.size) (Nat.le_refl _)
        exact Or.inr ⟨by omega, by omega⟩
      · exact Or.inr ⟨by omega, by omega⟩
    refine C.effd hih tr ho ?_ hq hqi R hsl fun B' w' g1 g2 g3 => hpan q hq B' a w' (fun j hj => (g1 j (by omega)).trans (hag j hj)) ?_ hdf (hra.ag (fun j hj => g1 j (Or.inl (by have := hS j hj; omega))) (fun _ h => Or.inl h)) (bd_mono hsub g3)
    · rintro j (h | ⟨k, h1, h2, h3⟩)
      · exact Nat.lt_of_lt_of_le (hS j h) (C.nx_mono hih (Nat.zero_le _) (by omega))
      · have := C.pr_lt i k h1
        exact Nat.lt_of_lt_of_le h3 (C.nx_mono hih (by omega) (by omega))
    · have g2' := g2.sup hsub
      exact ⟨g2'.bx, g2'.nd, g2'.lo, fun f hf => g2'.fs f (hF f hf), g2'.gr⟩
theorem drE_ok (P : Program) : DrOk P drE := by
  intro ih hih fr ops st fr' st' px h
  unfold drE at h
  cases hfo : P.follows .mixedOrders with
  | false => rw [hfo] at h; cases h
  | true =>
    rw [hfo] at h
    simp only at h
    split at h
    · rename_i sN hseq
      simp only [Option.some.injEq] at h
      obtain ⟨C, hC⟩ := sq_of hseq rfl rfl rfl rfl rfl rfl
      have hz : C.sq 0 = ds0 fr st := C.zero
      have hnx0 : C.nx 0 = st.m.nx := by unfold Sq.nx; rw [hz]; rfl
      have hV0 : C.V 0 = st.m.K.get := by unfold Sq.V; rw [hz]; rfl
      have hT0 : C.T 0 = fr.T.get := by unfold Sq.T; rw [hz]; rfl
      have hsf : Sfx st sN.st := by
        have := C.sfx hih (i := 0) ops.size (Nat.zero_le _) (Nat.le_refl _)
        rw [hz, hC] at this
        exact this
      have hnxN : C.nx ops.size = sN.st.m.nx := by unfold Sq.nx; rw [hC]
      have main : Tru sN.st.cnd → ∀ w0 F B S a w id (Q : Exit → Act → World → Prop), (∀ j, S j → j < st.m.nx) → Re w0 F B st.m.K.get S w → Rf B fr S a →
          (∀ q, sN.pd = some q → ∀ B' a' w', Ag st.m.nx sN.st.m.nx B B' → Re w0 F B' q.2.2.K.get (ext S st.m.nx sN.st.m.nx) w' → Rf B' ⟨fr.f, fr.n, clrT ops.toList fr.T, fr.D⟩ (ext S st.m.nx sN.st.m.nx) a' → bd (ext S st.m.nx sN.st.m.nx) q.2.1 → Q (.panic (chn B' false q.2.1)) a' w') →
          (sN.pd = none → ∀ B' a' w', Ag st.m.nx sN.st.m.nx B B' → st.m.nx ≤ sN.st.m.nx → Re w0 F B' sN.st.m.K.get (ext S st.m.nx sN.st.m.nx) w' → Rf B' ⟨fr.f, fr.n, sN.T, fr.D⟩ (ext S st.m.nx sN.st.m.nx) a' → Q .normal a' w') → (Code.region id ops true).wp P Q a w := by
       intro tr w0 F B S a w id Q hS R A hpan hfin
       have dfx : ∀ {B' : Pl}, Ag st.m.nx sN.st.m.nx B B' → fr.D.map (denD B) = fr.D.map (denD B') := fun hag => List.map_congr_left fun d hd => (denD_ag (hag.on hS) (A.db d hd)).symm
       have dbx : ∀ d ∈ fr.D, bdD (ext S st.m.nx sN.st.m.nx) d := fun d hd => by
         have := A.db d hd
         exact ⟨bdL_mono ext_sub this.1, bdL_mono ext_sub this.2⟩
       have hS' : ∀ j, S j → j < C.nx 0 := by rw [hnx0]; exact hS
       have hS0 : ∀ j b, C.V 0 j = some b → S j := fun j b h => by rw [hV0] at h; exact (R.bx j b h).1
       let D := C.cert hih (F := F) (w0 := w0) (n := fr.n) Q hS' hS0 (by rw [hC]; exact tr) B (fr.D.map (denD B)) (clrT ops.toList fr.T).get (fun q hq B' a' w' g1 g2 g3 g4 g5 => by
         rw [hC] at hq
         rw [hnx0, hnxN] at g1 g2 g4 g5
         exact hpan q hq B' a' w' g1 g2 ⟨g4, g3.trans (dfx g1), dbx⟩ g5)
       refine wp_region_any hfo (D.any (B0 := B) (D := fr.D.map (denD B)) (fun j b h => ?_) (fun t v h => ?_) (fun X B' a' w' I => ?_) (fun B' a' w' X hX I => ?_) ops.size _ B a w.drew (by simp) (by omega) ?_)
       · have h' : C.V 0 j = some b := h
         rw [hV0] at h'
         exact ⟨(R.bx j b h').1, (R.bx j b h').2.1⟩
       · have h' : C.T 0 t = some v := h
         rw [hT0] at h'
         exact (A.ra.tm t v h').2
       · refine ⟨I.ag, I.df, I.ra.sz, fun t v h => ?_⟩
         obtain ⟨h1, h2⟩ := clrT_ok _ _ h
         have h3 : D.TX X t = some v := by
           have h4 : D.TX X t = C.T 0 t := ver_post (i := 0) ops.size (Nat.zero_le _) (fun q _ _ _ ⟨o', ho', hd'⟩ => h2 o' (Array.mem_toList_iff.2 (Array.mem_of_getElem? ho')) hd')
           rw [h4, hT0]; exact h1
         exact ⟨(I.ra.tm t v h3).1, (A.ra.tm t v h1).2⟩
       · have hpn : sN.pd = none := by
           cases hp : sN.pd with
           | none => rfl
           | some q =>
             exfalso
             rw [← hC] at hp
             have hlt := (C.pd_src hih ops.size (Nat.le_refl _) q hp).1
             exact I.nd q.1 hlt (hX _ hlt) ⟨q, hp, rfl⟩
         have hsub : ∀ j, D.Sx X j → ext S st.m.nx sN.st.m.nx j := by
           rintro j (h | ⟨k, hk, _, h1, h2⟩)
           · exact Or.inl h
           · refine Or.inr ⟨?_, ?_⟩
             · rw [← hnx0]; exact Nat.le_trans (C.nx_mono hih (Nat.zero_le k) (by omega)) h1
             · rw [← hnxN]; exact Nat.lt_of_lt_of_le h2 (C.nx_mono hih (by omega : k + 1 ≤ ops.size) (Nat.le_refl _))
         have hKX : D.KX X = sN.st.m.K.get := by
           funext j
           have h1 : D.KX X j = C.V ops.size j := ver_pre (N := ops.size) D.hV ops.size (Nat.le_refl _) (fun q hq _ => hX q hq)
           rw [h1]; unfold Sq.V; rw [hC]
         have hTX : D.TX X = sN.T.get := by
           funext t
           have h1 : D.TX X t = C.T ops.size t := ver_pre (N := ops.size) (fun m j hm hn => by
             obtain ⟨o', ho'⟩ : ∃ o', ops[m]? = some o' := ⟨_, Array.getElem?_eq_getElem hm⟩
             have := D.hTt m o' j ho'
             rw [if_neg (fun e => hn ⟨o', ho', e⟩)] at this
             exact this) ops.size (Nat.le_refl _) (fun q hq _ => hX q hq)
           rw [h1]; unfold Sq.T; rw [hC]
         have hag : Ag st.m.nx sN.st.m.nx B B' := by
           have := I.ag
           have e1 : D.nx 0 = st.m.nx := hnx0
           have e2 : D.nx ops.size = sN.st.m.nx := hnxN
           rw [e1, e2] at this
           exact this
         have hre := I.re.sup hsub
         rw [hKX] at hre
         have hra := I.ra
         rw [hTX] at hra
         exact hfin hpn B' a' w' hag hsf.2.1 hre ⟨hra.ag (fun _ _ => rfl) hsub, I.df.trans (dfx hag), dbx⟩
       · have hX0 : (fun k => (Array.replicate ops.size false).getD k false = true) = fun _ => False := by
           funext k
           apply propext
           simp [Array.getD_eq_getD_getElem?, Array.getElem?_replicate]
           split <;> simp
         rw [hX0]
         have hsub : ∀ j, S j → D.Sx (fun _ => False) j := fun j h => Or.inl h
         have hKX : D.KX (fun _ => False) = st.m.K.get := by
           rw [← hV0]
           funext j
           exact ver_post (i := 0) ops.size (Nat.zero_le _) (fun q _ _ h => h.elim)
         have hTX : D.TX (fun _ => False) = fr.T.get := by
           rw [← hT0]
           funext t
           exact ver_post (i := 0) ops.size (Nat.zero_le _) (fun q _ _ h => h.elim)
         refine ⟨fun _ _ => rfl, fun i _ h => h.elim, fun k _ h => h.elim, fun k j b _ h => h.elim, ?_, ?_, A.df, fun k _ h => h.elim⟩
         · rw [hKX]; exact (drew_re R).sup hsub
         · rw [hTX]; exact A.ra.ag (fun _ _ => rfl) hsub
      cases hpd : sN.pd with
      | none =>
        unfold endD at h
        rw [hpd] at h
        simp only [Prod.mk.injEq] at h
        obtain ⟨rfl, rfl, rfl⟩ := h
        exact ⟨hsf, rfl, fun tr w0 F B S a w id Q hS R A hfin => main tr w0 F B S a w id Q hS R A (fun q hq => by rw [hpd] at hq; cases hq) (fun _ B' a' w' g1 g2 g3 g4 => hfin B' a' w' g1 g2 g3 g4)⟩
      | some q =>
        unfold endD at h
        rw [hpd] at h
        simp only [Prod.mk.injEq] at h
        obtain ⟨rfl, rfl, rfl⟩ := h
        have hpd' := hpd
        rw [← hC] at hpd'
        obtain ⟨hlt, o, st1, st2, ms, ho, hg, hr, he, h5, hcnd, hkd, hnx2, hms, hV⟩ := C.pd_src hih ops.size (Nat.le_refl _) q hpd'
        refine ⟨⟨hsf.1, ?_⟩, rfl, fun tr w0 F B S a w id Q hS R A hfin => main tr w0 F B S a w id Q hS R A (fun q' hq B' a' w' g1 g2 g3 g4 => ?_) (fun h => by rw [hpd] at h; cases h)⟩
        · obtain ⟨n3, l3, e3, f3, f4⟩ := hsf.2
          obtain ⟨_, n1, l1, e1, f1, _⟩ := C.sfx hih (i := 0) (q.1 + 1) (Nat.zero_le _) (by omega)
          obtain ⟨_, n2, l2, e2, _, _⟩ := C.sfx hih (i := q.1 + 1) ops.size (by omega) (Nat.le_refl _)
          have z0 : (C.sq 0).st = st := by rw [hz]; rfl
          rw [z0] at e1 f1 n1
          rw [hC] at e2 n2
          have hl : l3 = l2 ++ l1 := List.append_cancel_right (by rw [← e3, e2, e1, List.append_assoc])
          refine ⟨n3, l3, e3, fun j hj hn => ?_, f4⟩
          simp only at hj
          have hjm : j ∉ ms.map (·.2) := fun hjm => by
            obtain ⟨r, hr1, rfl⟩ := List.mem_map.1 hjm
            rw [hms] at hr1
            obtain ⟨a1, a2, a3, _⟩ := (C.lists hih q.1 (by omega)).1 r (List.mem_filter.1 hr1).1
            have b1 := C.nx_mono hih (Nat.zero_le r.1) (by omega)
            have b2 := C.nx_mono hih (by omega : r.1 + 1 ≤ ops.size) (Nat.le_refl _)
            omega
          have hv := hV j
          rw [unmaskK_get _ _ _ _ h5, if_neg hjm] at hv
          simp only
          rw [he, ← hv]
          exact f1 j (by omega) (fun h => hn (by rw [hl]; exact List.mem_append_right _ h))
        · rw [hpd] at hq
          simp only [Option.some.injEq] at hq
          subst hq
          exact hfin B' a' w' g1 hsf.2.1 g2 g3 g4
    · cases h
end Go.Proofs.Ytnlcjlhcghgaoaa.EX
