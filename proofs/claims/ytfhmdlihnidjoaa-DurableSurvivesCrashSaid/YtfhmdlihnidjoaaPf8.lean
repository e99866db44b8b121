/-
  Merged: Eo, Eq, Er, Es, Ep, Vm0, Kni
-/
import Derived.Test.YtfhmdlihnidjoaaPf7
namespace Go.Proofs.Ytfhmdlihnidjoaa.EX
set_option linter.unusedVariables false
set_option linter.unusedSimpArgs false
set_option linter.unusedSectionVars false
set_option maxRecDepth 100000
open Go Go.RowKit
variable [FC]
theorem Re.sup {w0 : World} {F : List RF} {B : Pl} {K : Nat → Option Bx} {S S' : Nat → Prop} {w : World} (R : Re w0 F B K S w) (h : ∀ j, S j → S' j) : Re w0 F B K S' w :=
  ⟨fun i k hk => by obtain ⟨h1, h2, h3⟩ := R.bx i k hk; exact ⟨h _ h1, Qce h h2, h3⟩, R.nd, R.lo, R.fs, R.gr⟩
namespace Sq
variable {P : Program} {ih : Job → St → Option Ou} {ops : Array Oper} {pm wr : Tr Nat} {nx0 n : Nat} {s0 : Ds} (C : Sq P ih ops pm wr nx0 n s0) (hih : Qbz P ih)
include hih
theorem sfx1 {i : Nat} (hi : i < ops.size) : Sfx (C.sq i).st (C.sq (i + 1)).st := by
  constructor
  · obtain ⟨o, p, b, st1, ho, hp, hp', hd, hg, h⟩ := C.oc hi
    obtain ⟨_, ⟨l, hl⟩⟩ := gq_ok hg
    generalize hs : C.sq (i + 1) = s' at h
    cases h with
    | skip => exact ⟨l, hl⟩
    | pure x m' h1 h2 => exact ⟨l, hl⟩
    | ask x ps h1 => exact ⟨ps ++ l, by simp only [hl, List.append_assoc]⟩
    | new x m' k h1 h2 h3 h4 => exact ⟨l, hl⟩
    | one ty y a off k x h1 h2 h3 h4 h5 h6 => exact ⟨l, hl⟩
    | chain x st2 ms h1 h2 h3 h4 h5 =>
      obtain ⟨⟨⟨l', hl'⟩, _⟩, _⟩ := Qb5 hih h3
      exact ⟨l' ++ l, by simp only [hl', hl, List.append_assoc]⟩
    | pan x st2 ms h0 h1 h2 h3 h4 h5 =>
      obtain ⟨⟨⟨l', hl'⟩, _⟩, _⟩ := Qb5 hih h3
      exact ⟨l' ++ l, by simp only [hl', hl, List.append_assoc]⟩
  · refine ⟨C.nx_le hih hi, C.wl i, ?_, fun j hj hn => ?_, fun j hj => ?_⟩
    · rcases C.facts hih hi with ⟨_, q, _⟩ | ⟨a, _, q, _⟩ | ⟨k, _, q⟩ | ⟨ms, K2, _, q⟩
      · rw [q.lg, q.wl]; rfl
      · rw [q.lg, q.wl]; rfl
      · rw [q.lg, q.wl]; rfl
      · exact q.lg
    · refine C.hV hih hi ?_
      rintro (h | h)
      · have h1 : C.nx i ≤ j := h.1
        have h2 : j < C.nx (i + 1) := h.2
        have h3 : j < C.nx i ∨ C.nx (i + 1) ≤ j := hj
        omega
      · exact hn h
    · rcases C.facts hih hi with ⟨_, q, _⟩ | ⟨a, _, q, _⟩ | ⟨k, _, q⟩ | ⟨ms, K2, _, q⟩
      · rw [q.wl] at hj; cases hj
      · rw [q.wl] at hj; cases hj
      · rw [q.wl] at hj; cases hj
      · rcases q.wl j hj with ⟨k, hk⟩ | h
        · by_cases hm : j ∈ ms.map (·.2)
          · rw [if_pos hm] at hk; cases hk
          · rw [if_neg hm] at hk; exact Or.inl ⟨k, hk⟩
        · exact Or.inr h
theorem sfx {i : Nat} : ∀ k, i ≤ k → k ≤ ops.size → Sfx (C.sq i).st (C.sq k).st
  | 0, h, _ => by have : i = 0 := by omega
                  subst this; exact Sfx.refl _
  | k + 1, h, hk => by
    by_cases e : i = k + 1
    · subst e; exact Sfx.refl _
    · exact (sfx k (by omega) (by omega)).trans (C.sfx1 hih (by omega))
theorem pd_up {i : Nat} {q : Nat × SV × Mm} (h : (C.sq i).pd = some q) : ∀ k, i ≤ k → k ≤ ops.size → (C.sq k).pd = some q
  | 0, hk, _ => by have : i = 0 := by omega
                   subst this; exact h
  | k + 1, hk, hs => by
    by_cases e : i = k + 1
    · subst e; exact h
    · have ih' := pd_up h k (by omega) (by omega)
      obtain ⟨o, p, b, st1, _, _, _, _, _, hc⟩ := C.oc (show k < ops.size by omega)
      generalize C.sq (k + 1) = s' at hc ⊢
      cases hc with
      | pan x st2 ms h0 => rw [ih'] at h0; cases h0
      | _ => exact ih'
omit hih in
def PanAt (i : Nat) (q : Nat × SV × Mm) : Prop := ∃ o st1 st2 ms, ops[i]? = some o ∧ gE ops (QfI (C.sq i).T wr pm i) o (C.sq i).st = some (true, st1) ∧ opR P ih (QfI (C.sq i).T wr pm i) ⟨⟨Qd0 ms st1.m.K, st1.m.nx, []⟩, st1.orc, st1.cnd⟩ o = some (.pan q.2.1, st2) ∧
  q.2.2 = st2.m ∧ (ms.all fun q => QaE q.2) = true ∧ (C.sq (i + 1)).st.cnd = st2.cnd ∧ C.kd i = .chain ms ∧ C.nx (i + 1) = st2.m.nx ∧ ms = ((C.sq i).nl.filter fun q => !QaQ pm i q.1) ∧ ∀ j, C.V (i + 1) j = (QbG st1.m.K ms st2.m.K).get j
theorem pd_src : ∀ k, k ≤ ops.size → ∀ q, (C.sq k).pd = some q → q.1 < k ∧ C.PanAt q.1 q
  | 0, _, q, h => by rw [C.zero, C.e5] at h; cases h
  | k + 1, hk, q, h => by
    have ih' := pd_src k (by omega) q
    obtain ⟨o, p, b, st1, ho, _, _, _, hg, hc⟩ := C.oc (show k < ops.size by omega)
    have up : (C.sq k).pd = some q → q.1 < k + 1 ∧ C.PanAt q.1 q := fun h => by
      obtain ⟨h1, h2⟩ := ih' h
      exact ⟨by omega, h2⟩
    generalize hs : C.sq (k + 1) = s' at hc
    rw [hs] at h
    cases hc with
    | pan x st2 ms h0 h1 h2 h3 h4 h5 =>
      simp only [Option.some.injEq] at h
      subst h
      refine ⟨by simp, o, st1, st2, ms, ho, ?_, h3, rfl, h5, by simp only [hs], by simp only [kd, hs], by simp only [nx, hs], h1, fun j => by simp only [V, hs]⟩
      rcases hg with h | ⟨_, h, _⟩
      · exact h
      · cases h
    | _ => exact up h
omit hih in
def dd (i : Nat) : Prop := ∃ q, (C.sq ops.size).pd = some q ∧ q.1 = i
theorem alive {i : Nat} {o : Oper} {b : Bool} {st1 : St} (hi : i < ops.size) (h : Gq ops pm wr i (C.sq i) o b st1) (hnd : ∀ k, pr (ops := ops) (pm := pm) k i → ¬C.dd k) : gE ops (QfI (C.sq i).T wr pm i) o (C.sq i).st = some (b, st1) := by
  rcases h with h | ⟨h, _, _⟩
  · exact h
  · exfalso
    cases hp : (C.sq i).pd with
    | none => rw [hp] at h; cases h
    | some q =>
      rw [hp] at h
      exact hnd q.1 ⟨hi, h⟩ ⟨q, C.pd_up hih hp ops.size (by omega) (Nat.le_refl _), rfl⟩
theorem rhoM_ok {S : Nat → Prop} {B : Pl} {a : Act} {i : Nat} (h : ∀ t v, C.Ti i t = some v → a.tmps[t]? = some (den B v) ∧ bd S v) : QbF B S a (QfI (C.sq i).T wr pm i) := by
  intro y v hy
  cases y with
  | tmp t =>
    obtain ⟨h1, h2⟩ := h t v hy
    exact ⟨by simp [Act.eval, Array.getD_eq_getD_getElem?, h1], h2⟩
  | const v' => simp only [QfI, rho, Option.some.injEq] at hy; subst hy; exact ⟨by simp [Act.eval, den], by simp [bd]⟩
  | func f => simp only [QfI, rho, Option.some.injEq] at hy; subst hy; exact ⟨by simp [Act.eval, den], by simp [bd]⟩
  | global g => simp [QfI, rho] at hy
section
variable {w0 : World} {F' : List RF} {S : Nat → Prop} {Q : Exit → Act → World → Prop}
include w0 F' S Q
theorem eff (h0 : ∀ j b, C.V 0 j = some b → j < C.nx 0) (tr : Tru (C.sq ops.size).st.cnd) {i : Nat} {o : Oper} {B : Pl} {a : Act} {w : World} {K : Act → World → Prop} (ho : ops[i]? = some o) (hdi : ¬C.dd i) (hnd : ∀ k, pr (ops := ops) (pm := pm) k i → ¬C.dd k) (hS : ∀ j, S j → j < C.nx i) (R : Re w0 F' B (C.Ki i) S w) (hsl : ∀ t v, C.Ti i t = some v → a.tmps[t]? = some (den B v) ∧ bd S v) (hK : ∀ B' w', Ag (C.nx i) (C.nx (i + 1)) B B' → Re w0 F' B' (fun j => open Classical in if C.tch i j then C.V (i + 1) j else C.Ki i j) (ext S (C.nx i) (C.nx (i + 1))) w' → bd (ext S (C.nx i) (C.nx (i + 1))) (C.x i) → K (a.put o.dst (den B' (C.x i))) w') : wpOp P ops Q i K a w := by
  have hi : i < ops.size := (Array.getElem?_eq_some_iff.1 ho).1
  obtain ⟨o', p, b, st1, ho', hp, hp', hd, hg, h⟩ := C.oc hi
  rw [ho] at ho'
  simp only [Option.some.injEq] at ho'
  subst ho'
  have hg' := C.alive hih hi hg hnd
  obtain ⟨hm, _, hw⟩ := gE_ok hg'
  have hρ := C.rhoM_ok hih hsl
  have hslt : ∀ t v, QfI (C.sq i).T wr pm i (.tmp t) = some v → a.tmps[t]? = some (den B v) := fun t v h => (hsl t v h).1
  have trn := (C.sfx hih ops.size (by omega : i + 1 ≤ ops.size) (Nat.le_refl _)).tru tr
  have hnx : C.nx i = st1.m.nx := by unfold nx; rw [hm]
  have quiet : C.Quiet i → C.kd i = C.kd i → (fun j => open Classical in if C.tch i j then C.V (i + 1) j else C.Ki i j) = C.Ki i ∧ C.nx (i + 1) = C.nx i := fun q _ => ⟨by
    funext j
    rw [if_neg]
    rintro (h | h)
    · rw [q.nx] at h; omega
    · rw [q.wl] at h; exact absurd h (by simp), q.nx⟩
  have hfacts := C.facts hih hi
  generalize hs : C.sq (i + 1) = s' at h
  unfold wpOp
  rw [ho]
  simp only
  cases h with
  | skip =>
    have tr1 : Tru st1.cnd := by rw [hs] at trn; exact trn
    rw [hw tr1 B S a hρ hslt]
    simp only [Bool.false_eq_true, if_false]
    have hkd : C.kd i = .pure := by simp [kd, hs]
    have hq : C.Quiet i := by
      rcases hfacts with ⟨_, q, _⟩ | ⟨a, g, _⟩ | ⟨k, g, _⟩ | ⟨ms, K2, g, _⟩
      · exact q
      · rw [hkd] at g; cases g
      · rw [hkd] at g; cases g
      · rw [hkd] at g; cases g
    obtain ⟨q1, q2⟩ := quiet hq rfl
    have hx : C.x i = .v undef := by simp [x, hs]
    have := hK B w (Ag.refl _ _ _) (by rw [q1, q2, Qal]; exact R) (by rw [hx]; simp [bd])
    rw [hx] at this
    simpa [den] using this
  | pure x m' h1 h2 =>
    have tr1 : Tru st1.cnd := by rw [hs] at trn; exact trn
    rw [hw tr1 B S a hρ hslt, if_pos rfl]
    have hkd : C.kd i = .pure := by simp [kd, hs]
    have hq : C.Quiet i := by
      rcases hfacts with ⟨_, q, _⟩ | ⟨a, g, _⟩ | ⟨k, g, _⟩ | ⟨ms, K2, g, _⟩
      · exact q
      · rw [hkd] at g; cases g
      · rw [hkd] at g; cases g
      · rw [hkd] at g; cases g
    obtain ⟨q1, q2⟩ := quiet hq rfl
    have hki : C.Ki i = (Tr.leaf : Tr Bx).get := by funext j; rw [Tr.get_leaf]; unfold Ki; rw [hkd]
    have hx : C.x i = x := by simp [Sq.x, hs]
    rw [hki] at R
    refine Or.inl (Qdr (QcJ (m := ⟨.leaf, st1.m.nx, []⟩) (by rw [← hnx]; exact hS) R hρ h1) fun B' w' g1 g2 g3 g4 => ?_)
    have hget : m'.K.get = C.Ki i := by
      obtain ⟨_, l, _, f3, f4⟩ := QfO h1
      have hl : ∀ j, j ∉ l := fun j hj => by
        rcases f4 j hj with ⟨k, hk⟩ | hk
        · simp only [Tr.get_leaf] at hk; cases hk
        · simp only at hk; omega
      funext j
      rw [hki]
      exact f3 j (by simp only; omega) (hl j)
    simp only at g1 g3 g4
    rw [h2, ← hnx] at g1 g3 g4
    rw [Qal] at g3 g4
    rw [← hx]
    refine hK B' w' (by rw [q2]; exact g1) ?_ (by rw [q2, Qal, hx]; exact g4)
    rw [q1, q2, Qal, ← hget]
    exact g3
  | ask x ps h1 =>
    have trn' : Tru (ps ++ st1.cnd) := by rw [hs] at trn; exact trn
    have tr1 : Tru st1.cnd := fun q hq => trn' q (List.mem_append_right _ hq)
    rw [hw tr1 B S a hρ hslt, if_pos rfl]
    have hkd : C.kd i = .pure := by simp [kd, hs]
    have hq : C.Quiet i := by
      rcases hfacts with ⟨_, q, _⟩ | ⟨a, g, _⟩ | ⟨k, g, _⟩ | ⟨ms, K2, g, _⟩
      · exact q
      · rw [hkd] at g; cases g
      · rw [hkd] at g; cases g
      · rw [hkd] at g; cases g
    obtain ⟨q1, q2⟩ := quiet hq rfl
    have hki : C.Ki i = (Tr.leaf : Tr Bx).get := by funext j; rw [Tr.get_leaf]; unfold Ki; rw [hkd]
    have hx : C.x i = x := by simp [Sq.x, hs]
    rw [hki] at R
    refine Or.inl (Qdr (Qmq (m := ⟨.leaf, st1.m.nx, []⟩) R hρ h1 (fun q hq => trn' q (List.mem_append_left _ hq))) fun B' w' g1 g2 g3 g4 => ?_)
    simp only at g1 g3 g4
    rw [← hnx] at g1 g3 g4
    rw [Qal] at g3 g4
    rw [← hx]
    refine hK B' w' (by rw [q2]; exact g1) ?_ (by rw [q2, Qal, hx]; exact g4)
    rw [q1, q2, Qal, hki]
    exact g3
  | new x m' k h1 h2 h3 h4 =>
    have tr1 : Tru st1.cnd := by rw [hs] at trn; exact trn
    rw [hw tr1 B S a hρ hslt, if_pos rfl]
    have hkd : C.kd i = .new := by simp [kd, hs]
    obtain ⟨k', hq⟩ : ∃ k', C.IsNew i k' := by
      rcases hfacts with ⟨g, _⟩ | ⟨a, g, _⟩ | ⟨k, _, q⟩ | ⟨ms, K2, g, _⟩
      · rw [hkd] at g; cases g
      · rw [hkd] at g; cases g
      · exact ⟨k, q⟩
      · rw [hkd] at g; cases g
    have hki : C.Ki i = (Tr.leaf : Tr Bx).get := by funext j; rw [Tr.get_leaf]; unfold Ki; rw [hkd]
    have hx : C.x i = x := by simp [Sq.x, hs]
    rw [hki] at R
    refine Or.inl (Qdr (QcJ (m := ⟨.leaf, st1.m.nx, []⟩) (by rw [← hnx]; exact hS) R hρ h1) fun B' w' g1 g2 g3 g4 => ?_)
    simp only at g1 g3 g4
    rw [h2, ← hnx, ← hq.nx] at g1 g3 g4
    rw [← hx]
    refine hK B' w' g1 ?_ (by rw [hx]; exact g4)
    have hfn : (fun j => open Classical in if C.tch i j then C.V (i + 1) j else C.Ki i j) = m'.K.get := by
      obtain ⟨_, l, _, f3, f4⟩ := QfO h1
      funext j
      by_cases e : j = C.nx i
      · subst e
        have htc : C.tch i (C.nx i) := Or.inl ⟨Nat.le_refl _, by rw [hq.nx]; omega⟩
        rw [if_pos htc]
        have hV1 : C.V (i + 1) (C.nx i) = some k := by
          unfold V
          rw [hs, hnx]
          simp only [Tr.get_set h4, QbW, if_true]
        rw [hV1, hnx, h3]
      · rw [if_neg]
        · rw [hki, Tr.get_leaf]
          have hjl : j ∉ l := fun hj => by
            rcases f4 j hj with ⟨k, hk⟩ | hk
            · simp only [Tr.get_leaf] at hk; cases hk
            · simp only at hk; omega
          have := f3 j (by simp only; omega) hjl
          rw [this]
          simp only [Tr.get_leaf]
        · rintro (h | h)
          · rw [hq.nx] at h; omega
          · rw [hq.wl] at h; cases h
    rw [hfn]
    exact g3
  | one ty y aa off k x h1 h2 h3 h4 h5 h6 =>
    have tr1 : Tru st1.cnd := by rw [hs] at trn; exact trn
    rw [hw tr1 B S a hρ hslt, if_pos rfl]
    have hkd : C.kd i = .one aa := by simp [kd, hs]
    have hq : C.Quiet i := by
      rcases hfacts with ⟨g, _⟩ | ⟨a, _, q, _⟩ | ⟨k, g, _⟩ | ⟨ms, K2, g, _⟩
      · rw [hkd] at g; cases g
      · exact q
      · rw [hkd] at g; cases g
      · rw [hkd] at g; cases g
    obtain ⟨q1, q2⟩ := quiet hq rfl
    have hx : C.x i = x := by simp [Sq.x, hs]
    have hk : C.Ki i aa = some k := by
      unfold Ki; rw [hkd]; simp only [if_true]; unfold V; rw [← hm]; exact h3
    obtain ⟨g1, g2⟩ := R.ld hk h4
    obtain ⟨e1, e2⟩ := hρ y _ h2
    refine Or.inl ?_
    unfold Oper.wp
    have hop : (execOp a.eval o).run P w = .ok (.value (den B x)) w := by
      unfold execOp
      simp only [h1, e1, den, Instr.loadAt, Instr.sureAddr, Sem.run_bind, Sem.run_pure, Result.andThen_ok, g1]
    rw [hop]
    show K (a.put o.dst (den B x)) w
    rw [← hx]
    exact hK B w (Ag.refl _ _ _) (by rw [q1, q2, Qal]; exact R) (by rw [q2, Qal, hx]; exact g2)
  | chain x st2 ms h1 h2 h3 h4 h5 =>
    have tr2 : Tru st2.cnd := by rw [hs] at trn; exact trn
    have hok := Qb5 hih h3
    have tr1 : Tru st1.cnd := hok.1.tru tr2
    rw [hw tr1 B S a hρ hslt, if_pos rfl]
    have hkd : C.kd i = .chain ms := by simp [kd, hs]
    have hki : C.Ki i = (Qd0 ms st1.m.K).get := by
      funext j
      rw [Qb7 ms st1.m.K j h5]
      unfold Ki; rw [hkd]; simp only
      unfold V; rw [hm]
    have hx : C.x i = x := by simp [Sq.x, hs]
    have hnx2 : C.nx (i + 1) = st2.m.nx := by simp [nx, hs]
    rw [hki] at R
    refine Or.inl (hok.2 tr2 w0 F' B S a w K Q (by simp only; rw [← hnx]; exact hS) R hρ ?_)
    intro B' w' g1 g2 g3 g4
    simp only at g1 g2 g3 g4
    rw [← hnx, ← hnx2] at g1 g3 g4
    rw [← hx]
    refine hK B' w' g1 ?_ (by rw [hx]; exact g4)
    have hfn : (fun j => open Classical in if C.tch i j then C.V (i + 1) j else C.Ki i j) = st2.m.K.get := by
      obtain ⟨⟨_, hfm⟩, _⟩ := hok
      obtain ⟨f1, l, f2, f3, f4⟩ := hfm
      simp only [List.append_nil] at f2
      subst f2
      have hwl : C.wl i = st2.m.lg := by simp [wl, hs]
      have hV1 : ∀ j, C.V (i + 1) j = if j ∈ ms.map (·.2) then C.V i j else st2.m.K.get j := fun j => by
        have : C.V (i + 1) j = (QbG st1.m.K ms st2.m.K).get j := by unfold V; rw [hs]
        rw [this, Qcm _ _ _ _ h5]
        unfold V; rw [hm]
      have hmsn : ∀ j, j ∈ ms.map (·.2) → j < C.nx i := fun j hj => by
        obtain ⟨q, hq, rfl⟩ := List.mem_map.1 hj
        rw [h1] at hq
        obtain ⟨l1, _⟩ := C.lists hih i (by omega)
        obtain ⟨a1, a2, a3, _⟩ := l1 q (List.mem_filter.1 hq).1
        have := C.nx_mono hih (by omega : q.1 + 1 ≤ i) (by omega)
        omega
      funext j
      by_cases ht : C.tch i j
      · rw [if_pos ht, hV1]
        have hjm : j ∉ ms.map (·.2) := fun hj => by
          have := hmsn j hj
          rcases ht with h | h
          · omega
          · rw [hwl] at h
            rcases f4 j h with ⟨k, hk⟩ | hk
            · rw [Qb7 ms st1.m.K j h5, if_pos hj] at hk; cases hk
            · simp only at hk; omega
        rw [if_neg hjm]
      · rw [if_neg ht, hki]
        refine (f3 j ?_ ?_).symm
        · simp only
          have : ¬(C.nx i ≤ j ∧ j < C.nx (i + 1)) := fun h => ht (Or.inl h)
          omega
        · intro h; exact ht (Or.inr (by rw [hwl]; exact h))
    rw [hfn]
    exact g3
  | pan x st2 ms h0' h1 h2 h3 h4 h5 =>
    exact absurd ⟨(i, x, st2.m), C.pd_up hih (i := i + 1) (by rw [hs]) ops.size (by omega) (Nat.le_refl _), rfl⟩ hdi
theorem effd (tr : Tru (C.sq ops.size).st.cnd) {i : Nat} {o : Oper} {B : Pl} {a : Act} {w : World} {K : Act → World → Prop} (ho : ops[i]? = some o) (hS : ∀ j, S j → j < C.nx i) {q : Nat × SV × Mm} (hq : (C.sq ops.size).pd = some q) (hqi : q.1 = i) (R : Re w0 F' B (C.Ki i) S w) (hsl : ∀ t v, C.Ti i t = some v → a.tmps[t]? = some (den B v) ∧ bd S v) (hK : ∀ B' w', Ag (C.nx i) (C.nx (i + 1)) B B' → Re w0 F' B' q.2.2.K.get (ext S (C.nx i) (C.nx (i + 1))) w' → bd (ext S (C.nx i) (C.nx (i + 1))) q.2.1 → Q (.panic (chn B' false q.2.1)) a w') : wpOp P ops Q i K a w := by
  have hi : i < ops.size := (Array.getElem?_eq_some_iff.1 ho).1
  subst hqi
  obtain ⟨_, o', st1, st2, ms, ho', hg, hr, he, h5, hcnd, hkd, hnx2, _, _⟩ := C.pd_src hih ops.size (Nat.le_refl _) q hq
  rw [ho] at ho'
  simp only [Option.some.injEq] at ho'
  subst ho'
  obtain ⟨hm, _, hw⟩ := gE_ok hg
  have hρ := C.rhoM_ok hih hsl
  have hslt : ∀ t v, QfI (C.sq q.1).T wr pm q.1 (.tmp t) = some v → a.tmps[t]? = some (den B v) := fun t v h => (hsl t v h).1
  have trn := (C.sfx hih ops.size (by omega : q.1 + 1 ≤ ops.size) (Nat.le_refl _)).tru tr
  rw [hcnd] at trn
  have hnx : C.nx q.1 = st1.m.nx := by unfold nx; rw [hm]
  have hok := Qb5 hih hr
  have tr1 : Tru st1.cnd := hok.1.tru trn
  unfold wpOp
  rw [ho]
  simp only
  rw [hw tr1 B S a hρ hslt, if_pos rfl]
  have hki : C.Ki q.1 = (Qd0 ms st1.m.K).get := by
    funext j
    rw [Qb7 ms st1.m.K j h5]
    unfold Ki; rw [hkd]; simp only
    unfold V; rw [hm]
  rw [hki] at R
  refine Or.inl (hok.2 trn w0 F' B S a w K Q (by simp only; rw [← hnx]; exact hS) R hρ ?_)
  intro B' w' g1 g2 g3 g4
  simp only at g1 g2 g3 g4
  rw [← hnx, ← hnx2] at g1 g3 g4
  exact hK B' w' g1 (by rw [he]; exact g3) g4
end
end Sq
theorem Qiq : ∀ (l : List Oper) (T : Tr SV) {t : Nat} {v : SV}, (clrT l T).get t = some v → T.get t = some v ∧ ∀ o ∈ l, o.dst ≠ some t
  | [], T, t, v, h => ⟨h, fun o ho => by cases ho⟩
  | o :: l, T, t, v, h => by
    unfold clrT at h
    cases hd : o.dst with
    | none =>
      rw [hd] at h
      obtain ⟨h1, h2⟩ := Qiq l T h
      refine ⟨h1, fun o' ho' => ?_⟩
      rcases List.mem_cons.1 ho' with rfl | ho'
      · rw [hd]; simp
      · exact h2 o' ho'
    | some d =>
      rw [hd] at h
      simp only at h
      cases hb : QaE d with
      | false => rw [hb] at h; simp [Tr.get_leaf] at h
      | true =>
        rw [hb] at h
        simp only [Tr.get_set hb, QbW] at h
        by_cases e : t = d
        · rw [if_pos e] at h; cases h
        · rw [if_neg e] at h
          obtain ⟨h1, h2⟩ := Qiq l T h
          refine ⟨h1, fun o' ho' => ?_⟩
          rcases List.mem_cons.1 ho' with rfl | ho'
          · rw [hd]; intro e'; cases e'; exact e rfl
          · exact h2 o' ho'
open Classical in
noncomputable def Sq.cert {P : Program} {ih : Job → St → Option Ou} {ops : Array Oper} {pm wr : Tr Nat} {nx0 n : Nat} {s0 : Ds} (C : Sq P ih ops pm wr nx0 n s0) (hih : Qbz P ih) {w0 : World} {F : List RF} {S : Nat → Prop} (Q : Exit → Act → World → Prop)
    (hS : ∀ j, S j → j < C.nx 0) (hS0 : ∀ j b, C.V 0 j = some b → S j) (tr : Tru (C.sq ops.size).st.cnd) (B0 : Pl) (D : List Deferred) (T' : Nat → Option SV)
    (hpan : ∀ q, (C.sq ops.size).pd = some q → ∀ B' a w', Ag (C.nx 0) (C.nx ops.size) B0 B' → Re w0 F B' q.2.2.K.get (ext S (C.nx 0) (C.nx ops.size)) w' → a.defers = D → Ra B' T' n (ext S (C.nx 0) (C.nx ops.size)) a → bd (ext S (C.nx 0) (C.nx ops.size)) q.2.1 → Q (.panic (chn B' false q.2.1)) a w') : Cert P ops w0 F S n Q where
  G := fun B a => Ag (C.nx 0) (C.nx ops.size) B0 B ∧ a.defers = D ∧ Ra B T' n S a
  dd := C.dd
  nx := C.nx
  V := C.V
  T := C.T
  x := C.x
  pr := Sq.pr (ops := ops) (pm := pm)
  tch := C.tch
  Ki := C.Ki
  Ti := C.Ti
  nx_le := fun i hi => C.nx_le hih hi
  s0 := hS
  pr_lt := fun k i h => C.pr_lt i k h
  pr_tr := fun k m i h g => C.pr_tr i m k h g
  edge := fun i o ho k hk => by
    obtain ⟨o', ho', h1, h2⟩ := C.mask (Array.getElem?_eq_some_iff.1 ho).1
    rw [ho] at ho'; simp only [Option.some.injEq] at ho'; subst ho'
    obtain ⟨e, he, hb, hke⟩ := (h1 k).1 hk.2
    refine ⟨e, he, hb, hke.imp id fun h => ⟨?_, h⟩⟩
    have := h2 e he hb
    have := (Array.getElem?_eq_some_iff.1 ho).1
    omega
  edge_lt := fun i o ho e he hb => by
    obtain ⟨o', ho', h1, h2⟩ := C.mask (Array.getElem?_eq_some_iff.1 ho).1
    rw [ho] at ho'; simp only [Option.some.injEq] at ho'; subst ho'
    exact h2 e he hb
  hV := fun m j hm ht => C.hV hih hm ht
  hT := fun i m j hlt hm h1 h2 => C.hT hih (fun j b h => hS j (hS0 j b h)) hlt hm h1 h2
  made := fun i j hi h1 h2 => Or.inl ⟨h1, h2⟩
  dst_lt := fun i o d ho hd => by
    obtain ⟨o', p, b, st1, ho', _, _, hd', _⟩ := C.oc (Array.getElem?_eq_some_iff.1 ho).1
    rw [ho] at ho'; simp only [Option.some.injEq] at ho'; subst ho'
    unfold QfD at hd'
    rw [hd] at hd'
    simp only at hd'
    split at hd'
    · simp only [Bool.and_eq_true] at hd'
      have := hd'.1.2
      rw [Nat.blt, Nat.ble_eq] at this; exact this
    · cases hd'
  hTt := fun m o t ho => by
    obtain ⟨o', p, b, st1, ho', _, _, hd', _, h⟩ := C.oc (Array.getElem?_eq_some_iff.1 ho).1
    rw [ho] at ho'; simp only [Option.some.injEq] at ho'; subst ho'
    have key : ∀ x, (Qed (C.sq m).T o.dst x).get t = if o.dst = some t then some x else C.T m t := fun x => by
      unfold Qed
      cases hd : o.dst with
      | none => simp [Sq.T]
      | some d =>
        unfold QfD at hd'
        rw [hd] at hd'
        simp only at hd'
        split at hd'
        · simp only [Bool.and_eq_true] at hd'
          simp only [Tr.get_set hd'.2, QbW, Option.some.injEq, Sq.T]
          by_cases e : t = d
          · rw [if_pos e, if_pos e.symm]
          · rw [if_neg e, if_neg (fun e' => e e'.symm)]
        · cases hd'
    have e1 : C.T (m + 1) t = (C.sq (m + 1)).T.get t := rfl
    have e2 : C.x m = (C.sq (m + 1)).x := rfl
    rw [e1, e2]
    generalize C.sq (m + 1) = s' at h
    cases h <;> exact key _
  dst_one := fun i m o p d ho hp hd hd2 => by
    obtain ⟨o', _, _, _, ho', _, _, hd', _⟩ := C.oc (Array.getElem?_eq_some_iff.1 ho).1
    rw [ho] at ho'; simp only [Option.some.injEq] at ho'; subst ho'
    obtain ⟨p', _, _, _, hp', _, _, hd2', _⟩ := C.oc (Array.getElem?_eq_some_iff.1 hp).1
    rw [hp] at hp'; simp only [Option.some.injEq] at hp'; subst hp'
    unfold QfD at hd' hd2'
    rw [hd] at hd'
    rw [hd2] at hd2'
    simp only at hd' hd2'
    cases hw : wr.get d with
    | none => rw [hw] at hd'; cases hd'
    | some k =>
      rw [hw] at hd' hd2'
      simp only [Bool.and_eq_true] at hd' hd2'
      exact (Nat.eq_of_beq_eq_true hd'.1.1).symm.trans (Nat.eq_of_beq_eq_true hd2'.1.1)
  ki := fun i j b hi h => C.ki_ok hih (fun j b h => hS j (hS0 j b h)) hS0 hi h
  ti := fun i t v hi h => by
    unfold Sq.Ti QfI at h
    simp only at h
    cases hw : wr.get t with
    | none =>
      rw [hw] at h
      refine ⟨h, fun m o ho hd => ?_⟩
      obtain ⟨o', _, _, _, ho', _, _, hd', _⟩ := C.oc (Array.getElem?_eq_some_iff.1 ho).1
      rw [ho] at ho'; simp only [Option.some.injEq] at ho'; subst ho'
      unfold QfD at hd'
      rw [hd] at hd'
      simp only [hw] at hd'
      cases hd'
    | some k =>
      rw [hw] at h
      simp only at h
      cases hb : ordB pm i k with
      | false => rw [hb] at h; cases h
      | true =>
        rw [hb] at h
        refine ⟨h, fun m o ho hd => ?_⟩
        have hm := (Array.getElem?_eq_some_iff.1 ho).1
        obtain ⟨o', _, _, _, ho', _, _, hd', _⟩ := C.oc hm
        rw [ho] at ho'; simp only [Option.some.injEq] at ho'; subst ho'
        unfold QfD at hd'
        rw [hd] at hd'
        simp only [hw, Bool.and_eq_true] at hd'
        have e := Nat.eq_of_beq_eq_true hd'.1.1
        subst e
        unfold ordB at hb
        simp only [Bool.or_eq_true] at hb
        rcases hb with (h1 | h1) | h1
        · exact Or.inl (Nat.eq_of_beq_eq_true h1)
        · exact Or.inr (Or.inl ⟨hi, h1⟩)
        · exact Or.inr (Or.inr ⟨hm, h1⟩)
  eff := fun i o B a w F' K ho hdi hnd hF R hsl hK => by
    have hi := (Array.getElem?_eq_some_iff.1 ho).1
    refine C.eff hih (fun j b h => hS j (hS0 j b h)) tr ho hdi hnd ?_ R hsl hK
    rintro j (h | ⟨k, h1, h2, h3⟩)
    · exact Nat.lt_of_lt_of_le (hS j h) (C.nx_mono hih (Nat.zero_le _) (by omega))
    · have := C.pr_lt i k h1
      exact Nat.lt_of_lt_of_le h3 (C.nx_mono hih (by omega) (by omega))
  effd := fun i o B a w F' K ho hd hnd hF R hsl hG => by
    have hi := (Array.getElem?_eq_some_iff.1 ho).1
    obtain ⟨q, hq, hqi⟩ := hd
    obtain ⟨hag, hdf, hra⟩ := hG
    have m0 := C.nx_mono hih (Nat.zero_le i) (by omega)
    have m1 := C.nx_le hih hi
    have m2 := C.nx_mono hih (by omega : i + 1 ≤ ops.size) (Nat.le_refl _)
    have hsub : ∀ j, ext (fun j => S j ∨ ∃ k, Sq.pr (ops := ops) (pm := pm) k i ∧ C.nx k ≤ j ∧ j < C.nx (k + 1)) (C.nx i) (C.nx (i + 1)) j → ext S (C.nx 0) (C.nx ops.size) j := by
      rintro j ((h | ⟨k, h1, h2, h3⟩) | ⟨h1, h2⟩)
      · exact Or.inl h
      · have := C.pr_lt i k h1
        have := C.nx_mono hih (Nat.zero_le k) (by omega)
        have := C.nx_mono hih (by omega : k + 1 ≤ ops.size) (Nat.le_refl _)
        exact Or.inr ⟨by omega, by omega⟩
      · exact Or.inr ⟨by omega, by omega⟩
    refine C.effd hih tr ho ?_ hq hqi R hsl fun B' w' g1 g2 g3 => hpan q hq B' a w' (fun j hj => (g1 j (by omega)).trans (hag j hj)) ?_ hdf (hra.ag (fun j hj => g1 j (Or.inl (by have := hS j hj; omega))) (fun _ h => Or.inl h)) (QbZ hsub g3)
    · rintro j (h | ⟨k, h1, h2, h3⟩)
      · exact Nat.lt_of_lt_of_le (hS j h) (C.nx_mono hih (Nat.zero_le _) (by omega))
      · have := C.pr_lt i k h1
        exact Nat.lt_of_lt_of_le h3 (C.nx_mono hih (by omega) (by omega))
    · have g2' := g2.sup hsub
      exact ⟨g2'.bx, g2'.nd, g2'.lo, fun f hf => g2'.fs f (hF f hf), g2'.gr⟩
theorem drE_ok (P : Program) : DrOk P drE := by
  intro ih hih fr ops st fr' st' px h
  unfold drE at h
  cases hfo : P.follows .mixedOrders with
  | false => rw [hfo] at h; cases h
  | true =>
    rw [hfo] at h
    simp only at h
    split at h
    · rename_i sN hseq
      simp only [Option.some.injEq] at h
      obtain ⟨C, hC⟩ := sq_of hseq rfl rfl rfl rfl rfl rfl
      have hz : C.sq 0 = ds0 fr st := C.zero
      have hnx0 : C.nx 0 = st.m.nx := by unfold Sq.nx; rw [hz]; rfl
      have hV0 : C.V 0 = st.m.K.get := by unfold Sq.V; rw [hz]; rfl
      have hT0 : C.T 0 = fr.T.get := by unfold Sq.T; rw [hz]; rfl
      have hsf : Sfx st sN.st := by
        have := C.sfx hih (i := 0) ops.size (Nat.zero_le _) (Nat.le_refl _)
        rw [hz, hC] at this
        exact this
      have hnxN : C.nx ops.size = sN.st.m.nx := by unfold Sq.nx; rw [hC]
      have main : Tru sN.st.cnd → ∀ w0 F B S a w id (Q : Exit → Act → World → Prop), (∀ j, S j → j < st.m.nx) → Re w0 F B st.m.K.get S w → Rf B fr S a →
          (∀ q, sN.pd = some q → ∀ B' a' w', Ag st.m.nx sN.st.m.nx B B' → Re w0 F B' q.2.2.K.get (ext S st.m.nx sN.st.m.nx) w' → Rf B' ⟨fr.f, fr.n, clrT ops.toList fr.T, fr.D⟩ (ext S st.m.nx sN.st.m.nx) a' → bd (ext S st.m.nx sN.st.m.nx) q.2.1 → Q (.panic (chn B' false q.2.1)) a' w') →
          (sN.pd = none → ∀ B' a' w', Ag st.m.nx sN.st.m.nx B B' → st.m.nx ≤ sN.st.m.nx → Re w0 F B' sN.st.m.K.get (ext S st.m.nx sN.st.m.nx) w' → Rf B' ⟨fr.f, fr.n, sN.T, fr.D⟩ (ext S st.m.nx sN.st.m.nx) a' → Q .normal a' w') → (Code.region id ops true).wp P Q a w := by
       intro tr w0 F B S a w id Q hS R A hpan hfin
       have dfx : ∀ {B' : Pl}, Ag st.m.nx sN.st.m.nx B B' → fr.D.map (Qf1 B) = fr.D.map (Qf1 B') := fun hag => List.map_congr_left fun d hd => (Qik (hag.on hS) (A.db d hd)).symm
       have dbx : ∀ d ∈ fr.D, bdD (ext S st.m.nx sN.st.m.nx) d := fun d hd => by
         have := A.db d hd
         exact ⟨QbE QbU this.1, QbE QbU this.2⟩
       have hS' : ∀ j, S j → j < C.nx 0 := by rw [hnx0]; exact hS
       have hS0 : ∀ j b, C.V 0 j = some b → S j := fun j b h => by rw [hV0] at h; exact (R.bx j b h).1
       let D := C.cert hih (F := F) (w0 := w0) (n := fr.n) Q hS' hS0 (by rw [hC]; exact tr) B (fr.D.map (Qf1 B)) (clrT ops.toList fr.T).get (fun q hq B' a' w' g1 g2 g3 g4 g5 => by
         rw [hC] at hq
         rw [hnx0, hnxN] at g1 g2 g4 g5
         exact hpan q hq B' a' w' g1 g2 ⟨g4, g3.trans (dfx g1), dbx⟩ g5)
       refine wp_region_any hfo (D.any (B0 := B) (D := fr.D.map (Qf1 B)) (fun j b h => ?_) (fun t v h => ?_) (fun X B' a' w' I => ?_) (fun B' a' w' X hX I => ?_) ops.size _ B a w.drew (by simp) (by omega) ?_)
       · have h' : C.V 0 j = some b := h
         rw [hV0] at h'
         exact ⟨(R.bx j b h').1, (R.bx j b h').2.1⟩
       · have h' : C.T 0 t = some v := h
         rw [hT0] at h'
         exact (A.ra.tm t v h').2
       · refine ⟨I.ag, I.df, I.ra.sz, fun t v h => ?_⟩
         obtain ⟨h1, h2⟩ := Qiq _ _ h
         have h3 : D.TX X t = some v := by
           have h4 : D.TX X t = C.T 0 t := QdQ (i := 0) ops.size (Nat.zero_le _) (fun q _ _ _ ⟨o', ho', hd'⟩ => h2 o' (Array.mem_toList_iff.2 (Array.mem_of_getElem? ho')) hd')
           rw [h4, hT0]; exact h1
         exact ⟨(I.ra.tm t v h3).1, (A.ra.tm t v h1).2⟩
       · have hpn : sN.pd = none := by
           cases hp : sN.pd with
           | none => rfl
           | some q =>
             exfalso
             rw [← hC] at hp
             have hlt := (C.pd_src hih ops.size (Nat.le_refl _) q hp).1
             exact I.nd q.1 hlt (hX _ hlt) ⟨q, hp, rfl⟩
         have hsub : ∀ j, D.Sx X j → ext S st.m.nx sN.st.m.nx j := by
           rintro j (h | ⟨k, hk, _, h1, h2⟩)
           · exact Or.inl h
           · refine Or.inr ⟨?_, ?_⟩
             · rw [← hnx0]; exact Nat.le_trans (C.nx_mono hih (Nat.zero_le k) (by omega)) h1
             · rw [← hnxN]; exact Nat.lt_of_lt_of_le h2 (C.nx_mono hih (by omega : k + 1 ≤ ops.size) (Nat.le_refl _))
         have hKX : D.KX X = sN.st.m.K.get := by
           funext j
           have h1 : D.KX X j = C.V ops.size j := Qf6 (N := ops.size) D.hV ops.size (Nat.le_refl _) (fun q hq _ => hX q hq)
           rw [h1]; unfold Sq.V; rw [hC]
         have hTX : D.TX X = sN.T.get := by
           funext t
           have h1 : D.TX X t = C.T ops.size t := Qf6 (N := ops.size) (fun m j hm hn => by
             obtain ⟨o', ho'⟩ : ∃ o', ops[m]? = some o' := ⟨_, Array.getElem?_eq_getElem hm⟩
             have := D.hTt m o' j ho'
             rw [if_neg (fun e => hn ⟨o', ho', e⟩)] at this
             exact this) ops.size (Nat.le_refl _) (fun q hq _ => hX q hq)
           rw [h1]; unfold Sq.T; rw [hC]
         have hag : Ag st.m.nx sN.st.m.nx B B' := by
           have := I.ag
           have e1 : D.nx 0 = st.m.nx := hnx0
           have e2 : D.nx ops.size = sN.st.m.nx := hnxN
           rw [e1, e2] at this
           exact this
         have hre := I.re.sup hsub
         rw [hKX] at hre
         have hra := I.ra
         rw [hTX] at hra
         exact hfin hpn B' a' w' hag hsf.2.1 hre ⟨hra.ag (fun _ _ => rfl) hsub, I.df.trans (dfx hag), dbx⟩
       · have hX0 : (fun k => (Array.replicate ops.size false).getD k false = true) = fun _ => False := by
           funext k
           apply propext
           simp [Array.getD_eq_getD_getElem?, Array.getElem?_replicate]
           split <;> simp
         rw [hX0]
         have hsub : ∀ j, S j → D.Sx (fun _ => False) j := fun j h => Or.inl h
         have hKX : D.KX (fun _ => False) = st.m.K.get := by
           rw [← hV0]
           funext j
           exact QdQ (i := 0) ops.size (Nat.zero_le _) (fun q _ _ h => h.elim)
         have hTX : D.TX (fun _ => False) = fr.T.get := by
           rw [← hT0]
           funext t
           exact QdQ (i := 0) ops.size (Nat.zero_le _) (fun q _ _ h => h.elim)
         refine ⟨fun _ _ => rfl, fun i _ h => h.elim, fun k _ h => h.elim, fun k j b _ h => h.elim, ?_, ?_, A.df, fun k _ h => h.elim⟩
         · rw [hKX]; exact (Ql4 R).sup hsub
         · rw [hTX]; exact A.ra.ag (fun _ _ => rfl) hsub
      cases hpd : sN.pd with
      | none =>
        unfold endD at h
        rw [hpd] at h
        simp only [Prod.mk.injEq] at h
        obtain ⟨rfl, rfl, rfl⟩ := h
        exact ⟨hsf, rfl, fun tr w0 F B S a w id Q hS R A hfin => main tr w0 F B S a w id Q hS R A (fun q hq => by rw [hpd] at hq; cases hq) (fun _ B' a' w' g1 g2 g3 g4 => hfin B' a' w' g1 g2 g3 g4)⟩
      | some q =>
        unfold endD at h
        rw [hpd] at h
        simp only [Prod.mk.injEq] at h
        obtain ⟨rfl, rfl, rfl⟩ := h
        have hpd' := hpd
        rw [← hC] at hpd'
        obtain ⟨hlt, o, st1, st2, ms, ho, hg, hr, he, h5, hcnd, hkd, hnx2, hms, hV⟩ := C.pd_src hih ops.size (Nat.le_refl _) q hpd'
        refine ⟨⟨hsf.1, ?_⟩, rfl, fun tr w0 F B S a w id Q hS R A hfin => main tr w0 F B S a w id Q hS R A (fun q' hq B' a' w' g1 g2 g3 g4 => ?_) (fun h => by rw [hpd] at h; cases h)⟩
        · obtain ⟨n3, l3, e3, f3, f4⟩ := hsf.2
          obtain ⟨_, n1, l1, e1, f1, _⟩ := C.sfx hih (i := 0) (q.1 + 1) (Nat.zero_le _) (by omega)
          obtain ⟨_, n2, l2, e2, _, _⟩ := C.sfx hih (i := q.1 + 1) ops.size (by omega) (Nat.le_refl _)
          have z0 : (C.sq 0).st = st := by rw [hz]; rfl
          rw [z0] at e1 f1 n1
          rw [hC] at e2 n2
          have hl : l3 = l2 ++ l1 := List.append_cancel_right (by rw [← e3, e2, e1, List.append_assoc])
          refine ⟨n3, l3, e3, fun j hj hn => ?_, f4⟩
          simp only at hj
          have hjm : j ∉ ms.map (·.2) := fun hjm => by
            obtain ⟨r, hr1, rfl⟩ := List.mem_map.1 hjm
            rw [hms] at hr1
            obtain ⟨a1, a2, a3, _⟩ := (C.lists hih q.1 (by omega)).1 r (List.mem_filter.1 hr1).1
            have b1 := C.nx_mono hih (Nat.zero_le r.1) (by omega)
            have b2 := C.nx_mono hih (by omega : r.1 + 1 ≤ ops.size) (Nat.le_refl _)
            omega
          have hv := hV j
          rw [Qcm _ _ _ _ h5, if_neg hjm] at hv
          simp only
          rw [he, ← hv]
          exact f1 j (by omega) (fun h => hn (by rw [hl]; exact List.mem_append_right _ h))
        · rw [hpd] at hq
          simp only [Option.some.injEq] at hq
          subst hq
          exact hfin B' a' w' g1 hsf.2.1 g2 g3 g4
    · cases h
def QeM (x : Option SV) (m : Mm) : Option (SV × Mm) := match x with
  | some v => some (v, m)
  | none => none
def oLoad2 (P : Program) (m : Mm) (ty : TypeId) (i off : Nat) : Option (SV × Mm) := match m.K.get i with
  | some k => QeM (ldE P ty k.cs off) m
  | none => none
def oLoad (P : Program) (m : Mm) (ty : TypeId) (x : Option SV) : Option (SV × Mm) := match x with
  | some (.p i off) => oLoad2 P m ty i off
  | _ => none
def oStore3 (m : Mm) (i : Nat) (k : Bx) (cs : Option (List SV)) : Option (SV × Mm) := match cs with
  | some cs => some (.v undef, m.upd i ⟨k.ty, cs, k.sz, k.mp, k.es⟩)
  | none => none
def oStore2 (P : Program) (m : Mm) (ty : TypeId) (i off : Nat) (v : SV) : Option (SV × Mm) := match m.K.get i, QaE i with
  | some k, true => oStore3 m i k (stE P ty k.cs off v)
  | _, _ => none
def oStore (P : Program) (m : Mm) (ty : TypeId) (x y : Option SV) : Option (SV × Mm) := match x, y with
  | some (.p i off), some v => oStore2 P m ty i off v
  | _, _ => none
def oAlloc (m : Mm) (ty : TypeId) (z : Option (List Value)) (b : Bool) : Option (SV × Mm) := match z, b with
  | some cs, true => some (.p m.nx 0, m.new ⟨ty, cs.map .v, 0, false, []⟩)
  | _, _ => none
def oBox (m : Mm) (ty : TypeId) (z : Option SV) (b : Bool) : Option (SV × Mm) := match z, b with
  | some v, true => some (.p m.nx 0, m.new ⟨ty, Qby v, 0, false, []⟩)
  | _, _ => none
def oBuild (P : Program) (ρ : Rho) (m : Mm) (o : Oper) (t : TypeId) (parts : Array (Nat × Operand)) : Option (SV × Mm) := match Qgk P ρ o with
  | some x => some (x, m)
  | none => match Qc5 ρ (parts.toList.map (·.2)) with
    | some vs => match bldE P t ((parts.toList.map (·.1)).zip vs) with
      | some cs => some (Qgs cs, m)
      | none => none
    | none => none
def Qh0 (P : Program) (ρ : Rho) (m : Mm) (t : TypeId) (len : Nat) (parts : Array (Nat × Operand)) : Option (SV × Mm) := match Qc5 ρ (parts.toList.map (·.2)), QaE m.nx with
  | some vs, true => match Qkh P t len ((parts.toList.map (·.1)).zip vs) with
    | some k => some (.s m.nx 0 len len, m.new k)
    | none => none
  | _, _ => none
def QjT (P : Program) (m : Mm) (t : TypeId) (f : Nat) (x : Option SV) : Option (SV × Mm) := match x with
  | some (.p i off) => match SZ.fieldS P t f with
    | some q => some (.p i (off + q), m)
    | none => none
  | _ => none
def oIdx (i off : Nat) (m : Mm) (q : Option Nat) : Option (SV × Mm) := match q with
  | some q => some (.p i (off + q), m)
  | none => none
def QjS (P : Program) (m : Mm) (t : TypeId) (x y : Option SV) : Option (SV × Mm) := match x, y with
  | some (.s i off l _), some iv => match Qgq iv with
    | some n => oIdx i off m (idxE P t l n)
    | none => none
  | some (.r i off l _), some iv => match Qgq iv with
    | some n => oIdx i off m (idxE P t l n)
    | none => none
  | some (.p i off), some iv => match Qgq iv with
    | some n => oIdx i off m (aidxE P t n)
    | none => none
  | _, _ => none
def Qlo (fn : FuncId) (a b : Option (List SV)) (m : Mm) : Option (SV × Mm) := match a, b with
  | some a, some b => some (.f fn a b, m)
  | _, _ => none
def oField (P : Program) (ρ : Rho) (m : Mm) (o : Oper) (t : TypeId) (f : Nat) (x : Option SV) : Option (SV × Mm) := match x with
  | some (.g cs) => QeM (fldE P t cs f) m
  | _ => QeM (Qa9 P ρ o) m
def oMakeIf (P : Program) (m : Mm) (ty : TypeId) (x : Option SV) : Option (SV × Mm) := match x, (P.underlying ty).map isIfc with
  | some v, some false => some (mkIf ty v, m)
  | _, _ => none
def oAssert (P : Program) (ρ : Rho) (m : Mm) (o : Oper) (t : TypeId) (ok : Bool) (x : Option SV) : Option (SV × Mm) := match x with
  | some (.e ty v) => QeM (tasE P ty v t ok) m
  | _ => QeM (Qa9 P ρ o) m
def oExtract (P : Program) (ρ : Rho) (m : Mm) (o : Oper) (ix : Nat) (x : Option SV) : Option (SV × Mm) := match x with
  | some (.t cs) => QeM (cs[ix]?) m
  | _ => QeM (Qa9 P ρ o) m
def oPick (m : Mm) (c x y : Option SV) : Option (SV × Mm) := match c with
  | some (.v (.bool true)) => QeM x m
  | some (.v (.bool false)) => QeM y m
  | _ => none
def oNil (P : Program) (ρ : Rho) (m : Mm) (o : Oper) (x : Option SV) : Option (SV × Mm) := match x with
  | some (.p i off) => some (.p i off, m)
  | some (.s i off l c) => some (.s i off l c, m)
  | some (.r i off l c) => some (.r i off l c, m)
  | some (.f g a b) => some (.f g a b, m)
  | some (.e t v) => some (.e t v, m)
  | _ => QeM (Qa9 P ρ o) m
def oSlice (P : Program) (ρ : Rho) (m : Mm) (o : Oper) (t : TypeId) (lo hi mx : Option Operand) (x : Option SV) : Option (SV × Mm) := match x with
  | some (.s i off l c) => QeM (QkL P ρ t (.s i off l c) lo hi mx) m
  | some (.r i off l c) => QeM (QkL P ρ t (.r i off l c) lo hi mx) m
  | some (.z i off q) => QeM (QkL P ρ t (.z i off q) lo hi mx) m
  | _ => QeM (Qa9 P ρ o) m
def oEq2 (P : Program) (ρ : Rho) (m : Mm) (o : Oper) (ty : TypeId) (x y : Operand) (z : Bool) (b : Bool) : Option (SV × Mm) := match b with
  | true => some (.v (.bool z), m)
  | false => QeM (eqE P ρ o ty x y z) m
def oEq (P : Program) (ρ : Rho) (m : Mm) (o : Oper) (ty : TypeId) (z : Bool) (xo yo : Operand) (x y : Option SV) : Option (SV × Mm) := match x, y with
  | some u, some v => oEq2 P ρ m o ty xo yo z (Qh8 P ty u v)
  | _, _ => none
def oBin (P : Program) (ρ : Rho) (m : Mm) (o : Oper) (b : BinOp) (ty : TypeId) (x y : Operand) : Option (SV × Mm) := match b with
  | .eql => oEq P ρ m o ty false x y (ρ x) (ρ y)
  | .neq => oEq P ρ m o ty true x y (ρ x) (ρ y)
  | _ => QeM (Qa9 P ρ o) m
def oMake2 (P : Program) (m : Mm) (t : TypeId) (a b : Option Nat) : Option (SV × Mm) := match a, b with
  | some a, some b => match mkE P t a b with
    | some k => some (.s m.nx 0 a b, m.new k)
    | none => none
  | _, _ => none
def oMake (P : Program) (m : Mm) (t : TypeId) (l c : Option SV) (b : Bool) : Option (SV × Mm) := match l, c, b with
  | some lv, some cv, true => oMake2 P m t (Qgq lv) (Qgq cv)
  | _, _, _ => none
def oLen (P : Program) (ρ : Rho) (m : Mm) (o : Oper) (x : Option SV) (d : Option TypeDesc) : Option (SV × Mm) := match x, d with
  | some (.s _ _ l _), some (.slice _) => some (.v (goInt l), m)
  | some (.r _ _ l _), some (.slice _) => some (.v (goInt l), m)
  | some (.z _ _ _), some (.slice _) => some (.v (goInt (0 : Nat)), m)
  | _, _ => QeM (Qa9 P ρ o) m
def oCall (P : Program) (ρ : Rho) (m : Mm) (o : Oper) (c : Call) : Option (SV × Mm) := match c with
  | ⟨.builtin .len, ⟨[x]⟩, ⟨[t]⟩⟩ => oLen P ρ m o (ρ x) (P.underlying t)
  | _ => QeM (Qa9 P ρ o) m
def oFn (P : Program) (ρ : Rho) (m : Mm) (o : Oper) (fn : Fn) (first caps : Array Operand) : Option (SV × Mm) := match fn with
  | .func fn => Qlo fn (Qc5 ρ first.toList) (Qc5 ρ caps.toList) m
  | _ => QeM (Qa9 P ρ o) m
abbrev QcZ := Program → Rho → Mm → Oper → Option (SV × Mm)
def Qc1 : QcZ := fun P ρ m o => QeM (Qa9 P ρ o) m
def kMove (x : Operand) : QcZ := fun _ ρ m _ => QeM (ρ x) m
def kPick (c x y : Operand) : QcZ := fun _ ρ m _ => oPick m (ρ c) (ρ x) (ρ y)
def kAlloc (ty : TypeId) : QcZ := fun P _ m _ => oAlloc m ty (SZ.zeroS P ty) (QaE m.nx)
def kBox (ty : TypeId) (x : Operand) : QcZ := fun _ ρ m _ => oBox m ty (ρ x) (QaE m.nx)
def kBuild (t : TypeId) (parts : Array (Nat × Operand)) : QcZ := fun P ρ m o => oBuild P ρ m o t parts
def Qh6 (t : TypeId) (len : Nat) (parts : Array (Nat × Operand)) : QcZ := fun P ρ m _ => Qh0 P ρ m t len parts
def QlJ (_ : TypeId) (_ _ _ : Operand) : QcZ := Qc1
def kInsert (t : TypeId) (x k v : Operand) : QcZ := fun P ρ m _ => insE P m t (ρ x) (ρ k) (ρ v)
def kLoad (ty : TypeId) (x : Operand) : QcZ := fun P ρ m _ => oLoad P m ty (ρ x)
def kStore (ty : TypeId) (x y : Operand) : QcZ := fun P ρ m _ => oStore P m ty (ρ x) (ρ y)
def QlI (_ : Nat) : QcZ := Qc1
def kNil (x : Operand) : QcZ := fun P ρ m o => oNil P ρ m o (ρ x)
def kBin (b : BinOp) (ty : TypeId) (x y : Operand) (_ : TypeId) : QcZ := fun P ρ m o => oBin P ρ m o b ty x y
def kUn (_ : UnOp) (_ : TypeId) (_ : Operand) : QcZ := Qc1
def kConv (_ _ : TypeId) (_ : Operand) : QcZ := Qc1
def kArr (_ : TypeId) (_ : Operand) : QcZ := Qc1
def kMakeIf (ty : TypeId) (x : Operand) : QcZ := fun P ρ m _ => oMakeIf P m ty (ρ x)
def kFn (fn : Fn) (first caps : Array Operand) : QcZ := fun P ρ m o => oFn P ρ m o fn first caps
def kMakeMap (t : TypeId) (r : Option Operand) : QcZ := fun P ρ m o => match r with
  | none => mkmE m t (QaE m.nx)
  | some _ => QeM (Qa9 P ρ o) m
def kMake (t : TypeId) (l c : Operand) : QcZ := fun P ρ m _ => oMake P m t (ρ l) (ρ c) (QaE m.nx)
def kSlice (t : TypeId) (x : Operand) (lo hi mx : Option Operand) : QcZ := fun P ρ m o => oSlice P ρ m o t lo hi mx (ρ x)
def Qj1 (t : TypeId) (x : Operand) (f : Nat) : QcZ := fun P ρ m _ => QjT P m t f (ρ x)
def kField (t : TypeId) (x : Operand) (f : Nat) : QcZ := fun P ρ m o => oField P ρ m o t f (ρ x)
def Qj0 (t : TypeId) (x ix : Operand) : QcZ := fun P ρ m _ => QjS P m t (ρ x) (ρ ix)
def kPlainT (_ : TypeId) (_ _ : Operand) : QcZ := Qc1
def oIndex (P : Program) (ρ : Rho) (m : Mm) (o : Oper) (t : TypeId) (ix : Operand) (x : Option SV) : Option (SV × Mm) := match x with
  | some (.g cs) => QeM (elX P t cs (ρ ix)) m
  | _ => QeM (Qa9 P ρ o) m
def kIndex (t : TypeId) (x ix : Operand) : QcZ := fun P ρ m o => oIndex P ρ m o t ix (ρ x)
def kLookup (t : TypeId) (x ix : Operand) (ok : Bool) : QcZ := fun P ρ m _ => lkE P m t (ρ x) (ρ ix) ok
def kNext (_ : Operand) (_ : Bool) : QcZ := Qc1
def kEntry (_ : Operand) : QcZ := Qc1
def kAssert (x : Operand) (_ t : TypeId) (ok : Bool) : QcZ := fun P ρ m o => oAssert P ρ m o t ok (ρ x)
def kExtract (x : Operand) (ix : Nat) : QcZ := fun P ρ m o => oExtract P ρ m o ix (ρ x)
def kCall (c : Call) : QcZ := fun P ρ m o => oCall P ρ m o c
def kGo (_ : Call) : QcZ := Qc1
def kSend (_ _ : Operand) : QcZ := Qc1
def kRecv (_ : TypeId) (_ : Operand) (_ : Bool) : QcZ := Qc1
def kSelect (_ : Array SelectCase) (_ : Bool) : QcZ := Qc1
noncomputable def opK : Op → QcZ := @Op.rec (fun _ => QcZ) kMove kMove kPick kAlloc kBox kBuild Qh6 kInsert kLoad kStore QlI QlI kNil kBin kUn kConv kArr kMakeIf kFn kMakeMap kArr kMake kSlice Qj1 kField Qj0 kIndex kLookup QlJ kPlainT QlJ kArr kNext kEntry kAssert kExtract kCall kGo kGo kEntry kSend kRecv kSelect
noncomputable def opF0 (P : Program) (ρ : Rho) (m : Mm) (o : Oper) : Option (SV × Mm) := opK o.op P ρ m o
theorem opF0_eq (P : Program) (ρ : Rho) (m : Mm) (o : Oper) : opF0 P ρ m o = opE0 P ρ m o := by
  obtain ⟨dst, op, ty, pos, after, guard⟩ := o
  cases op
  case call c =>
    obtain ⟨cal, ⟨args⟩, ⟨tys⟩⟩ := c
    cases cal with
    | builtin b =>
      cases b <;> try rfl
      rcases args with _ | ⟨x, _ | ⟨y, r⟩⟩ <;> try rfl
      rcases tys with _ | ⟨t, _ | ⟨t', r'⟩⟩ <;> rfl
    | _ => rfl
  case binOp b xt x y yt => cases b <;> rfl
  case makeFunc fn a b => cases fn <;> rfl
  case makeMap t r => cases r <;> rfl
  all_goals rfl
noncomputable def opF (P : Program) (ρ : Rho) (m : Mm) (o : Oper) : Option (SV × Mm) := match opF0 P ρ m o with
  | some r => some r
  | none => opX P ρ m o
theorem QfN (P : Program) (ρ : Rho) (m : Mm) (o : Oper) : opF P ρ m o = opE P ρ m o := by
  unfold opF opE
  rw [opF0_eq]
  cases opE0 P ρ m o <;> rfl
abbrev Ih := Job → St → Option Ou
def rEnd (o : Option Ou) : Option (Or × St) := match o with
  | some ⟨.ret y, st'⟩ => some (.val y, st')
  | some ⟨.pan y, st'⟩ => some (.pan y, st')
  | _ => none
noncomputable def rCallV (P : Program) (ih : Ih) (ρ : Rho) (st : St) (o : Oper) (t : Option (FuncId × List SV × List SV)) : Option (Or × St) := match t with
  | some (f, as, caps) => rEnd (ih (.call f (as ++ caps)) st)
  | none => hold st.m st (opF P ρ st.m o)
noncomputable def QiP (P : Program) (ρ : Rho) (st : St) (o : Oper) (b : Builtin) : Option (Or × St) := match b with
  | .append => hold st.m st (apE P ρ st.m o)
  | .copy => hold st.m st (cpE P ρ st.m o)
  | _ => hold st.m st (opF P ρ st.m o)
noncomputable def rCall (P : Program) (ih : Ih) (ρ : Rho) (st : St) (o : Oper) (c : Callee) (args : Array Operand) : Option (Or × St) := match c with
  | .value x => rCallV P ih ρ st o (tgtE P ρ x args)
  | .builtin b => QiP P ρ st o b
  | .invoke _ _ => hold st.m st (opF P ρ st.m o)
def rPanic (st : St) (x : Option SV) : Option (Or × St) := match x with
  | some v => match isIf v with
    | true => some (.pan v, st)
    | false => none
  | none => none
noncomputable def rDefer (P : Program) (ρ : Rho) (st : St) (o : Oper) (c : Callee) (args : Array Operand) : Option (Or × St) := match c with
  | .value x => match tgtE P ρ x args with
    | some (f, as, caps) => some (.dfr ⟨f, as, caps⟩, st)
    | none => none
  | _ => hold st.m st (opF P ρ st.m o)
def rPick2 (ρ : Rho) (x y : Operand) (b : Option (Bool × St)) : Option (Or × St) := match b with
  | some (true, st') => match ρ x with
    | some z => some (.val z, st')
    | none => none
  | some (false, st') => match ρ y with
    | some z => some (.val z, st')
    | none => none
  | none => none
def rPick (ρ : Rho) (st : St) (x y : Operand) (c : Option SV) : Option (Or × St) := match c with
  | some v => rPick2 ρ x y (Qjv v st)
  | none => none
abbrev QdE := Program → Ih → Rho → St → Oper → Option (Or × St)
noncomputable def Qcw : QdE := fun P _ ρ st o => hold st.m st (opF P ρ st.m o)
noncomputable def qAsk : QdE := fun P _ ρ st o => QlL st (opF P ρ st.m o) (Qki P ρ o)
noncomputable def qIdx (_ : TypeId) (_ _ : Operand) : QdE := qAsk
noncomputable def q1 (_ : Operand) : QdE := Qcw
noncomputable def qPick (c x y : Operand) : QdE := fun _ _ ρ st _ => rPick ρ st x y (ρ c)
noncomputable def qT (_ : TypeId) : QdE := Qcw
noncomputable def qT1 (_ : TypeId) (_ : Operand) : QdE := Qcw
noncomputable def qBuild (_ : TypeId) (_ : Array (Nat × Operand)) : QdE := Qcw
noncomputable def Qfb (_ : TypeId) (_ : Nat) (_ : Array (Nat × Operand)) : QdE := Qcw
noncomputable def qT3 (_ : TypeId) (_ _ _ : Operand) : QdE := Qcw
noncomputable def qT2 (_ : TypeId) (_ _ : Operand) : QdE := Qcw
noncomputable def qN (_ : Nat) : QdE := Qcw
noncomputable def qBin (_ : BinOp) (_ : TypeId) (_ _ : Operand) (_ : TypeId) : QdE := qAsk
noncomputable def qUn (_ : UnOp) (_ : TypeId) (_ : Operand) : QdE := Qcw
noncomputable def qConv (_ _ : TypeId) (_ : Operand) : QdE := Qcw
noncomputable def qFn (_ : Fn) (_ _ : Array Operand) : QdE := Qcw
noncomputable def QiQ (_ : TypeId) (_ : Option Operand) : QdE := Qcw
noncomputable def qSlice (_ : TypeId) (_ : Operand) (_ _ _ : Option Operand) : QdE := Qcw
noncomputable def qF (_ : TypeId) (_ : Operand) (_ : Nat) : QdE := Qcw
noncomputable def Qk9 (t : TypeId) (x ix : Operand) (ok : Bool) : QdE := fun P _ ρ st o => lookR P ρ st t x ix ok (opF P ρ st.m o)
noncomputable def qNext (_ : Operand) (_ : Bool) : QdE := Qcw
noncomputable def Ql_ (_ : Operand) (_ _ : TypeId) (_ : Bool) : QdE := Qcw
noncomputable def QiR (_ : Operand) (_ : Nat) : QdE := Qcw
noncomputable def qCall (c : Call) : QdE := fun P ih ρ st o => rCall P ih ρ st o c.callee c.args
noncomputable def qGo (_ : Call) : QdE := Qcw
noncomputable def qDefer (c : Call) : QdE := fun P _ ρ st o => rDefer P ρ st o c.callee c.args
noncomputable def qPanic (x : Operand) : QdE := fun _ _ ρ st _ => rPanic st (ρ x)
noncomputable def qSend (_ _ : Operand) : QdE := Qcw
noncomputable def qRecv (_ : TypeId) (_ : Operand) (_ : Bool) : QdE := Qcw
noncomputable def Qk8 (_ : Array SelectCase) (_ : Bool) : QdE := Qcw
noncomputable def opRK : Op → QdE := @Op.rec (fun _ => QdE) q1 q1 qPick qT qT1 qBuild Qfb qT3 qT1 qT2 qN qN q1 qBin qUn qConv qT1 qT1 qFn QiQ qT1 qT2 qSlice qF qF qIdx qT2 Qk9 qT3 qT2 qT3 qT1 qNext q1 Ql_ QiR qCall qGo qDefer qPanic qSend qRecv Qk8
noncomputable def opRF (P : Program) (ih : Ih) (ρ : Rho) (st : St) (o : Oper) : Option (Or × St) := opRK o.op P ih ρ st o
theorem QhX (P : Program) (ih : Ih) (ρ : Rho) (st : St) (o : Oper) : opRF P ih ρ st o = opR P ih ρ st o := by
  obtain ⟨dst, op, ty, pos, after, guard⟩ := o
  unfold opRF opR
  cases op <;> simp only [opRK, Qcw, qAsk, qIdx, q1, qPick, qT, qT1, qBuild, Qfb, qT3, qT2, qN, qBin, qUn, qConv, qFn, QiQ, qSlice, qF, Qk9, qNext, Ql_, QiR, qCall, qGo, qDefer, qPanic, qSend, qRecv, Qk8]
  case call c =>
    obtain ⟨cal, args, tys⟩ := c
    cases cal with
    | builtin b => cases b <;> simp only [rCall, QiP, QfN]
    | value x =>
      simp only [rCall, rCallV, QfN]
      cases tgtE P ρ x args with
      | none => rfl
      | some t =>
        obtain ⟨f, as, caps⟩ := t
        simp only [rEnd]
        cases ih (.call f (as ++ caps)) st with
        | none => rfl
        | some u => obtain ⟨e, s⟩ := u; cases e <;> rfl
    | invoke _ _ => simp only [rCall, QfN]
  case defer c =>
    obtain ⟨cal, args, tys⟩ := c
    cases cal <;> simp only [rDefer, QfN]
    rfl
  case panic x => simp only [rPanic]; rfl
  case pick c x y =>
    simp only [rPick]
    cases ρ c with
    | none => rfl
    | some v =>
      simp only [rPick2]
      cases Qjv v st with
      | none => rfl
      | some b => obtain ⟨b, s⟩ := b; cases b <;> rfl
  all_goals simp only [QfN]
def dSet (s : Ds) (o : Oper) (st1 : St) (x : SV) : Ds := ⟨Qed s.T o.dst x, st1, s.cl, s.nl, s.ol, s.rl, x, [], .pure, s.pd⟩
def dNew (i : Nat) (s : Ds) (o : Oper) (st1 : St) (x : SV) (k : Option Bx) (b : Bool) : Option Ds := match k, b with
  | some k, true => some ⟨Qed s.T o.dst x, ⟨⟨st1.m.K.set st1.m.nx (some k), st1.m.nx + 1, st1.m.lg⟩, st1.orc, st1.cnd⟩, s.cl, (i, st1.m.nx) :: s.nl, (i, st1.m.nx, st1.m.nx + 1) :: s.ol, s.rl, x, [], .new, s.pd⟩
  | _, _ => none
def dPure (i : Nat) (s : Ds) (o : Oper) (st1 : St) (x : SV) (m' : Mm) (b : Bool) : Option Ds := match b with
  | true => some (dSet s o st1 x)
  | false => dNew i s o st1 x (m'.K.get st1.m.nx) (QaE st1.m.nx && Nat.beq m'.nx (st1.m.nx + 1))
def dOne (i : Nat) (s : Ds) (o : Oper) (st1 : St) (a : Nat) (x : Option SV) (b : Bool) : Option Ds := match x, b with
  | some x, true => some ⟨Qed s.T o.dst x, st1, s.cl, s.nl, s.ol, (i, a) :: s.rl, x, [], .one a, s.pd⟩
  | _, _ => none
def dLoad2 (P : Program) (pm : Tr Nat) (nx0 i : Nat) (s : Ds) (o : Oper) (st1 : St) (ty : TypeId) (a off : Nat) (k : Option Bx) : Option Ds := match k with
  | some k => dOne i s o st1 a (ldE P ty k.cs off) (QkN nx0 pm i s.ol a && s.cl.all fun c => QaQ pm i c.1 || !(c.2.contains a))
  | none => none
def dLoad (P : Program) (pm : Tr Nat) (nx0 i : Nat) (s : Ds) (o : Oper) (st1 : St) (ty : TypeId) (x : Option SV) : Option Ds := match x with
  | some (.p a off) => dLoad2 P pm nx0 i s o st1 ty a off (st1.m.K.get a)
  | _ => none
def dFree (pm : Tr Nat) (i : Nat) (rl : List (Nat × Nat)) (lg : List Nat) (mk : List (Nat × Nat)) : Bool := (rl.all fun r => QaQ pm i r.1 || !(lg.contains r.2)) && mk.all fun q => QaE q.2
def dVal (i : Nat) (s : Ds) (o : Oper) (st1 : St) (mk : List (Nat × Nat)) (x : SV) (st2 : St) (b : Bool) : Option Ds := match b with
  | true => some ⟨Qed s.T o.dst x, ⟨⟨QbG st1.m.K mk st2.m.K, st2.m.nx, st2.m.lg ++ st1.m.lg⟩, st2.orc, st2.cnd⟩, (i, st2.m.lg) :: s.cl, s.nl, (i, st1.m.nx, st2.m.nx) :: s.ol, s.rl, x, st2.m.lg, .chain mk, s.pd⟩
  | false => none
def dPan (i : Nat) (s : Ds) (o : Oper) (st1 : St) (mk : List (Nat × Nat)) (x : SV) (st2 : St) (pd : Option (Nat × SV × Mm)) (b : Bool) : Option Ds := match pd, b with
  | none, true => some ⟨Qed s.T o.dst (.v undef), ⟨⟨QbG st1.m.K mk st2.m.K, st2.m.nx, st2.m.lg ++ st1.m.lg⟩, st2.orc, st2.cnd⟩, (i, st2.m.lg) :: s.cl, s.nl, (i, st1.m.nx, st2.m.nx) :: s.ol, s.rl, .v undef, st2.m.lg, .chain mk, some (i, x, st2.m)⟩
  | _, _ => none
noncomputable def dCh2 (pm : Tr Nat) (i : Nat) (s : Ds) (o : Oper) (st1 : St) (mk : List (Nat × Nat)) (r : Option (Or × St)) : Option Ds := match r with
  | some (.val x, st2) => dVal i s o st1 mk x st2 (dFree pm i s.rl st2.m.lg mk)
  | some (.pan x, st2) => dPan i s o st1 mk x st2 s.pd (dFree pm i s.rl st2.m.lg mk)
  | _ => none
noncomputable def Qma (P : Program) (ih : Ih) (ρ : Rho) (pm : Tr Nat) (i : Nat) (s : Ds) (o : Oper) (st1 : St) (mk : List (Nat × Nat)) (b : Bool) : Option Ds := match b with
  | true => dCh2 pm i s o st1 mk (opRF P ih ρ ⟨⟨Qd0 mk st1.m.K, st1.m.nx, []⟩, st1.orc, st1.cnd⟩ o)
  | false => none
noncomputable def dElse (P : Program) (ih : Ih) (ρ : Rho) (pm : Tr Nat) (nx0 i : Nat) (s : Ds) (o : Oper) (st1 : St) : Option Ds := match o.op with
  | .load ty y => dLoad P pm nx0 i s o st1 ty (ρ y)
  | _ => Qma P ih ρ pm i s o st1 (s.nl.filter fun q => !QaQ pm i q.1) (QdD pm i s.cl)
noncomputable def dNext (P : Program) (ih : Ih) (ρ : Rho) (pm : Tr Nat) (nx0 i : Nat) (s : Ds) (o : Oper) (st1 : St) (r : Option (SV × Mm)) : Option Ds := match r with
  | some (x, m') => dPure i s o st1 x m' (Nat.beq m'.nx st1.m.nx)
  | none => dElse P ih ρ pm nx0 i s o st1
theorem dNext_eq (P : Program) (ih : Ih) (ρ : Rho) (pm : Tr Nat) (nx0 i : Nat) (s : Ds) (o : Oper) (st1 : St) :
    dNext P ih ρ pm nx0 i s o st1 (opF P ρ ⟨.leaf, st1.m.nx, []⟩ o) = Qg8 P ih ρ pm nx0 i s o st1 := by
  rw [QfN]
  unfold dNext Qg8
  cases opE P ρ ⟨.leaf, st1.m.nx, []⟩ o with
  | some r =>
    obtain ⟨x, m'⟩ := r
    simp only [dPure]
    cases Nat.beq m'.nx st1.m.nx with
    | true => rfl
    | false =>
      simp only [dNew]
      cases m'.K.get st1.m.nx with
      | none => rfl
      | some k => cases QaE st1.m.nx && Nat.beq m'.nx (st1.m.nx + 1) <;> rfl
  | none =>
    have key : Qma P ih ρ pm i s o st1 (s.nl.filter fun q => !QaQ pm i q.1) (QdD pm i s.cl) = (match QdD pm i s.cl with
      | true => match opR P ih ρ ⟨⟨Qd0 (s.nl.filter fun q => !QaQ pm i q.1) st1.m.K, st1.m.nx, []⟩, st1.orc, st1.cnd⟩ o with
        | some (.val x, st2) => match (s.rl.all fun r => QaQ pm i r.1 || !(st2.m.lg.contains r.2)) && (s.nl.filter fun q => !QaQ pm i q.1).all fun q => QaE q.2 with
          | true => some ⟨Qed s.T o.dst x, ⟨⟨QbG st1.m.K (s.nl.filter fun q => !QaQ pm i q.1) st2.m.K, st2.m.nx, st2.m.lg ++ st1.m.lg⟩, st2.orc, st2.cnd⟩, (i, st2.m.lg) :: s.cl, s.nl, (i, st1.m.nx, st2.m.nx) :: s.ol, s.rl, x, st2.m.lg, .chain (s.nl.filter fun q => !QaQ pm i q.1), s.pd⟩
          | false => none
        | some (.pan x, st2) => match s.pd, (s.rl.all fun r => QaQ pm i r.1 || !(st2.m.lg.contains r.2)) && (s.nl.filter fun q => !QaQ pm i q.1).all fun q => QaE q.2 with
          | none, true => some ⟨Qed s.T o.dst (.v undef), ⟨⟨QbG st1.m.K (s.nl.filter fun q => !QaQ pm i q.1) st2.m.K, st2.m.nx, st2.m.lg ++ st1.m.lg⟩, st2.orc, st2.cnd⟩, (i, st2.m.lg) :: s.cl, s.nl, (i, st1.m.nx, st2.m.nx) :: s.ol, s.rl, .v undef, st2.m.lg, .chain (s.nl.filter fun q => !QaQ pm i q.1), some (i, x, st2.m)⟩
          | _, _ => none
        | _ => none
      | false => none) := by
      unfold Qma
      cases QdD pm i s.cl with
      | false => rfl
      | true =>
        simp only [QhX]
        cases opR P ih ρ ⟨⟨Qd0 (s.nl.filter fun q => !QaQ pm i q.1) st1.m.K, st1.m.nx, []⟩, st1.orc, st1.cnd⟩ o with
        | none => rfl
        | some r =>
          obtain ⟨r, st2⟩ := r
          cases r with
          | val x => simp only [dCh2, dVal, dFree]
          | dfr d => rfl
          | pan x =>
            simp only [dCh2, dPan, dFree]
    simp only [dElse]
    obtain ⟨dst, op, ty, pos, after, guard⟩ := o
    cases op
    case load t y =>
      simp only [dLoad]
      cases ρ y with
      | none => rfl
      | some v => cases v <;> rfl
    all_goals exact key
noncomputable def dAsk (P : Program) (ih : Ih) (ρ : Rho) (pm : Tr Nat) (nx0 i : Nat) (s : Ds) (o : Oper) (st1 : St) (q : Option (SV × List (Value × Value))) : Option Ds := match q with
  | some (x, ps) => some ⟨Qed s.T o.dst x, ⟨st1.m, st1.orc, ps ++ st1.cnd⟩, s.cl, s.nl, s.ol, s.rl, x, [], .pure, s.pd⟩
  | none => dNext P ih ρ pm nx0 i s o st1 (opF P ρ ⟨.leaf, st1.m.nx, []⟩ o)
theorem dAsk_eq (P : Program) (ih : Ih) (ρ : Rho) (pm : Tr Nat) (nx0 i : Nat) (s : Ds) (o : Oper) (st1 : St) :
    dAsk P ih ρ pm nx0 i s o st1 (Qki P ρ o) = Qlw P ih ρ pm nx0 i s o st1 := by
  unfold Qlw
  cases Qki P ρ o with
  | some r => obtain ⟨x, ps⟩ := r; rfl
  | none => exact dNext_eq ..
noncomputable def dGuard (P : Program) (ih : Ih) (pm wr : Tr Nat) (nx0 i : Nat) (s : Ds) (o : Oper) (g : Option (Bool × St)) : Option Ds := match g with
  | some (false, st1) => some (dSet s o st1 (.v undef))
  | some (true, st1) => dAsk P ih (QfI s.T wr pm i) pm nx0 i s o st1 (Qki P (QfI s.T wr pm i) o)
  | none => none
noncomputable def dLive (P : Program) (ih : Ih) (ops : Array Oper) (pm wr : Tr Nat) (nx0 i : Nat) (s : Ds) (o : Oper) (b : Bool) : Option Ds := match b with
  | true => some (dSet s o s.st (.v undef))
  | false => dGuard P ih pm wr nx0 i s o (gE ops (QfI s.T wr pm i) o s.st)
def maskB (n : Nat) (pm wr : Tr Nat) (i : Nat) (o : Oper) : Bool := match Qdf pm i o.after.toList, pm.get i with
  | some p, some p' => Nat.beq p p' && QfD n wr i o.dst
  | _, _ => false
noncomputable def dStep2 (P : Program) (ih : Ih) (ops : Array Oper) (pm wr : Tr Nat) (nx0 n i : Nat) (s : Ds) (o : Oper) (b : Bool) : Option Ds := match b with
  | true => dLive P ih ops pm wr nx0 i s o (deadB pm i s.pd)
  | false => none
noncomputable def dStep (P : Program) (ih : Ih) (ops : Array Oper) (pm wr : Tr Nat) (nx0 n i : Nat) (s : Ds) (o : Option Oper) : Option Ds := match o with
  | none => none
  | some o => dStep2 P ih ops pm wr nx0 n i s o (maskB n pm wr i o)
theorem dStep_eq (P : Program) (ih : Ih) (ops : Array Oper) (pm wr : Tr Nat) (nx0 n i : Nat) (s : Ds) : dStep P ih ops pm wr nx0 n i s ops[i]? = QjG P ih ops pm wr nx0 n i s := by
  unfold dStep QjG
  cases ops[i]? with
  | none => rfl
  | some o =>
    simp only [dStep2, maskB]
    cases Qdf pm i o.after.toList with
    | none => rfl
    | some p =>
      cases pm.get i with
      | none => rfl
      | some p' =>
        simp only
        cases Nat.beq p p' && QfD n wr i o.dst with
        | false => rfl
        | true =>
          simp only [dLive]
          cases deadB pm i s.pd with
          | true => rfl
          | false =>
            simp only [dGuard]
            cases gE ops (QfI s.T wr pm i) o s.st with
            | none => rfl
            | some g =>
              obtain ⟨g, st1⟩ := g
              cases g with
              | false => rfl
              | true => exact dAsk_eq ..
noncomputable def dSeqB (P : Program) (ih : Ih) (ops : Array Oper) (pm wr : Tr Nat) (nx0 n i : Nat) (s : Option Ds) : Option Ds := match s with
  | some s => dStep P ih ops pm wr nx0 n i s ops[i]?
  | none => none
noncomputable def dSeq (P : Program) (ih : Ih) (ops : Array Oper) (pm wr : Tr Nat) (nx0 n : Nat) (s0 : Ds) : Nat → Option Ds
  | 0 => some s0
  | i + 1 => dSeqB P ih ops pm wr nx0 n i (dSeq P ih ops pm wr nx0 n s0 i)
theorem Qm_ (P : Program) (ih : Ih) (ops : Array Oper) (pm wr : Tr Nat) (nx0 n : Nat) (s0 : Ds) : ∀ i, dSeq P ih ops pm wr nx0 n s0 i = QjK P ih ops pm wr nx0 n s0 i
  | 0 => rfl
  | i + 1 => by
    simp only [dSeq, QjK, Qm_ P ih ops pm wr nx0 n s0 i]
    cases QjK P ih ops pm wr nx0 n s0 i with
    | none => rfl
    | some s => exact dStep_eq ..
def dEnd (fr : Fr) (ops : Array Oper) (s : Option Ds) : Option (Fr × St × Option SV) := match s with
  | some s => some (endD fr ops s)
  | none => none
noncomputable def drF2 (P : Program) (ih : Ih) (fr : Fr) (ops : Array Oper) (st : St) (b : Bool) : Option (Fr × St × Option SV) := match b with
  | true => dEnd fr ops (dSeq P ih ops (Qgr ops.toList 0 .leaf) (mkWr ops.toList 0 .leaf) st.m.nx fr.n (ds0 fr st) ops.size)
  | false => none
noncomputable def drF : Dr := fun P ih fr ops st => drF2 P ih fr ops st (P.follows .mixedOrders)
theorem drF_eq (P : Program) (ih : Ih) (fr : Fr) (ops : Array Oper) (st : St) : drF P ih fr ops st = drE P ih fr ops st := by
  unfold drF drE
  cases P.follows .mixedOrders with
  | false => rfl
  | true =>
    simp only [drF2, Qm_]
    cases QjK P ih ops (Qgr ops.toList 0 .leaf) (mkWr ops.toList 0 .leaf) st.m.nx fr.n (ds0 fr st) ops.size <;> rfl
abbrev DO := Option (Tr SV × St × Md)
noncomputable def dfStep (P : Program) (ih : Ih) (n : Nat) (o : Oper) (T1 : Tr SV) (st1 : St) (u : Md) (go : Tr SV → St → Md → DO) : DO := match o.op with
  | .call ⟨.builtin .recover, _, _⟩ => match u with
    | .pan x => go (putT n T1 o.dst (hdP x)) st1 (.rcv x)
    | u => go (putT n T1 o.dst (.v .nilIface)) st1 u
  | _ => match opRF P ih (rho T1) st1 o with
    | some (.val x, st2) => go (putT n T1 o.dst x) st2 u
    | _ => none
noncomputable def dfWant (P : Program) (ih : Ih) (n : Nat) (o : Oper) (u : Md) (go : Tr SV → St → Md → DO) (r : Option (Bool × Tr SV × St)) : DO := match r with
  | some (false, T1, st1) => go (putT n T1 o.dst (.v undef)) st1 u
  | some (true, T1, st1) => dfStep P ih n o T1 st1 u go
  | none => none
noncomputable def dfOp (P : Program) (ih : Ih) (n : Nat) (ops : Array Oper) (T : Tr SV) (st : St) (u : Md) (go : Tr SV → St → Md → DO) (o : Option Oper) : DO := match o with
  | none => go T st u
  | some o => dfWant P ih n o u go (QfB n T ops o st)
noncomputable def Ql5 (P : Program) (ih : Ih) (n : Nat) (ops : Array Oper) : List Nat → Tr SV → St → Md → DO
  | [], T, st, u => some (T, st, u)
  | i :: l, T, st, u => dfOp P ih n ops T st u (Ql5 P ih n ops l) ops[i]?
theorem Qjo (P : Program) (ih : Ih) (n : Nat) (ops : Array Oper) : ∀ (l : List Nat) (T : Tr SV) (st : St) (u : Md), Ql5 P ih n ops l T st u = Qii P ih n ops l T st u
  | [], T, st, u => rfl
  | i :: l, T, st, u => by
    have e : Ql5 P ih n ops l = Qii P ih n ops l := by funext T st u; exact Qjo P ih n ops l T st u
    unfold Ql5 Qii
    rw [e]
    cases ops[i]? with
    | none => rfl
    | some o =>
      simp only [dfOp]
      cases QfB n T ops o st with
      | none => rfl
      | some r =>
        obtain ⟨b, T1, st1⟩ := r
        cases b with
        | false => rfl
        | true =>
          obtain ⟨dst, op, ty, pos, after, guard⟩ := o
          have key : (match opRF P ih (rho T1) st1 ⟨dst, op, ty, pos, after, guard⟩ with
            | some (.val x, st2) => Qii P ih n ops l (putT n T1 dst x) st2 u
            | _ => none) = (match opR P ih (rho T1) st1 ⟨dst, op, ty, pos, after, guard⟩ with
            | some (.val x, st2) => Qii P ih n ops l (putT n T1 dst x) st2 u
            | _ => none) := by rw [QhX]
          cases op
          case call c =>
            obtain ⟨cal, args, tys⟩ := c
            cases cal with
            | builtin b =>
              cases b
              case recover => cases u <;> rfl
              all_goals exact key
            | value x => exact key
            | invoke x m => exact key
          all_goals exact key
def castQ2 (f : FuncId) (d : Option Nat) (x : SV) (K : Tr Bx) (nx : Nat) (lg : List Nat) (cnd : List (Value × Value)) (orc : List Value) : SV × St := match orc with
  | [] => (x, ⟨⟨K, nx, lg⟩, [], cnd⟩)
  | a :: l => Qj7 f d x ⟨⟨K, nx, lg⟩, a :: l, cnd⟩
def castQ (f : FuncId) (d : Option Nat) (x : SV) (st : St) : SV × St := match st with
  | ⟨⟨K, nx, lg⟩, orc, cnd⟩ => castQ2 f d x K nx lg cnd orc
theorem castQ_eq (f : FuncId) (d : Option Nat) (x : SV) (st : St) : castQ f d x st = Qj7 f d x st := by
  obtain ⟨⟨K, nx, lg⟩, orc, cnd⟩ := st
  cases orc with
  | nil => cases x <;> rfl
  | cons a l => rfl
def sLeft (ih : Ih) (r : Option Ou) : Option Ou := match r with
  | some ⟨.fr fr u, st'⟩ => ih (.leave fr u) st'
  | _ => none
def sBody (ih : Ih) (f : FuncId) (args : List SV) (st : St) (fn : Option Func) : Option Ou := match fn with
  | some fn => match fn.body with
    | some c => sLeft ih (ih (.run (fr0 f fn args) [.code c]) st)
    | none => none
  | none => none
def sCall (P : Program) (ih : Ih) (f : FuncId) (args : List SV) (st : St) (k : Option Ou) : Option Ou := match k with
  | some o => some o
  | none => sBody ih f args st P.funcs[f]?
def sRes (st : St) (ys : Option (List SV)) : Option Ou := match ys with
  | some ys => some ⟨.ret (QhY ys), st⟩
  | none => none
def sFin (P : Program) (fr : Fr) (u : Md) (st : St) : Option Ou := match u with
  | .ret => match P.funcs[fr.f]? with
    | some fn => sRes st (Qef P fr.T st.m.K fn.results.toList)
    | none => none
  | .pan x => some ⟨.pan x, st⟩
  | .rcv _ => none
def sDfd (ih : Ih) (fr : Fr) (ds : List Df) (r : Option Ou) : Option Ou := match r with
  | some ⟨.md u', st'⟩ => ih (.leave ⟨fr.f, fr.n, fr.T, ds⟩ (QcS u')) st'
  | _ => none
def QkU (P : Program) (ih : Ih) (fr : Fr) (u : Md) (st : St) (D : List Df) : Option Ou := match D with
  | [] => sFin P fr u st
  | d :: ds => match SZ.entersB P d.fn with
    | true => sDfd ih fr ds (ih (.dcall d.fn (d.args ++ d.caps) u) st)
    | false => none
def sRec (P : Program) (ih : Ih) (f : FuncId) (n : Nat) (fn : Func) (rest : Code) (r : DO) : Option Ou := match r with
  | some (T, st1, u1) => Qjk P fn u1 (ih (.run ⟨f, n, T, []⟩ [.code rest]) st1)
  | none => none
noncomputable def sDc (P : Program) (ih : Ih) (f : FuncId) (args : List SV) (u : Md) (st : St) (fn : Func) (c : Code) : Option Ou := match c with
  | .seq (.region _ ops false) rest => match Qja ops with
    | true => sRec P ih f (fr0 f fn args).n fn rest (Ql5 P ih (fr0 f fn args).n ops (List.range ops.size) (fr0 f fn args).T st u)
    | false => Qif P fn u (ih (.run (fr0 f fn args) [.code c]) st)
  | c => Qif P fn u (ih (.run (fr0 f fn args) [.code c]) st)
noncomputable def sDcall (P : Program) (ih : Ih) (f : FuncId) (args : List SV) (u : Md) (st : St) (fn : Option Func) : Option Ou := match fn with
  | some fn => match fn.body with
    | some c => sDc P ih f args u st fn c
    | none => none
  | none => none
def sVal (ih : Ih) (f : FuncId) (n : Nat) (D : List Df) (all : Array Oper) (o : Oper) (l : List Oper) (k : List SZ.It) (T : Tr SV) (r : SV × St) : Option Ou := match r with
  | (x', st3) => ih (.run ⟨f, n, putT n T o.dst x', D⟩ (.ops all l :: k)) st3
def sOut (ih : Ih) (f : FuncId) (n : Nat) (D : List Df) (all : Array Oper) (o : Oper) (l : List Oper) (k : List SZ.It) (T : Tr SV) (r : Option (Or × St)) : Option Ou := match r with
  | some (.val x, st2) => sVal ih f n D all o l k T (castQ f o.dst x st2)
  | some (.dfr d, st2) => ih (.run ⟨f, n, putT n T o.dst (.v undef), d :: D⟩ (.ops all l :: k)) st2
  | some (.pan x, st2) => some ⟨.fr ⟨f, n, T, D⟩ (.pan x), st2⟩
  | none => none
noncomputable def sWant (P : Program) (ih : Ih) (f : FuncId) (n : Nat) (D : List Df) (all : Array Oper) (o : Oper) (l : List Oper) (k : List SZ.It) (r : Option (Bool × Tr SV × St)) : Option Ou := match r with
  | none => none
  | some (false, T, st1) => ih (.run ⟨f, n, putT n T o.dst (.v undef), D⟩ (.ops all l :: k)) st1
  | some (true, T, st1) => sOut ih f n D all o l k T (opRF P ih (rho T) st1 o)
noncomputable def sOps (P : Program) (ih : Ih) (f : FuncId) (n : Nat) (T : Tr SV) (D : List Df) (all : Array Oper) (k : List SZ.It) (st : St) (l : List Oper) : Option Ou := match l with
  | [] => ih (.run ⟨f, n, T, D⟩ k) st
  | o :: l => sWant P ih f n D all o l k (QfB n T all o st)
def sRnd (ih : Ih) (fr : Fr) (c : Code) (k : List SZ.It) (st : St) (n : Nat) : Option Ou := match n with
  | 0 => none
  | n + 1 => ih (.run fr (.code c :: .rnd n c :: k)) st
def sExit (ih : Ih) (fr : Fr) (st : St) (k : Option (List SZ.It)) : Option Ou := match k with
  | some k' => ih (.run fr k') st
  | none => none
def sDrawn (ih : Ih) (k : List SZ.It) (r : Option (Fr × St × Option SV)) : Option Ou := match r with
  | some (fr', st', none) => ih (.run fr' k) st'
  | some (fr', st', some x) => some ⟨.fr fr' (.pan x), st'⟩
  | none => none
noncomputable def QkT (P : Program) (ih : Ih) (fr : Fr) (ops : Array Oper) (k : List SZ.It) (st : St) (d : Bool) : Option Ou := match d with
  | false => ih (.run fr (.ops ops ops.toList :: k)) st
  | true => sDrawn ih k (drF P ih fr ops st)
def castF2 (f : FuncId) (n : Nat) (T : Tr SV) (D : List Df) (c : Operand) (b : Bool) : Fr := match c with
  | .tmp t => ⟨f, n, putT n T (some t) (.v (.bool b)), D⟩
  | _ => ⟨f, n, T, D⟩
def sAsk (ih : Ih) (f : FuncId) (n : Nat) (T : Tr SV) (D : List Df) (c : Operand) (x y : Code) (k : List SZ.It) (r : Option (Bool × St)) : Option Ou := match r with
  | some (true, st') => ih (.run (castF2 f n T D c true) (.code x :: k)) st'
  | some (false, st') => ih (.run (castF2 f n T D c false) (.code y :: k)) st'
  | none => none
def sCond (ih : Ih) (f : FuncId) (n : Nat) (T : Tr SV) (D : List Df) (c : Operand) (x y : Code) (k : List SZ.It) (st : St) (v : Option SV) : Option Ou := match v with
  | some v => sAsk ih f n T D c x y k (Qjv v st)
  | none => none
def sScope (ih : Ih) (fr : Fr) (c : Code) (st : St) (k : List SZ.It) : Option Ou := match Qh2 k with
  | true => whole (ih (.run fr (.code c :: k)) st)
  | false => none
abbrev QbN := Program → Ih → FuncId → Nat → Tr SV → List Df → List SZ.It → St → Option Ou
def cSkip : QbN := fun _ ih f n T D k st => ih (.run ⟨f, n, T, D⟩ k) st
noncomputable def QgF (_ : Nat) (ops : Array Oper) (d : Bool) : QbN := fun P ih f n T D k st => QkT P ih ⟨f, n, T, D⟩ ops k st d
def cSeq (x y : Code) (_ _ : QbN) : QbN := fun _ ih f n T D k st => ih (.run ⟨f, n, T, D⟩ (.code x :: .code y :: k)) st
def cCond (c : Operand) (x y : Code) (_ _ : QbN) : QbN := fun _ ih f n T D k st => sCond ih f n T D c x y k st (rho T c)
def cBlock (id : Nat) (c : Code) (_ : QbN) : QbN := fun _ ih f n T D k st => ih (.run ⟨f, n, T, D⟩ (.code c :: .blk id :: k)) st
def cLoop (c : Code) (_ : QbN) : QbN := fun _ ih f n T D k st => ih (.run ⟨f, n, T, D⟩ (.rnd 1000000 c :: k)) st
def cRange (_ : Operand) (_ : Array Tmp) (_ _ : Code) (_ _ : QbN) : QbN := fun _ _ _ _ _ _ _ _ => none
def cExit (id : Nat) : QbN := fun _ ih f n T D k st => sExit ih ⟨f, n, T, D⟩ st (SZ.unw id k)
def cScope (c : Code) (_ : QbN) : QbN := fun _ ih f n T D k st => sScope ih ⟨f, n, T, D⟩ c st k
def cLabel (_ : Nat) : QbN := cSkip
def cGoto (_ : Nat) : QbN := fun _ _ _ _ _ _ _ _ => none
def cRet : QbN := fun _ _ f n T D _ st => some ⟨.fr ⟨f, n, T, D⟩ .ret, st⟩
def cRefuse (_ : String) : QbN := fun _ _ _ _ _ _ _ _ => none
noncomputable def codeK : Code → QbN := @Code.rec (fun _ => QbN) cSkip QgF cSeq cCond cBlock cLoop cRange cExit cScope cLabel cGoto cRet cRefuse
abbrev ItFn := Program → Ih → FuncId → Nat → Tr SV → List Df → List SZ.It → St → Option Ou
noncomputable def iCode (c : Code) : ItFn := codeK c
noncomputable def iOps (all : Array Oper) (l : List Oper) : ItFn := fun P ih f n T D k st => sOps P ih f n T D all k st l
def iBlk (_ : Nat) : ItFn := cSkip
def iRnd (m : Nat) (c : Code) : ItFn := fun _ ih f n T D k st => sRnd ih ⟨f, n, T, D⟩ c k st m
noncomputable def itK : SZ.It → ItFn := @SZ.It.rec (fun _ => ItFn) iCode iOps iBlk iRnd
noncomputable def QkS (P : Program) (ih : Ih) (f : FuncId) (n : Nat) (T : Tr SV) (D : List Df) (st : St) (k : List SZ.It) : Option Ou := match k with
  | [] => some ⟨.fr ⟨f, n, T, D⟩ .ret, st⟩
  | i :: k => itK i P ih f n T D k st
noncomputable def sRun (P : Program) (ih : Ih) (st : St) (k : List SZ.It) (fr : Fr) : Option Ou := match fr with
  | ⟨f, n, T, D⟩ => QkS P ih f n T D st k
abbrev Qkd := Program → KnG → Ih → St → Option Ou
noncomputable def jCall (f : FuncId) (args : List SV) : Qkd := fun P kn ih st => sCall P ih f args st (kn f args st)
noncomputable def jRun (fr : Fr) (k : List SZ.It) : Qkd := fun P _ ih st => sRun P ih st k fr
noncomputable def jLeave (fr : Fr) (u : Md) : Qkd := fun P _ ih st => QkU P ih fr u st fr.D
noncomputable def jDcall (f : FuncId) (args : List SV) (u : Md) : Qkd := fun P _ ih st => sDcall P ih f args u st P.funcs[f]?
noncomputable def jobK : Job → Qkd := @Job.rec (fun _ => Qkd) jCall jRun jLeave jDcall
noncomputable def QfC (P : Program) (kn : KnG) (ih : Ih) (j : Job) (st : St) : Option Ou := jobK j P kn ih st
theorem stepF_eq (P : Program) (kn : KnG) (ih : Ih) (j : Job) (st : St) : QfC P kn ih j st = QcG P kn drE ih j st := by
  cases j with
  | call f args =>
    simp only [QfC, QcG, jobK, jCall]
    cases kn f args st with
    | some r => rfl
    | none =>
      simp only [sCall]
      cases P.funcs[f]? with
      | none => rfl
      | some fn =>
        simp only [sBody]
        cases fn.body with
        | none => rfl
        | some c =>
          simp only
          cases ih (.run (fr0 f fn args) [.code c]) st with
          | none => rfl
          | some r => obtain ⟨e, s⟩ := r; cases e <;> rfl
  | leave fr u =>
    simp only [QfC, QcG, jobK, jLeave]
    cases fr.D with
    | nil =>
      simp only [QkU]
      cases u with
      | ret =>
        simp only [sFin]
        cases P.funcs[fr.f]? with
        | none => rfl
        | some fn => simp only; cases Qef P fr.T st.m.K fn.results.toList <;> rfl
      | _ => rfl
    | cons d ds =>
      simp only [QkU]
      cases SZ.entersB P d.fn with
      | false => rfl
      | true =>
        simp only
        cases ih (.dcall d.fn (d.args ++ d.caps) u) st with
        | none => rfl
        | some r => obtain ⟨e, s⟩ := r; cases e <;> rfl
  | dcall f args u =>
    simp only [QfC, QcG, jobK, jDcall]
    cases P.funcs[f]? with
    | none => rfl
    | some fn =>
      simp only [sDcall]
      cases fn.body with
      | none => rfl
      | some c =>
        simp only
        cases c <;> try rfl
        rename_i a rest
        cases a <;> try rfl
        rename_i id ops d
        cases d
        · simp only [sDc]
          cases Qja ops with
          | false => rfl
          | true =>
            simp only [Qjo]
            cases Qii P ih (fr0 f fn args).n ops (List.range ops.size) (fr0 f fn args).T st u with
            | none => rfl
            | some r => rfl
        · rfl
  | run fr k =>
    obtain ⟨f, n, T, D⟩ := fr
    cases k with
    | nil => rfl
    | cons i k =>
      cases i with
      | code c =>
        cases c
        case exit id => simp only [QfC, QcG, jobK, jRun, sRun, QkS, itK, iCode, codeK, cExit, QgF, cCond]; cases SZ.unw id k <;> rfl
        case region id ops d =>
          cases d
          · rfl
          · simp only [QfC, QcG, jobK, jRun, sRun, QkS, itK, iCode, codeK, cExit, QgF, cCond, QkT, drF_eq]
            cases drE P ih ⟨f, n, T, D⟩ ops st with
            | none => rfl
            | some r => obtain ⟨fr', st', x⟩ := r; cases x <;> rfl
        case cond c x y =>
          simp only [QfC, QcG, jobK, jRun, sRun, QkS, itK, iCode, codeK, cExit, QgF, cCond]
          cases rho T c with
          | none => rfl
          | some v =>
            simp only [sCond]
            cases Qjv v st with
            | none => rfl
            | some r => obtain ⟨b, s⟩ := r; cases b <;> cases c <;> rfl
        case scope c => rfl
        all_goals rfl
      | ops all l =>
        cases l with
        | nil => rfl
        | cons o l =>
          simp only [QfC, QcG, jobK, jRun, sRun, QkS, itK, iOps, sOps]
          cases QfB n T all o st with
          | none => rfl
          | some r =>
            obtain ⟨b, T, st1⟩ := r
            cases b with
            | false => rfl
            | true =>
              simp only [sWant, QhX]
              cases opR P ih (rho T) st1 o with
              | none => rfl
              | some r =>
                obtain ⟨r, s⟩ := r
                cases r with
                | val x => simp only [sOut, castQ_eq]; rfl
                | _ => rfl
      | blk id => rfl
      | rnd n c => cases n <;> rfl
noncomputable def goF (P : Program) (kn : KnG) (n : Nat) : Job → St → Option Ou := Nat.rec (fun _ _ => none) (fun _ ih => QfC P kn ih) n
theorem QlN (P : Program) (kn : KnG) : ∀ n, goF P kn n = goJ P kn drE n
  | 0 => rfl
  | n + 1 => by
    funext j st
    show QfC P kn (goF P kn n) j st = QcG P kn drE (goJ P kn drE n) j st
    rw [QlN P kn n, stepF_eq]
def outE : Option Ou → Option (SV × List (Value × Value))
  | some ⟨.ret x, st⟩ => some (x, st.cnd)
  | _ => none
def st1 (orc : List Value) : St := ⟨⟨.leaf, 0, []⟩, orc, []⟩
theorem QlV {P : Program} {kn : KnG} (hkn : QfE P kn) (n : Nat) {f : FuncId} {as : List Value} (args : List SV) (orc : List Value) {x : SV} (cs : List (Value × Value)) {w : World}
    (h : outE (goF P kn n (.call f args) (st1 orc)) = some (x, cs)) (ha : Qam (fun _ => (0, 0)) args = as) (hb : bdL (fun _ => False) args) (hc : ∀ q ∈ cs, q.1 = q.2) (hfc : FcAt w := by first | assumption | exact QaT _) :
    Calls P f as.toArray w fun e w' => ∃ B, e = .returned (den B x) ∧ Below w.heap.size w w' := by
  rw [QlN] at h
  unfold outE at h
  split at h
  · rename_i y st h1
    obtain ⟨m, orc', cnd⟩ := st
    simp only [Option.some.injEq, Prod.mk.injEq] at h
    obtain ⟨rfl, rfl⟩ := h
    rw [← ha]
    exact (QlY hkn (drE_ok P) n h1 hb hc hfc).mono fun e w' ⟨B, h2, _, h3⟩ => ⟨B, h2, h3⟩
  · cases h
theorem ex_run {P : Program} {kn : Kn} (hkn : KnOk P kn) (n : Nat) {f : FuncId} {as : List Value} (args : List SV) (orc : List Value) {x : SV} (cs : List (Value × Value)) {w : World}
    (h : outE (goF P (gk kn) n (.call f args) (st1 orc)) = some (x, cs)) (ha : Qam (fun _ => (0, 0)) args = as) (hb : bdL (fun _ => False) args) (hc : ∀ q ∈ cs, q.1 = q.2) (hfc : FcAt w := by first | assumption | exact QaT _) :
    Calls P f as.toArray w fun e w' => ∃ B, e = .returned (den B x) ∧ Below w.heap.size w w' := QlV (gk_ok hkn) n args orc cs h ha hb hc hfc
theorem Qcr {P : Program} {kn : KnG} (hkn : QfE P kn) (n : Nat) {f : FuncId} {as : List Value} (args : List SV) (orc : List Value) {v : Value} (cs : List (Value × Value)) {w : World}
    (h : outE (goF P kn n (.call f args) (st1 orc)) = some (.v v, cs)) (ha : Qam (fun _ => (0, 0)) args = as) (hb : bdL (fun _ => False) args) (hc : ∀ q ∈ cs, q.1 = q.2) (hfc : FcAt w := by first | assumption | exact QaT _) :
    Calls P f as.toArray w fun e w' => e = .returned v ∧ Below w.heap.size w w' :=
  (QlV hkn n args orc cs h ha hb hc hfc).mono fun e w' ⟨B, h1, h2⟩ => ⟨by rw [h1]; simp [den], h2⟩
theorem ex_val {P : Program} {kn : Kn} (hkn : KnOk P kn) (n : Nat) {f : FuncId} {as : List Value} (args : List SV) (orc : List Value) {v : Value} (cs : List (Value × Value)) {w : World}
    (h : outE (goF P (gk kn) n (.call f args) (st1 orc)) = some (.v v, cs)) (ha : Qam (fun _ => (0, 0)) args = as) (hb : bdL (fun _ => False) args) (hc : ∀ q ∈ cs, q.1 = q.2) (hfc : FcAt w := by first | assumption | exact QaT _) :
    Calls P f as.toArray w fun e w' => e = .returned v ∧ Below w.heap.size w w' :=
  (ex_run hkn n args orc cs h ha hb hc hfc).mono fun e w' ⟨B, h1, h2⟩ => ⟨by rw [h1]; simp [den], h2⟩
end Go.Proofs.Ytfhmdlihnidjoaa.EX
namespace Go.Proofs.Ytfhmdlihnidjoaa
set_option linter.unusedVariables false
set_option linter.unusedSectionVars false
set_option linter.unusedSimpArgs false
set_option maxRecDepth 100000
open Go Go.RowKit EX
variable [FC]

end Go.Proofs.Ytfhmdlihnidjoaa
