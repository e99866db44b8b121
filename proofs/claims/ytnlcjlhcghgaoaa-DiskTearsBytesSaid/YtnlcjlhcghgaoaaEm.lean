
/-
  Runs by computation: drawn regions are sound, the certificate.
-/
import Derived.Test.YtnlcjlhcghgaoaaEl
namespace Go.Proofs.Ytnlcjlhcghgaoaa.EX
open Go Go.RowKit
set_option linter.unusedVariables false
set_option linter.unusedSimpArgs false
set_option linter.unusedSectionVars false
set_option maxRecDepth 10000
variable [FC]

/-- The states before each operation. -/
structure Sq (P : Program) (ih : Job → St → Option Ou) (ops : Array Oper) (pm wr : Tr Nat) (nx0 n : Nat) (s0 : Ds) where
  sq : Nat → Ds
  zero : sq 0 = s0
  step : ∀ i, i < ops.size → stepD P ih ops pm wr nx0 n i (sq i) = some (sq (i + 1))
  n0 : nx0 = s0.st.m.nx
  e1 : s0.cl = []
  e2 : s0.nl = []
  e3 : s0.ol = []
  e4 : s0.rl = []
  e5 : s0.pd = none
theorem sq_of {P : Program} {ih : Job → St → Option Ou} {ops : Array Oper} {pm wr : Tr Nat} {nx0 n : Nat} {s0 sN : Ds} (h : seqD P ih ops pm wr nx0 n s0 ops.size = some sN) (n0 : nx0 = s0.st.m.nx) (e1 : s0.cl = []) (e2 : s0.nl = []) (e3 : s0.ol = []) (e4 : s0.rl = []) (e5 : s0.pd = none) :
    ∃ C : Sq P ih ops pm wr nx0 n s0, C.sq ops.size = sN := by
  have all : ∀ m, m ≤ ops.size → ∃ s, seqD P ih ops pm wr nx0 n s0 m = some s := by
    intro m
    induction hk : ops.size - m generalizing m with
    | zero => intro hm; have : m = ops.size := by omega
              subst this; exact ⟨_, h⟩
    | succ k ih' =>
      intro hm
      obtain ⟨s, hs⟩ := ih' (m + 1) (by omega) (by omega)
      rw [seqD] at hs
      cases hq : seqD P ih ops pm wr nx0 n s0 m with
      | none => rw [hq] at hs; cases hs
      | some s1 => exact ⟨s1, rfl⟩
  refine ⟨⟨fun m => (seqD P ih ops pm wr nx0 n s0 m).getD s0, rfl, fun i hi => ?_, n0, e1, e2, e3, e4, e5⟩, by simp [h]⟩
  obtain ⟨s, hs⟩ := all i (by omega)
  obtain ⟨s', hs'⟩ := all (i + 1) (by omega)
  have := hs'
  rw [seqD, hs] at this
  simp only [hs, hs', Option.getD_some]
  exact this
namespace Sq
variable {P : Program} {ih : Job → St → Option Ou} {ops : Array Oper} {pm wr : Tr Nat} {nx0 n : Nat} {s0 : Ds} (C : Sq P ih ops pm wr nx0 n s0)
def nx (i : Nat) : Nat := (C.sq i).st.m.nx
def V (i : Nat) : Nat → Option Bx := (C.sq i).st.m.K.get
def T (i : Nat) : Nat → Option SV := (C.sq i).T.get
def x (i : Nat) : SV := (C.sq (i + 1)).x
def wl (i : Nat) : List Nat := (C.sq (i + 1)).wl
def kd (i : Nat) : Kd := (C.sq (i + 1)).kd
def tch (i j : Nat) : Prop := (C.nx i ≤ j ∧ j < C.nx (i + 1)) ∨ j ∈ C.wl i
def pr {ops : Array Oper} {pm : Tr Nat} (k i : Nat) : Prop := i < ops.size ∧ bitOf pm i k = true
def Ki (i j : Nat) : Option Bx :=
  match C.kd i with
  | .pure => none
  | .new => none
  | .one a => if j = a then C.V i j else none
  | .chain ms => if j ∈ ms.map (·.2) then none else C.V i j
def Ti (i t : Nat) : Option SV := rhoM (C.sq i).T wr pm i (.tmp t)
/-- What one step does. -/
theorem oc {i : Nat} (hi : i < ops.size) : ∃ o p b st1, ops[i]? = some o ∧ maskOf pm i o.after.toList = some p ∧ pm.get i = some p ∧ dstOk n wr i o.dst = true ∧ Gq ops pm wr i (C.sq i) o b st1 ∧
    Oc P ih (rhoM (C.sq i).T wr pm i) pm nx0 i (C.sq i) o st1 b (C.sq (i + 1)) := stepD_oc (C.step i hi)
include C in
theorem mask {i : Nat} (hi : i < ops.size) : ∃ o, ops[i]? = some o ∧ (∀ k, bitOf pm i k = true ↔ ∃ e ∈ o.after, Region.binds .any e = true ∧ (k = e.on ∨ bitOf pm e.on k = true)) ∧ ∀ e ∈ o.after, Region.binds .any e = true → e.on < i := by
  obtain ⟨o, p, b, st1, ho, hp, hp', _⟩ := C.oc hi
  obtain ⟨h1, h2⟩ := maskOf_ok _ hp
  refine ⟨o, ho, fun k => ?_, fun e he => h2 e (by simpa using he)⟩
  have := h1 k
  unfold bitOf at this ⊢
  rw [hp']
  simpa using this
include C in
theorem pr_lt : ∀ (i k : Nat), pr (ops := ops) (pm := pm) k i → k < i := by
  intro i
  induction i using Nat.strongRecOn with
  | _ i ih' =>
    rintro k ⟨hi, hb⟩
    obtain ⟨o, ho, h1, h2⟩ := C.mask hi
    obtain ⟨e, he, hbn, hk⟩ := (h1 k).1 hb
    have := h2 e he hbn
    rcases hk with rfl | hk
    · exact this
    · exact Nat.lt_trans (ih' e.on this k ⟨by omega, hk⟩) this
include C in
theorem pr_tr : ∀ (i m k : Nat), pr (ops := ops) (pm := pm) k m → pr (ops := ops) (pm := pm) m i → pr (ops := ops) (pm := pm) k i := by
  intro i
  induction i using Nat.strongRecOn with
  | _ i ih' =>
    rintro m k hk ⟨hi, hb⟩
    obtain ⟨o, ho, h1, h2⟩ := C.mask hi
    obtain ⟨e, he, hbn, hm⟩ := (h1 m).1 hb
    have hlt := h2 e he hbn
    refine ⟨hi, (h1 k).2 ⟨e, he, hbn, ?_⟩⟩
    rcases hm with rfl | hm
    · exact Or.inr hk.2
    · exact Or.inr (ih' e.on hlt m k hk ⟨by omega, hm⟩).2
/-- What a step leaves: nothing but a value. -/
structure Quiet (i : Nat) : Prop where
  nx : C.nx (i + 1) = C.nx i
  V : C.V (i + 1) = C.V i
  wl : C.wl i = []
  nl : (C.sq (i + 1)).nl = (C.sq i).nl
  cl : (C.sq (i + 1)).cl = (C.sq i).cl
  ol : (C.sq (i + 1)).ol = (C.sq i).ol
  lg : (C.sq (i + 1)).st.m.lg = (C.sq i).st.m.lg
structure IsNew (i : Nat) (k : Bx) : Prop where
  nx : C.nx (i + 1) = C.nx i + 1
  V : C.V (i + 1) = setF (C.V i) (C.nx i) (some k)
  wl : C.wl i = []
  nl : (C.sq (i + 1)).nl = (i, C.nx i) :: (C.sq i).nl
  cl : (C.sq (i + 1)).cl = (C.sq i).cl
  ol : (C.sq (i + 1)).ol = (i, C.nx i, C.nx (i + 1)) :: (C.sq i).ol
  rl : (C.sq (i + 1)).rl = (C.sq i).rl
  lg : (C.sq (i + 1)).st.m.lg = (C.sq i).st.m.lg
structure IsChain (i : Nat) (ms : List (Nat × Nat)) (K2 : Nat → Option Bx) : Prop where
  mse : ms = (C.sq i).nl.filter fun q => !bitOf pm i q.1
  cb : chainB pm i (C.sq i).cl = true
  nx : C.nx i ≤ C.nx (i + 1)
  V : ∀ j, C.V (i + 1) j = if j ∈ ms.map (·.2) then C.V i j else K2 j
  K2 : ∀ j, j < C.nx i ∨ C.nx (i + 1) ≤ j → j ∉ C.wl i → K2 j = if j ∈ ms.map (·.2) then none else C.V i j
  wl : ∀ j ∈ C.wl i, (∃ k, (if j ∈ ms.map (·.2) then none else C.V i j) = some k) ∨ (C.nx i ≤ j ∧ j < C.nx (i + 1))
  nl : (C.sq (i + 1)).nl = (C.sq i).nl
  cl : (C.sq (i + 1)).cl = (i, C.wl i) :: (C.sq i).cl
  ol : (C.sq (i + 1)).ol = (i, C.nx i, C.nx (i + 1)) :: (C.sq i).ol
  rl : (C.sq (i + 1)).rl = (C.sq i).rl
  ra : ((C.sq i).rl.all fun r => bitOf pm i r.1 || !((C.wl i).contains r.2)) = true
  lg : (C.sq (i + 1)).st.m.lg = C.wl i ++ (C.sq i).st.m.lg
theorem facts (hih : SpecAll P ih) {i : Nat} (hi : i < ops.size) :
    (C.kd i = .pure ∧ C.Quiet i ∧ (C.sq (i + 1)).rl = (C.sq i).rl) ∨
    (∃ a, C.kd i = .one a ∧ C.Quiet i ∧ (C.sq (i + 1)).rl = (i, a) :: (C.sq i).rl ∧ (∃ k, C.V i a = some k) ∧ seenB nx0 pm i (C.sq i).ol a = true ∧ ((C.sq i).cl.all fun c => bitOf pm i c.1 || !(c.2.contains a)) = true) ∨
    (∃ k, C.kd i = .new ∧ C.IsNew i k) ∨ (∃ ms K2, C.kd i = .chain ms ∧ C.IsChain i ms K2) := by
  obtain ⟨o, p, b, st1, ho, hp, hp', hd, hg, h⟩ := C.oc hi
  obtain ⟨hm, _⟩ := gq_ok hg
  generalize hs : C.sq (i + 1) = s' at h
  cases h with
  | skip =>
    refine Or.inl ⟨by simp [kd, hs], ⟨by simp [nx, hs, hm], by simp [V, hs, hm], by simp [wl, hs], by simp [hs], by simp [hs], by simp [hs], by simp [hs, hm]⟩, by simp [hs]⟩
  | pure x m' h1 h2 =>
    refine Or.inl ⟨by simp [kd, hs], ⟨by simp [nx, hs, hm], by simp [V, hs, hm], by simp [wl, hs], by simp [hs], by simp [hs], by simp [hs], by simp [hs, hm]⟩, by simp [hs]⟩
  | ask x ps h1 =>
    refine Or.inl ⟨by simp [kd, hs], ⟨by simp [nx, hs, hm], by simp [V, hs, hm], by simp [wl, hs], by simp [hs], by simp [hs], by simp [hs], by simp [hs, hm]⟩, by simp [hs]⟩
  | new x m' k h1 h2 h3 h4 =>
    refine Or.inr (Or.inr (Or.inl ⟨k, by simp [kd, hs], ⟨by simp [nx, hs, hm], ?_, by simp [wl, hs], by simp [hs, nx, hm], by simp [hs], by simp [hs, nx, hm], by simp [hs], by simp [hs, hm]⟩⟩))
    simp only [V, hs, nx]
    rw [← hm]
    exact Tr.get_set h4
  | one ty y a off k x h1 h2 h3 h4 h5 h6 =>
    refine Or.inr (Or.inl ⟨a, by simp [kd, hs], ⟨by simp [nx, hs, hm], by simp [V, hs, hm], by simp [wl, hs], by simp [hs], by simp [hs], by simp [hs], by simp [hs, hm]⟩, by simp [hs], ⟨k, by simp only [V]; rw [← hm]; exact h3⟩, h5, h6⟩)
  | chain x st2 ms h1 h2 h3 h4 h5 =>
    obtain ⟨⟨_, hfm⟩, _⟩ := opR_sound hih h3
    obtain ⟨f1, l, f2, f3, f4⟩ := hfm
    simp only [List.append_nil] at f2
    subst f2
    refine Or.inr (Or.inr (Or.inr ⟨ms, st2.m.K.get, by simp [kd, hs], ⟨h1, h2, by simp only [nx, hs, ← hm]; exact f1, fun j => ?_, fun j hj hn => ?_, fun j hj => ?_, by simp [hs], by simp [hs, wl], by simp [hs, nx, hm], by simp [hs], by simp only [wl, hs]; exact h4, by simp [hs, wl, hm]⟩⟩))
    · simp only [V, hs, ← hm]
      exact unmaskK_get st1.m.K ms st2.m.K j h5
    · simp only [nx, hs, wl, ← hm] at hj hn
      have := f3 j hj hn
      rw [this]
      simp only [V, ← hm]
      exact maskK_get ms st1.m.K j h5
    · simp only [wl, hs] at hj
      rcases f4 j hj with ⟨k, hk⟩ | hk
      · refine Or.inl ⟨k, ?_⟩
        simp only [V, ← hm]
        rw [← maskK_get ms st1.m.K j h5]
        exact hk
      · exact Or.inr (by simp only [nx, hs, ← hm]; exact hk)
  | pan x st2 ms h0 h1 h2 h3 h4 h5 =>
    obtain ⟨⟨_, hfm⟩, _⟩ := opR_sound hih h3
    obtain ⟨f1, l, f2, f3, f4⟩ := hfm
    simp only [List.append_nil] at f2
    subst f2
    refine Or.inr (Or.inr (Or.inr ⟨ms, st2.m.K.get, by simp [kd, hs], ⟨h1, h2, by simp only [nx, hs, ← hm]; exact f1, fun j => ?_, fun j hj hn => ?_, fun j hj => ?_, by simp [hs], by simp [hs, wl], by simp [hs, nx, hm], by simp [hs], by simp only [wl, hs]; exact h4, by simp [hs, wl, hm]⟩⟩))
    · simp only [V, hs, ← hm]
      exact unmaskK_get st1.m.K ms st2.m.K j h5
    · simp only [nx, hs, wl, ← hm] at hj hn
      have := f3 j hj hn
      rw [this]
      simp only [V, ← hm]
      exact maskK_get ms st1.m.K j h5
    · simp only [wl, hs] at hj
      rcases f4 j hj with ⟨k, hk⟩ | hk
      · refine Or.inl ⟨k, ?_⟩
        simp only [V, ← hm]
        rw [← maskK_get ms st1.m.K j h5]
        exact hk
      · exact Or.inr (by simp only [nx, hs, ← hm]; exact hk)
variable (hih : SpecAll P ih)
include hih
theorem nx_le {i : Nat} (hi : i < ops.size) : C.nx i ≤ C.nx (i + 1) := by
  rcases C.facts hih hi with ⟨_, q, _⟩ | ⟨a, _, q, _⟩ | ⟨k, _, q⟩ | ⟨ms, K2, _, q⟩
  · rw [q.nx]; exact Nat.le_refl _
  · rw [q.nx]; exact Nat.le_refl _
  · rw [q.nx]; omega
  · exact q.nx
theorem nx_mono {i k : Nat} (h : i ≤ k) (hk : k ≤ ops.size) : C.nx i ≤ C.nx k := by
  induction k with
  | zero => have : i = 0 := by omega
            subst this; exact Nat.le_refl _
  | succ k ih' =>
    by_cases e : i = k + 1
    · subst e; exact Nat.le_refl _
    · exact Nat.le_trans (ih' (by omega) (by omega)) (C.nx_le hih (by omega))
theorem hV {m j : Nat} (hm : m < ops.size) (ht : ¬C.tch m j) : C.V (m + 1) j = C.V m j := by
  have ht1 : ¬(C.nx m ≤ j ∧ j < C.nx (m + 1)) := fun h => ht (Or.inl h)
  have ht2 : j ∉ C.wl m := fun h => ht (Or.inr h)
  rcases C.facts hih hm with ⟨_, q, _⟩ | ⟨a, _, q, _⟩ | ⟨k, _, q⟩ | ⟨ms, K2, _, q⟩
  · rw [q.V]
  · rw [q.V]
  · rw [q.V, setF, if_neg]
    intro e
    rw [q.nx] at ht1
    omega
  · rw [q.V]
    by_cases hj : j ∈ ms.map (·.2)
    · rw [if_pos hj]
    · rw [if_neg hj, q.K2 j (by omega) ht2, if_neg hj]
theorem lists : ∀ i, i ≤ ops.size → (∀ q ∈ (C.sq i).nl, q.1 < i ∧ q.2 = C.nx q.1 ∧ C.nx (q.1 + 1) = C.nx q.1 + 1 ∧ C.kd q.1 = .new) ∧ (∀ k, k < i → C.kd k = .new → (k, C.nx k) ∈ (C.sq i).nl) ∧
    (∀ k ms, k < i → C.kd k = .chain ms → (k, C.wl k) ∈ (C.sq i).cl) ∧ (match (C.sq i).cl with
      | [] => ∀ k ms, k < i → C.kd k ≠ .chain ms
      | c :: _ => c.1 < i ∧ (∃ ms, C.kd c.1 = .chain ms) ∧ ∀ k ms, c.1 < k → k < i → C.kd k ≠ .chain ms) ∧
    (∀ q ∈ (C.sq i).ol, q.1 < i ∧ q.2.1 = C.nx q.1 ∧ q.2.2 = C.nx (q.1 + 1)) ∧ (∀ k a, k < i → C.kd k = .one a → (k, a) ∈ (C.sq i).rl) := by
  intro i
  induction i with
  | zero =>
    intro _
    rw [C.zero, C.e1, C.e2, C.e3, C.e4]
    exact ⟨fun q h => (by cases h), fun k h => (by omega), fun k ms h => (by omega), fun k ms h => (by omega), fun q h => (by cases h), fun k a h => (by omega)⟩
  | succ i ih' =>
    intro hi
    obtain ⟨h1, h2, h3, h4, h5, h6⟩ := ih' (by omega)
    have up : ∀ {k : Nat} {Q : Prop}, k < i + 1 → (k = i → Q) → (k < i → Q) → Q := fun hk h g => by
      rcases Nat.lt_or_ge _ i with h' | h'
      · exact g h'
      · exact h (by omega)
    rcases C.facts hih (show i < ops.size by omega) with ⟨hk, q, qr⟩ | ⟨a, hk, q, qr, _⟩ | ⟨k, hk, q⟩ | ⟨ms, K2, hk, q⟩
    · rw [q.nl, q.cl, q.ol, qr]
      refine ⟨fun q hq => by obtain ⟨g1, g2⟩ := h1 q hq; exact ⟨by omega, g2⟩, fun k hk' hn => up hk' (fun e => by subst e; rw [hk] at hn; cases hn) (fun h => h2 k h hn), fun k ms hk' hn => up hk' (fun e => by subst e; rw [hk] at hn; cases hn) (fun h => h3 k ms h hn), ?_, fun q hq => by obtain ⟨g1, g2⟩ := h5 q hq; exact ⟨by omega, g2⟩, fun k a hk' hn => up hk' (fun e => by subst e; rw [hk] at hn; cases hn) (fun h => h6 k a h hn)⟩
      split
      · rename_i e; rw [e] at h4
        exact fun k ms hk' hn => up hk' (fun e => by subst e; rw [hk] at hn; cases hn) (fun h => h4 k ms h hn)
      · rename_i e; rw [e] at h4
        obtain ⟨g1, g2, g3⟩ := h4
        exact ⟨by omega, g2, fun k ms hc hk' hn => up hk' (fun e => by subst e; rw [hk] at hn; cases hn) (fun h => g3 k ms hc h hn)⟩
    · rw [q.nl, q.cl, q.ol, qr]
      refine ⟨fun q hq => by obtain ⟨g1, g2⟩ := h1 q hq; exact ⟨by omega, g2⟩, fun k hk' hn => up hk' (fun e => by subst e; rw [hk] at hn; cases hn) (fun h => h2 k h hn), fun k ms hk' hn => up hk' (fun e => by subst e; rw [hk] at hn; cases hn) (fun h => h3 k ms h hn), ?_, fun q hq => by obtain ⟨g1, g2⟩ := h5 q hq; exact ⟨by omega, g2⟩, fun k a' hk' hn => up hk' (fun e => by subst e; rw [hk] at hn; cases hn; simp) (fun h => List.mem_cons_of_mem _ (h6 k a' h hn))⟩
      split
      · rename_i e; rw [e] at h4
        exact fun k ms hk' hn => up hk' (fun e => by subst e; rw [hk] at hn; cases hn) (fun h => h4 k ms h hn)
      · rename_i e; rw [e] at h4
        obtain ⟨g1, g2, g3⟩ := h4
        exact ⟨by omega, g2, fun k ms hc hk' hn => up hk' (fun e => by subst e; rw [hk] at hn; cases hn) (fun h => g3 k ms hc h hn)⟩
    · rw [q.nl, q.cl, q.ol, q.rl]
      refine ⟨fun q' hq => ?_, fun k hk' hn => up hk' (fun e => by subst e; simp) (fun h => List.mem_cons_of_mem _ (h2 k h hn)), fun k ms hk' hn => up hk' (fun e => by subst e; rw [hk] at hn; cases hn) (fun h => h3 k ms h hn), ?_, fun q' hq => ?_, fun k a hk' hn => up hk' (fun e => by subst e; rw [hk] at hn; cases hn) (fun h => h6 k a h hn)⟩
      · rcases List.mem_cons.1 hq with rfl | hq
        · exact ⟨by simp, rfl, q.nx, hk⟩
        · obtain ⟨g1, g2⟩ := h1 q' hq; exact ⟨by omega, g2⟩
      · split
        · rename_i e; rw [e] at h4
          exact fun k ms hk' hn => up hk' (fun e => by subst e; rw [hk] at hn; cases hn) (fun h => h4 k ms h hn)
        · rename_i e; rw [e] at h4
          obtain ⟨g1, g2, g3⟩ := h4
          exact ⟨by omega, g2, fun k ms hc hk' hn => up hk' (fun e => by subst e; rw [hk] at hn; cases hn) (fun h => g3 k ms hc h hn)⟩
      · rcases List.mem_cons.1 hq with rfl | hq
        · exact ⟨by simp, rfl, rfl⟩
        · obtain ⟨g1, g2⟩ := h5 q' hq; exact ⟨by omega, g2⟩
    · rw [q.nl, q.cl, q.ol, q.rl]
      refine ⟨fun q hq => by obtain ⟨g1, g2⟩ := h1 q hq; exact ⟨by omega, g2⟩, fun k hk' hn => up hk' (fun e => by subst e; rw [hk] at hn; cases hn) (fun h => h2 k h hn), fun k ms hk' hn => up hk' (fun e => by subst e; simp) (fun h => List.mem_cons_of_mem _ (h3 k ms h hn)), ?_, fun q' hq => ?_, fun k a hk' hn => up hk' (fun e => by subst e; rw [hk] at hn; cases hn) (fun h => h6 k a h hn)⟩
      · exact ⟨by simp, ⟨ms, hk⟩, fun k ms hc hk' => by simp at hc; omega⟩
      · rcases List.mem_cons.1 hq with rfl | hq
        · exact ⟨by simp, rfl, rfl⟩
        · obtain ⟨g1, g2⟩ := h5 q' hq; exact ⟨by omega, g2⟩
/-- Whoever looks at all waits for all such before. -/
theorem chains : ∀ (m : Nat), m < ops.size → ∀ ms, C.kd m = .chain ms → ∀ k ms', k < m → C.kd k = .chain ms' → pr (ops := ops) (pm := pm) k m := by
  intro m
  induction m using Nat.strongRecOn with
  | _ m ih' =>
    intro hm ms hk k ms' hkm hk'
    obtain ⟨_, _, _, h4, _⟩ := C.lists hih m (by omega)
    rcases C.facts hih hm with ⟨h, _⟩ | ⟨a, h, _⟩ | ⟨b, h, _⟩ | ⟨ms2, K2, h, q⟩
    · rw [hk] at h; cases h
    · rw [hk] at h; cases h
    · rw [hk] at h; cases h
    · have hcb := q.cb
      unfold chainB at hcb
      split at h4
      · exact absurd hk' (h4 k ms' hkm)
      · rename_i c l e
        rw [e] at hcb
        simp only at hcb
        obtain ⟨g1, ⟨ms3, g2⟩, g3⟩ := h4
        rcases Nat.lt_trichotomy k c.1 with hlt | heq | hgt
        · exact C.pr_tr m c.1 k (ih' c.1 g1 (by omega) ms3 g2 k ms' hlt hk') ⟨hm, hcb⟩
        · rw [heq]; exact ⟨hm, hcb⟩
        · exact absurd hk' (g3 k ms' hgt hkm)
end Sq
end Go.Proofs.Ytnlcjlhcghgaoaa.EX
