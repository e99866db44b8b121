
/-
  Runs by computation: drawn regions are sound.
-/
import Derived.Test.YtnlcjlhcghgaoaaEk
namespace Go.Proofs.Ytnlcjlhcghgaoaa.EX
open Go Go.RowKit
set_option linter.unusedVariables false
set_option linter.unusedSimpArgs false
set_option linter.unusedSectionVars false
set_option maxRecDepth 10000
variable [FC]

section
variable {P : Program} {ih : Job → St → Option Ou} {ops : Array Oper} {pm wr : Tr Nat} {nx0 n : Nat}
theorem maskK_get : ∀ (mk : List (Nat × Nat)) (K : Tr Bx) (j : Nat), (mk.all fun q => tinyB q.2) = true → (maskK mk K).get j = if j ∈ mk.map (·.2) then none else K.get j
  | [], K, j, _ => by simp [maskK]
  | q :: l, K, j, h => by
    simp only [List.all_cons, Bool.and_eq_true] at h
    simp only [maskK, Tr.get_set h.1, setF, maskK_get l K j h.2, List.map_cons, List.mem_cons]
    by_cases e : j = q.2
    · rw [if_pos e, if_pos (Or.inl e)]
    · by_cases h2 : j ∈ l.map (·.2)
      · rw [if_neg e, if_pos h2, if_pos (Or.inr h2)]
      · rw [if_neg e, if_neg h2, if_neg (fun h => h.elim e h2)]
theorem unmaskK_get (K0 : Tr Bx) : ∀ (mk : List (Nat × Nat)) (K : Tr Bx) (j : Nat), (mk.all fun q => tinyB q.2) = true → (unmaskK K0 mk K).get j = if j ∈ mk.map (·.2) then K0.get j else K.get j
  | [], K, j, _ => by simp [unmaskK]
  | q :: l, K, j, h => by
    simp only [List.all_cons, Bool.and_eq_true] at h
    simp only [unmaskK, Tr.get_set h.1, setF, unmaskK_get K0 l K j h.2, List.map_cons, List.mem_cons]
    by_cases e : j = q.2
    · rw [if_pos e, if_pos (Or.inl e), e]
    · by_cases h2 : j ∈ l.map (·.2)
      · rw [if_neg e, if_pos h2, if_pos (Or.inr h2)]
      · rw [if_neg e, if_neg h2, if_neg (fun h => h.elim e h2)]
theorem testBit_or (r q k e : Nat) : ((r ||| q) ||| (1 <<< e)).testBit k = true ↔ r.testBit k = true ∨ q.testBit k = true ∨ k = e := by
  rw [Nat.testBit_or, Nat.testBit_or, Nat.one_shiftLeft, Nat.testBit_two_pow]
  simp only [Bool.or_eq_true, decide_eq_true_eq]
  constructor
  · rintro ((h | h) | h)
    · exact Or.inl h
    · exact Or.inr (Or.inl h)
    · exact Or.inr (Or.inr h.symm)
  · rintro (h | h | h)
    · exact Or.inl (Or.inl h)
    · exact Or.inl (Or.inr h)
    · exact Or.inr h.symm
theorem maskOf_ok {i : Nat} : ∀ (l : List Edge) {p : Nat}, maskOf pm i l = some p → (∀ k, p.testBit k = true ↔ ∃ e ∈ l, Region.binds .any e = true ∧ (k = e.on ∨ bitOf pm e.on k = true)) ∧ ∀ e ∈ l, Region.binds .any e = true → e.on < i
  | [], p, h => by simp [maskOf] at h; subst h; simp
  | e :: l, p, h => by
    simp only [maskOf] at h
    cases hb : Region.binds .any e with
    | false =>
      rw [hb] at h
      obtain ⟨h1, h2⟩ := maskOf_ok l h
      refine ⟨fun k => ?_, fun e' he' hb' => ?_⟩
      · rw [h1]
        constructor
        · rintro ⟨e', g1, g2⟩; exact ⟨e', List.mem_cons_of_mem _ g1, g2⟩
        · rintro ⟨e', g1, g2, g3⟩
          rcases List.mem_cons.1 g1 with rfl | g1
          · rw [hb] at g2; cases g2
          · exact ⟨e', g1, g2, g3⟩
      · rcases List.mem_cons.1 he' with rfl | he'
        · rw [hb] at hb'; cases hb'
        · exact h2 e' he' hb'
    | true =>
      rw [hb] at h
      simp only at h
      split at h
      · rename_i q r hlt hq hr
        simp only [Option.some.injEq] at h
        subst h
        obtain ⟨h1, h2⟩ := maskOf_ok l hr
        refine ⟨fun k => ?_, fun e' he' hb' => ?_⟩
        · rw [testBit_or, h1]
          constructor
          · rintro (⟨e', g1, g2⟩ | g | g)
            · exact ⟨e', List.mem_cons_of_mem _ g1, g2⟩
            · exact ⟨e, by simp, hb, Or.inr (by unfold bitOf; rw [hq]; exact g)⟩
            · exact ⟨e, by simp, hb, Or.inl g⟩
          · rintro ⟨e', g1, g2, g3⟩
            rcases List.mem_cons.1 g1 with rfl | g1
            · rcases g3 with g3 | g3
              · exact Or.inr (Or.inr g3)
              · unfold bitOf at g3; rw [hq] at g3; exact Or.inr (Or.inl g3)
            · exact Or.inl ⟨e', g1, g2, g3⟩
        · rcases List.mem_cons.1 he' with rfl | he'
          · rw [Nat.blt, Nat.ble_eq] at hlt; exact hlt
          · exact h2 e' he' hb'
      · cases h
/-- One operation's outcome, case by case. -/
inductive Oc (P : Program) (ih : Job → St → Option Ou) (ρ : Rho) (pm : Tr Nat) (nx0 i : Nat) (s : Ds) (o : Oper) (st1 : St) : Bool → Ds → Prop where
  | skip : Oc P ih ρ pm nx0 i s o st1 false ⟨setD s.T o.dst (.v undef), st1, s.cl, s.nl, s.ol, s.rl, .v undef, [], .pure, s.pd⟩
  | pure (x : SV) (m' : Mm) : opE P ρ ⟨.leaf, st1.m.nx, []⟩ o = some (x, m') → m'.nx = st1.m.nx → Oc P ih ρ pm nx0 i s o st1 true ⟨setD s.T o.dst x, st1, s.cl, s.nl, s.ol, s.rl, x, [], .pure, s.pd⟩
  | ask (x : SV) (ps : List (Value × Value)) : askE P ρ o = some (x, ps) → Oc P ih ρ pm nx0 i s o st1 true ⟨setD s.T o.dst x, ⟨st1.m, st1.orc, ps ++ st1.cnd⟩, s.cl, s.nl, s.ol, s.rl, x, [], .pure, s.pd⟩
  | new (x : SV) (m' : Mm) (k : Bx) : opE P ρ ⟨.leaf, st1.m.nx, []⟩ o = some (x, m') → m'.nx = st1.m.nx + 1 → m'.K.get st1.m.nx = some k → tinyB st1.m.nx = true →
      Oc P ih ρ pm nx0 i s o st1 true ⟨setD s.T o.dst x, ⟨⟨st1.m.K.set st1.m.nx (some k), st1.m.nx + 1, st1.m.lg⟩, st1.orc, st1.cnd⟩, s.cl, (i, st1.m.nx) :: s.nl, (i, st1.m.nx, st1.m.nx + 1) :: s.ol, s.rl, x, [], .new, s.pd⟩
  | one (ty : TypeId) (y : Operand) (a off : Nat) (k : Bx) (x : SV) : o.op = .load ty y → ρ y = some (.p a off) → st1.m.K.get a = some k → ldE P ty k.cs off = some x → seenB nx0 pm i s.ol a = true →
      (s.cl.all fun c => bitOf pm i c.1 || !(c.2.contains a)) = true → Oc P ih ρ pm nx0 i s o st1 true ⟨setD s.T o.dst x, st1, s.cl, s.nl, s.ol, (i, a) :: s.rl, x, [], .one a, s.pd⟩
  | chain (x : SV) (st2 : St) (mk : List (Nat × Nat)) : mk = (s.nl.filter fun q => !bitOf pm i q.1) → chainB pm i s.cl = true → opR P ih ρ ⟨⟨maskK mk st1.m.K, st1.m.nx, []⟩, st1.orc, st1.cnd⟩ o = some (.val x, st2) →
      (s.rl.all fun r => bitOf pm i r.1 || !(st2.m.lg.contains r.2)) = true → (mk.all fun q => tinyB q.2) = true →
      Oc P ih ρ pm nx0 i s o st1 true ⟨setD s.T o.dst x, ⟨⟨unmaskK st1.m.K mk st2.m.K, st2.m.nx, st2.m.lg ++ st1.m.lg⟩, st2.orc, st2.cnd⟩, (i, st2.m.lg) :: s.cl, s.nl, (i, st1.m.nx, st2.m.nx) :: s.ol, s.rl, x, st2.m.lg, .chain mk, s.pd⟩
  | pan (x : SV) (st2 : St) (mk : List (Nat × Nat)) : s.pd = none → mk = (s.nl.filter fun q => !bitOf pm i q.1) → chainB pm i s.cl = true → opR P ih ρ ⟨⟨maskK mk st1.m.K, st1.m.nx, []⟩, st1.orc, st1.cnd⟩ o = some (.pan x, st2) →
      (s.rl.all fun r => bitOf pm i r.1 || !(st2.m.lg.contains r.2)) = true → (mk.all fun q => tinyB q.2) = true →
      Oc P ih ρ pm nx0 i s o st1 true ⟨setD s.T o.dst (.v undef), ⟨⟨unmaskK st1.m.K mk st2.m.K, st2.m.nx, st2.m.lg ++ st1.m.lg⟩, st2.orc, st2.cnd⟩, (i, st2.m.lg) :: s.cl, s.nl, (i, st1.m.nx, st2.m.nx) :: s.ol, s.rl, .v undef, st2.m.lg, .chain mk, some (i, x, st2.m)⟩
theorem nextD0_oc {ρ : Rho} {i : Nat} {s s' : Ds} {o : Oper} {st1 : St} (h : nextD0 P ih ρ pm nx0 i s o st1 = some s') : Oc P ih ρ pm nx0 i s o st1 true s' := by
  unfold nextD0 at h
  split at h
  · rename_i x m' he
    split at h
    · rename_i hb
      simp only [Option.some.injEq] at h
      subst h
      exact .pure x m' he (Nat.eq_of_beq_eq_true hb)
    · split at h
      · rename_i k hk hb
        simp only [Bool.and_eq_true] at hb
        simp only [Option.some.injEq] at h
        subst h
        exact .new x m' k he (Nat.eq_of_beq_eq_true hb.2) hk hb.1
      · cases h
  · have ch : (match chainB pm i s.cl with
      | true => match opR P ih ρ ⟨⟨maskK (s.nl.filter fun q => !bitOf pm i q.1) st1.m.K, st1.m.nx, []⟩, st1.orc, st1.cnd⟩ o with
        | some (.val x, st2) => match (s.rl.all fun r => bitOf pm i r.1 || !(st2.m.lg.contains r.2)) && (s.nl.filter fun q => !bitOf pm i q.1).all fun q => tinyB q.2 with
          | true => some (⟨setD s.T o.dst x, ⟨⟨unmaskK st1.m.K (s.nl.filter fun q => !bitOf pm i q.1) st2.m.K, st2.m.nx, st2.m.lg ++ st1.m.lg⟩, st2.orc, st2.cnd⟩, (i, st2.m.lg) :: s.cl, s.nl, (i, st1.m.nx, st2.m.nx) :: s.ol, s.rl, x, st2.m.lg, .chain (s.nl.filter fun q => !bitOf pm i q.1), s.pd⟩ : Ds)
          | false => none
        | some (.pan x, st2) => match s.pd, (s.rl.all fun r => bitOf pm i r.1 || !(st2.m.lg.contains r.2)) && (s.nl.filter fun q => !bitOf pm i q.1).all fun q => tinyB q.2 with
          | none, true => some (⟨setD s.T o.dst (.v undef), ⟨⟨unmaskK st1.m.K (s.nl.filter fun q => !bitOf pm i q.1) st2.m.K, st2.m.nx, st2.m.lg ++ st1.m.lg⟩, st2.orc, st2.cnd⟩, (i, st2.m.lg) :: s.cl, s.nl, (i, st1.m.nx, st2.m.nx) :: s.ol, s.rl, .v undef, st2.m.lg, .chain (s.nl.filter fun q => !bitOf pm i q.1), some (i, x, st2.m)⟩ : Ds)
          | _, _ => none
        | _ => none
      | false => none) = some s' → Oc P ih ρ pm nx0 i s o st1 true s' := by
      intro h
      split at h
      · rename_i hc
        split at h
        · rename_i x st2 hr
          split at h
          · rename_i hb
            simp only [Bool.and_eq_true] at hb
            simp only [Option.some.injEq] at h
            subst h
            exact .chain x st2 _ rfl hc hr hb.1 hb.2
          · cases h
        · rename_i x st2 hr
          split at h
          · rename_i hp hb
            simp only [Bool.and_eq_true] at hb
            simp only [Option.some.injEq] at h
            subst h
            exact .pan x st2 _ hp rfl hc hr hb.1 hb.2
          · cases h
        · cases h
      · cases h
    split at h
    · rename_i ty y ho
      split at h
      · rename_i a off hy
        split at h
        · rename_i k hk
          split at h
          · rename_i x hl hb
            simp only [Bool.and_eq_true] at hb
            simp only [Option.some.injEq] at h
            subst h
            exact .one ty y a off k x ho hy hk hl hb.1 hb.2
          · cases h
        · cases h
      · cases h
    · exact ch h
theorem nextD_oc {ρ : Rho} {i : Nat} {s s' : Ds} {o : Oper} {st1 : St} (h : nextD P ih ρ pm nx0 i s o st1 = some s') : Oc P ih ρ pm nx0 i s o st1 true s' := by
  unfold nextD at h
  split at h
  · rename_i x ps hq
    simp only [Option.some.injEq] at h
    subst h
    exact .ask x ps hq
  · exact nextD0_oc h
/-- An operation's guard, or that it comes after one that has panicked. -/
def Gq (ops : Array Oper) (pm wr : Tr Nat) (i : Nat) (s : Ds) (o : Oper) (b : Bool) (st1 : St) : Prop := gE ops (rhoM s.T wr pm i) o s.st = some (b, st1) ∨ (deadB pm i s.pd = true ∧ b = false ∧ st1 = s.st)
theorem stepD_oc {i : Nat} {s s' : Ds} (h : stepD P ih ops pm wr nx0 n i s = some s') : ∃ o p b st1, ops[i]? = some o ∧ maskOf pm i o.after.toList = some p ∧ pm.get i = some p ∧ dstOk n wr i o.dst = true ∧ Gq ops pm wr i s o b st1 ∧
    Oc P ih (rhoM s.T wr pm i) pm nx0 i s o st1 b s' := by
  unfold stepD at h
  split at h
  · cases h
  · rename_i o ho
    split at h
    · rename_i p p' hp hp'
      split at h
      · rename_i hb
        simp only [Bool.and_eq_true] at hb
        have e := Nat.eq_of_beq_eq_true hb.1
        subst e
        split at h
        · rename_i hdd
          simp only [Option.some.injEq] at h
          subst h
          exact ⟨o, p, false, s.st, ho, hp, hp', hb.2, Or.inr ⟨hdd, rfl, rfl⟩, .skip⟩
        split at h
        · rename_i st1 hg
          simp only [Option.some.injEq] at h
          subst h
          exact ⟨o, p, false, st1, ho, hp, hp', hb.2, Or.inl hg, .skip⟩
        · rename_i st1 hg
          exact ⟨o, p, true, st1, ho, hp, hp', hb.2, Or.inl hg, nextD_oc h⟩
        · cases h
      · cases h
    · cases h
theorem gE_ok {ρ : Rho} {o : Oper} {st st1 : St} {b : Bool} (h : gE ops ρ o st = some (b, st1)) : st1.m = st.m ∧ (∃ l, st1.cnd = l ++ st.cnd) ∧ (Tru st1.cnd → ∀ B S a, RhoOk B S a ρ → (∀ t v, ρ (.tmp t) = some v → a.tmps[t]? = some (den B v)) → Region.wanted o (yielded ops a.tmps) = b) := by
  unfold gE at h
  unfold Region.wanted
  cases hg : o.guard with
  | none =>
    rw [hg] at h
    simp only [Option.some.injEq, Prod.mk.injEq] at h
    obtain ⟨rfl, rfl⟩ := h
    exact ⟨rfl, ⟨[], rfl⟩, fun _ _ _ _ _ _ => rfl⟩
  | some jw =>
    obtain ⟨j, want⟩ := jw
    rw [hg] at h
    simp only at h ⊢
    cases ho : ops[j]? with
    | none => rw [ho] at h; cases h
    | some oj =>
      rw [ho] at h
      simp only at h
      cases hd : oj.dst with
      | none => rw [hd] at h; cases h
      | some d =>
        rw [hd] at h
        simp only at h
        split at h
        · rename_i vs hr
          simp only [Option.some.injEq, Prod.mk.injEq] at h
          obtain ⟨rfl, rfl⟩ := h
          refine ⟨rfl, ⟨[], rfl⟩, fun t B S a _ hs => ?_⟩
          have := hs d _ hr
          simp only [yielded, ho, hd, Option.bind_some, this, den]
          cases want <;> rfl
        · rename_i v hne hr
          cases hq : askB v st with
          | none => rw [hq] at h; cases h
          | some q =>
            obtain ⟨c, st2⟩ := q
            rw [hq] at h
            simp only [Option.some.injEq, Prod.mk.injEq] at h
            obtain ⟨rfl, rfl⟩ := h
            obtain ⟨h1, h2, h3⟩ := askB_ok hq
            refine ⟨h1, h2.1, fun t B S a _ hs => ?_⟩
            have := hs d v hr
            rw [h3 t B] at this
            simp only [yielded, ho, hd, Option.bind_some, this]
            cases c <;> cases want <;> rfl
        · cases h
theorem gq_ok {i : Nat} {s : Ds} {o : Oper} {b : Bool} {st1 : St} (h : Gq ops pm wr i s o b st1) : st1.m = s.st.m ∧ ∃ l, st1.cnd = l ++ s.st.cnd := by
  rcases h with h | ⟨_, _, rfl⟩
  · obtain ⟨h1, h2, _⟩ := gE_ok h
    exact ⟨h1, h2⟩
  · exact ⟨rfl, [], rfl⟩
end
end Go.Proofs.Ytnlcjlhcghgaoaa.EX
