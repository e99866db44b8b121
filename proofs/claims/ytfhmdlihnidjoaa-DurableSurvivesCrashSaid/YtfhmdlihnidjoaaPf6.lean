/-
  Merged: Ed
-/
import Derived.Test.YtfhmdlihnidjoaaPf4
import Derived.Laws.BytesString
import Derived.Laws.IdiomStrings
namespace Go.Proofs.Ytfhmdlihnidjoaa.EX
set_option linter.unusedVariables false
set_option linter.unusedSimpArgs false
set_option linter.unusedSectionVars false
set_option maxRecDepth 100000
set_option maxHeartbeats 1000000
open Go Go.RowKit
variable [FC]
section
variable {P : Program} {w0 : World} {F : List RF} {B : Pl} {S : Nat → Prop} {m m' : Mm} {a : Act} {w : World} {ρ : Rho} {o : Oper} {x : SV}
theorem Re.upd (R : Re w0 F B m.K.get S w) {i : Nat} {k : Bx} {w' : World} (ht : QaE i = true) (R' : Re w0 F B (QbW m.K.get i (some k)) S w') : Re w0 F B (m.upd i k).K.get S w' := by
  unfold Mm.upd
  simp only [Tr.get_set ht]
  exact R'
def KRel (B : Pl) (r : Option SV) (p : Option (Nat × Value)) : Prop := match r with
  | none => p = none
  | some v => ∃ a, p = some (a, den B v)
theorem Qi6 (B : Pl) (q : IntKind) {kd : IntKind} {n : Int} : ∀ (es : List SV) {r : Option SV} (j i : Nat), QeO kd n es = some r → ∃ p, Instr.findNow (.int q) (.int kd n) (Qfs j (Qam B es)) i = some p ∧ KRel B r p
  | [], r, j, i, h => by
    simp only [QeO, Option.some.injEq] at h
    subst h
    exact ⟨none, rfl, rfl⟩
  | [_], r, j, i, h => by simp [QeO] at h
  | k :: v :: l, r, j, i, h => by
    unfold QeO at h
    split at h
    · rename_i kd' n'
      simp only [Qam, den, Qfs, Instr.findNow, Instr.sameNow]
      split at h
      · rename_i h1 h2
        simp only [decide_eq_true_eq] at h1 h2
        simp only [Option.some.injEq] at h
        subst h
        subst h1; subst h2
        exact ⟨some (i, den B v), by simp, _, rfl⟩
      · rename_i h1 h2
        simp only [decide_eq_true_eq, decide_eq_false_iff_not] at h1 h2
        subst h1
        obtain ⟨p, h3, h4⟩ := Qi6 B q l (j + 1) (i + 1) h
        refine ⟨p, ?_, h4⟩
        have : (n == n') = false := by simpa using h2
        simp only [if_true, this]
        exact h3
      · cases h
    · cases h
theorem QlH {S : Nat → Prop} {kd : IntKind} {n : Int} : ∀ (es : List SV) {v : SV}, QeO kd n es = some (some v) → bdL S es → bd S v
  | [], v, h, _ => by simp [QeO] at h
  | [_], v, h, _ => by simp [QeO] at h
  | k :: u :: l, v, h, hb => by
    simp only [bdL] at hb
    unfold QeO at h
    split at h
    · split at h
      · simp only [Option.some.injEq] at h
        subst h
        exact hb.2.1
      · exact QlH l h hb.2.2
      · cases h
    · cases h
theorem Qhl (B : Pl) {kd : IntKind} {n : Int} (k v : Value) : ∀ (es : List SV) (j : Nat), QeO kd n es = some none → Qfs j (Qam B es ++ [k, v]) = Qfs j (Qam B es) ++ [{ key := k, val := v, born := j + (Qfs j (Qam B es)).length }]
  | [], j, h => rfl
  | [_], j, h => by simp [QeO] at h
  | a :: u :: l, j, h => by
    unfold QeO at h
    split at h
    · split at h
      · cases h
      · simp only [Qam, List.cons_append, Qfs, List.length_cons]
        rw [Qhl B k v l (j + 1) h]
        simp only [List.cons.injEq, true_and, List.append_cancel_left_eq, MapEntry.mk.injEq, and_true]
        omega
      · cases h
    · cases h
theorem Qfh {d : Option TypeDesc} (h : d.map QfU = some true) : ∃ q, d = some (.int q) := by
  cases d with
  | none => cases h
  | some d => cases d <;> first | exact ⟨_, rfl⟩ | (simp [QfU] at h)
theorem QdK {B : Pl} {kt : TypeId} {q kd : IntKind} {n : Int} {es : List SV} {r : Option SV} (hu : P.underlying kt = some (.int q)) (h : QeO kd n es = some r) (w : World) : ∃ p, (Instr.findKey kt (.int kd n) (Qfs 0 (Qam B es))).run P w = .ok p w ∧ KRel B r p := by
  obtain ⟨p, h1, h2⟩ := Qi6 B q es 0 0 h
  refine ⟨p, ?_, h2⟩
  unfold Instr.findKey
  rw [Sem.run_bind, run_underlying hu w]
  simp only [Result.andThen_ok]
  rw [h1]
  rfl
theorem Qdk {kt : TypeId} {q kd : IntKind} {n : Int} (hu : P.underlying kt = some (.int q)) (b : Bool) (w : World) : (Instr.checkKey b 10000 kt (.int kd n)).run P w = .ok () w := by
  unfold Instr.checkKey
  rw [Sem.run_bind, run_underlying hu w]
  rfl
theorem QlG {kd : IntKind} {n : Int} : ∀ {es : List SV} {r : Option SV}, QeO kd n es = some r → itO es = none ∧ ∀ v, itO (es ++ [.v (.int kd n), v]) = none
  | [], r, h => ⟨rfl, fun v => rfl⟩
  | [_], r, h => by simp [QeO] at h
  | k :: u :: l, r, h => by
    unfold QeO at h
    split at h
    · exact ⟨rfl, fun v => rfl⟩
    · cases h
theorem Qgo {B : Pl} {kd : IntKind} {n : Int} {es : List SV} {r : Option SV} (h : QeO kd n es = some r) : objM B es = .map (Qfs 0 (Qam B es)).toArray (Qfs 0 (Qam B es)).length := by
  unfold objM
  rw [(QlG h).1]
theorem Qln {B : Pl} {kd : IntKind} {n : Int} {es : List SV} {r : Option SV} (h : QeO kd n es = some r) (v : SV) : objM B (es ++ [.v (.int kd n), v]) = .map (Qfs 0 (Qam B (es ++ [.v (.int kd n), v]))).toArray (Qfs 0 (Qam B (es ++ [.v (.int kd n), v]))).length := by
  unfold objM
  rw [(QlG h).2 v]
theorem Re.put (R : Re w0 F B m.K.get S w) {i : Nat} {k k' : Bx} (hk : m.K.get i = some k) {w' : World} {rest : List Value} (hg : w.grownBy w' (some (B i).1)) (hkb : bdK S k') (hr : Qe4 (B i).2 k' rest)
    (hh : w'.heap[(B i).1]? = some (Qcd B k' rest)) : Re w0 F B (QbW m.K.get i (some k')) S w' := by
  have hne : ∀ j kj, m.K.get j = some kj → j ≠ i → (B j).1 ≠ (B i).1 := fun j kj h hj he => hj (R.nd j i _ _ h hk he)
  have hold : ∀ j kj, QbW m.K.get i (some k') j = some kj → ∃ kj', m.K.get j = some kj' := fun j kj h => by
    unfold QbW at h
    by_cases e : j = i
    · subst e; exact ⟨_, hk⟩
    · rw [if_neg e] at h; exact ⟨_, h⟩
  refine ⟨fun j kj h => ?_, fun p q kp kq hp hq he => ?_, fun j kj h => ?_, fun f hf => ?_, ?_⟩
  · unfold QbW at h
    by_cases e : j = i
    · subst e; simp at h; subst h
      exact ⟨(R.bx j k hk).1, hkb, rest, hr, hh⟩
    · rw [if_neg e] at h
      obtain ⟨h1, h2, rest', h4, h3⟩ := R.bx j kj h
      exact ⟨h1, h2, rest', h4, by rw [hg.block _ (R.lt h) (fun e' => hne j _ h e (Option.some.inj e'))]; exact h3⟩
  · obtain ⟨_, g1⟩ := hold p kp hp
    obtain ⟨_, g2⟩ := hold q kq hq
    exact R.nd p q _ _ g1 g2 he
  · obtain ⟨_, g1⟩ := hold j kj h
    exact R.lo j _ g1
  · obtain ⟨h1, h2⟩ := R.fs f hf
    refine ⟨f.st w w' h1 (fun b hb => hg.block b (f.lt w h1 b hb) (fun e => h2 i k hk (Option.some.inj e ▸ hb))), fun j kj h => ?_⟩
    obtain ⟨_, g1⟩ := hold j kj h
    exact h2 j _ g1
  · have g := R.gr.1
    refine ⟨⟨hg.os.trans g.os, hg.tape.trans g.tape, hg.output.trans g.output, Nat.le_trans g.size hg.size, fun b hb hne' => ?_⟩, R.gr.2⟩
    rw [hg.block b (Nat.lt_of_lt_of_le hb g.size) (fun e => by have := R.lo i k hk; have := Option.some.inj e; omega)]
    exact g.block b hb hne'
theorem mkmE_ok {t : TypeId} {x : SV} {m' : Mm} (R : Re w0 F B m.K.get S w) (hS : ∀ j, S j → j < m.nx) (ho : o.op = .makeMap t none) (h : mkmE m t (QaE m.nx) = some (x, m')) : Qea P w0 F B S m.nx o a w x m' := by
  unfold mkmE at h
  cases ht : QaE m.nx with
  | false => rw [ht] at h; cases h
  | true =>
    rw [ht] at h
    simp only [Option.some.injEq, Prod.mk.injEq] at h
    obtain ⟨rfl, rfl⟩ := h
    obtain ⟨h1, h2⟩ := R.new ⟨t, [], 0, true, []⟩ [] 0 ⟨by simp [bdL], fun _ => ⟨rfl, rfl, by simp [bdL]⟩⟩ (by simp [Qe4]) hS
    refine ⟨.value (.map (some w.heap.size)), w.alloc (Qcd B ⟨t, [], 0, true, []⟩ []), _, ?_, Or.inl (by simp [den, QbQ]), h2, by simp [Mm.new], ?_, by simp [bd, Mm.new, ext]⟩
    · unfold execOp
      simp only [ho, Option.map_none]
      rfl
    · unfold Mm.new
      simp only [Tr.get_set ht]
      exact h1
theorem insE_ok {t : TypeId} {y k v : Operand} {x : SV} {m' : Mm} (R : Re w0 F B m.K.get S w) (hρ : QbF B S a ρ) (ho : o.op = .insert t y k v) (h : insE P m t (ρ y) (ρ k) (ρ v) = some (x, m')) : Qea P w0 F B S m.nx o a w x m' := by
  unfold insE at h
  split at h
  · rename_i kt et i kd n v' hu hy hk hv
    split at h
    · rename_i b hi hb ht
      split at h
      · rename_i hmp hke
        simp only [Option.some.injEq, Prod.mk.injEq] at h
        obtain ⟨rfl, rfl⟩ := h
        obtain ⟨q, hq⟩ := Qfh hi
        obtain ⟨e1, _⟩ := hρ _ _ hy
        obtain ⟨e2, _⟩ := hρ _ _ hk
        obtain ⟨e3, b3⟩ := hρ _ _ hv
        simp only [den] at e1 e2
        obtain ⟨_, hbk, rest, ⟨hr1, _⟩, hh⟩ := R.bx i b hb
        obtain ⟨hcs, hsz, hbe⟩ := hbk.2 hmp
        unfold Qcd at hh
        rw [hmp] at hh
        simp only [Qgo hke] at hh
        obtain ⟨p, hf, rfl⟩ := QdK (B := B) hq hke w
        have hlt := R.lt hb
        have hobj : Qcd B ⟨b.ty, [], 0, true, b.es ++ [.v (.int kd n), v']⟩ [] = .map ((Qfs 0 (Qam B b.es)).toArray.push { key := .int kd n, val := den B v', born := (Qfs 0 (Qam B b.es)).length }) ((Qfs 0 (Qam B b.es)).length + 1) := by
          unfold Qcd
          simp only [Qln hke, QaX, Qam, den]
          rw [Qhl B _ _ _ 0 hke]
          simp
        have hrun : (Instr.mapUpdate t (.map (some (B i).1)) (.int kd n) (den B v')).run P w = .ok () { w with heap := w.heap.setIfInBounds (B i).1 (Qcd B ⟨b.ty, [], 0, true, b.es ++ [.v (.int kd n), v']⟩ []) } := by
          rw [hobj]
          unfold Instr.mapUpdate
          rw [Sem.run_bind, run_underlying hu w]
          simp only [Result.andThen_ok]
          rw [Sem.run_bind]
          have hg : (getObj (B i).1).run P w = .ok (.map (Qfs 0 (Qam B b.es)).toArray (Qfs 0 (Qam B b.es)).length) w := by
            simp only [getObj, Sem.run, hh]
          rw [hg]
          simp only [Result.andThen_ok]
          rw [Sem.run_bind, Qdk hq false w]
          simp only [Result.andThen_ok]
          rw [Sem.run_bind, hf]
          simp only [Result.andThen_ok]
          simp only [setObj, Sem.run, hh]
        refine ⟨.skip, { w with heap := w.heap.setIfInBounds (B i).1 (Qcd B ⟨b.ty, [], 0, true, b.es ++ [.v (.int kd n), v']⟩ []) }, B, ?_, Or.inr ⟨rfl, rfl⟩, Ag.refl _ _ _, Nat.le_refl _, ?_, by simp [bd]⟩
        · unfold execOp
          simp only [ho, e1, e2, e3, Sem.run_bind, hrun, Result.andThen_ok, Sem.run_pure]
        · simp only [Mm.upd, Tr.get_set ht]
          rw [Qal]
          refine R.put hb (rest := []) ⟨rfl, rfl, rfl, by simp, fun j hj hne => ?_⟩ ⟨by simp [bdL], fun _ => ⟨rfl, rfl, Qbi.2 ⟨hbe, by simp [bdL, bd, b3]⟩⟩⟩ (by simp [Qe4]) ?_
          · simp only [Array.getElem?_setIfInBounds]
            rw [if_neg (fun e => hne (by rw [e]))]
          · simp [Array.getElem?_setIfInBounds, hlt]
      · cases h
    · cases h
  · cases h
theorem lkE_ok {t : TypeId} {y k : Operand} {ok : Bool} {x : SV} {m' : Mm} (R : Re w0 F B m.K.get S w) (hρ : QbF B S a ρ) (ho : o.op = .lookup t y k ok) (h : lkE P m t (ρ y) (ρ k) ok = some (x, m')) : Qea P w0 F B S m.nx o a w x m' := by
  unfold lkE at h
  split at h
  · rename_i kt et i kd n hu hy hk
    split at h
    · rename_i b z hi hb hz
      split at h
      · rename_i r hmp hke
        simp only [Option.some.injEq, Prod.mk.injEq] at h
        obtain ⟨rfl, rfl⟩ := h
        obtain ⟨q, hq⟩ := Qfh hi
        obtain ⟨e1, _⟩ := hρ _ _ hy
        obtain ⟨e2, _⟩ := hρ _ _ hk
        simp only [den] at e1 e2
        obtain ⟨_, hbk, rest, _, hh⟩ := R.bx i b hb
        obtain ⟨hcs, hsz, hbe⟩ := hbk.2 hmp
        unfold Qcd at hh
        rw [hmp] at hh
        simp only [Qgo hke] at hh
        obtain ⟨p, hf, hp⟩ := QdK (B := B) hq hke w
        have hg : (getObj (B i).1).run P w = .ok (.map (Qfs 0 (Qam B b.es)).toArray (Qfs 0 (Qam B b.es)).length) w := by
          simp only [getObj, Sem.run, hh]
        have hbd : bd S (lkV ok r z) := by
          have hv : bd S (r.getD (.v z)) := by
            cases r with
            | none => simp [bd]
            | some v => exact QlH _ hke hbe
          cases ok with
          | true => simp only [lkV, bd, bdL]; exact ⟨hv, trivial, trivial⟩
          | false => exact hv
        have hrun : (Instr.lookup t (.map (some (B i).1)) (.int kd n) ok).run P w = .ok (den B (lkV ok r z)) w := by
          unfold Instr.lookup
          rw [Sem.run_bind, run_underlying hu w]
          simp only [Result.andThen_ok, Sem.run_bind, hg, Sem.run_pure, Qdk hq, hf]
          cases r with
          | none =>
            have hp' : p = none := hp
            subst hp'
            simp only [Sem.run_bind, SZ.pev_run _ hz w, Result.andThen_ok, Sem.run_pure]
            cases ok <;> simp [lkV, den, Qam, Sem.run_pure]
          | some v =>
            obtain ⟨a', hp'⟩ : ∃ a, p = some (a, den B v) := hp
            subst hp'
            simp only [Sem.run_pure, Result.andThen_ok]
            cases ok <;> simp [lkV, den, Qam, Sem.run_pure]
        exact Qaw R hbd (by unfold execOp; simp only [ho, e1, e2, Sem.run_bind, hrun, Result.andThen_ok, Sem.run_pure])
      · cases h
    · cases h
  · cases h
theorem QjQ (hS : ∀ j, S j → j < m.nx) (R : Re w0 F B m.K.get S w) (hρ : QbF B S a ρ) (h : opE0 P ρ m o = some (x, m')) : Qea P w0 F B S m.nx o a w x m' := by
  have plain : (match Qa9 P ρ o with
      | some x => some (x, m)
      | none => none) = some (x, m') → Qea P w0 F B S m.nx o a w x m' := Qlf R hρ
  unfold opE0 at h
  split at h
  · -- move
    rename_i y ho
    cases hy : ρ y with
    | none => rw [hy] at h; cases h
    | some v =>
      rw [hy] at h
      simp only [Option.some.injEq, Prod.mk.injEq] at h
      obtain ⟨rfl, rfl⟩ := h
      obtain ⟨h1, h2⟩ := hρ y v hy
      exact Qaw R h2 (by unfold execOp; simp only [ho, h1]; rfl)
  · -- assign
    rename_i y ho
    cases hy : ρ y with
    | none => rw [hy] at h; cases h
    | some v =>
      rw [hy] at h
      simp only [Option.some.injEq, Prod.mk.injEq] at h
      obtain ⟨rfl, rfl⟩ := h
      obtain ⟨h1, h2⟩ := hρ y v hy
      exact Qaw R h2 (by unfold execOp; simp only [ho, h1]; rfl)
  · -- load
    rename_i ty y ho
    cases hy : ρ y with
    | none => rw [hy] at h; cases h
    | some v =>
      rw [hy] at h
      cases v with
      | p i off =>
        simp only at h
        cases hk : m.K.get i with
        | none => rw [hk] at h; cases h
        | some k =>
          rw [hk] at h
          simp only at h
          cases hl : ldE P ty k.cs off with
          | none => rw [hl] at h; cases h
          | some v =>
            rw [hl] at h
            simp only [Option.some.injEq, Prod.mk.injEq] at h
            obtain ⟨rfl, rfl⟩ := h
            obtain ⟨h1, h2⟩ := hρ y _ hy
            obtain ⟨h3, h4⟩ := R.ld hk hl
            exact Qaw R h4 (by unfold execOp; simp only [ho, h1, den, Instr.loadAt, Instr.sureAddr, Sem.run_bind, Sem.run_pure, Result.andThen_ok, h3])
      | _ => simp at h
  · -- store
    rename_i ty y z ho
    cases hy : ρ y with
    | none => rw [hy] at h; simp at h
    | some u =>
      cases hz : ρ z with
      | none => rw [hy, hz] at h; cases u <;> simp at h
      | some v =>
        rw [hy, hz] at h
        cases u with
        | p i off =>
          simp only at h
          cases hk : m.K.get i with
          | none => rw [hk] at h; cases h
          | some k =>
            cases ht : QaE i with
            | false => rw [hk, ht] at h; cases h
            | true =>
              rw [hk, ht] at h
              simp only at h
              cases hs : stE P ty k.cs off v with
              | none => rw [hs] at h; cases h
              | some cs =>
                rw [hs] at h
                simp only [Option.some.injEq, Prod.mk.injEq] at h
                obtain ⟨rfl, rfl⟩ := h
                obtain ⟨h1, h2⟩ := hρ y _ hy
                obtain ⟨h3, h4⟩ := hρ z _ hz
                obtain ⟨w', hr, R'⟩ := R.st hk h4 hs
                refine ⟨.skip, w', B, ?_, Or.inr ⟨rfl, rfl⟩, Ag.refl _ _ _, Nat.le_refl _, by simp only [Mm.upd]; rw [Qal]; exact R.upd ht R', by simp [bd]⟩
                unfold execOp
                simp only [ho, h1, h3, den, Instr.storeAt, Instr.sureAddr, Sem.run_bind, Sem.run_pure, Result.andThen_ok, hr]
        | _ => simp at h
  · -- alloc
    rename_i ty ho
    cases hz : SZ.zeroS P ty with
    | none => rw [hz] at h; cases h
    | some cs =>
      cases ht : QaE m.nx with
      | false => rw [hz, ht] at h; cases h
      | true =>
        rw [hz, ht] at h
        simp only [Option.some.injEq, Prod.mk.injEq] at h
        obtain ⟨rfl, rfl⟩ := h
        obtain ⟨z, hz1, hz2⟩ := SZ.zeroS_run hz w
        refine QiX R ht (Qhv _ _) (by simp [bd, ext]) rfl hS fun B' hB _ => ?_
        have hr : (Instr.alloc ty true (.tuple #[])).run P w = .ok (.pointer (some ⟨w.heap.size, 0, none⟩)) (w.alloc (.cells cs.toArray ty (0, 0))) := by
          simp only [Instr.alloc, Sem.run_bind, hz2, Result.andThen_ok, newVar, newRow, newObj]
          rw [← hz1]
          rfl
        unfold execOp
        simp only [ho, Sem.run_bind, hr, Result.andThen_ok, Sem.run_pure, den, hB, Qft]
  · -- box
    rename_i ty y ho
    cases hy : ρ y with
    | none => rw [hy] at h; simp at h
    | some v =>
      cases ht : QaE m.nx with
      | false => rw [hy, ht] at h; simp at h
      | true =>
        rw [hy, ht] at h
        simp only [Option.some.injEq, Prod.mk.injEq] at h
        obtain ⟨rfl, rfl⟩ := h
        obtain ⟨h1, h2⟩ := hρ y _ hy
        refine QiX R ht (Qfu h2) (by simp [bd, ext]) rfl hS fun B' hB hag => ?_
        unfold execOp
        simp only [ho, h1, Instr.box, newVar, newRow, newObj, Sem.run_bind, Sem.run_pure, Result.andThen_ok, den, hB, Qeo]
        rfl
  · -- build
    rename_i t parts ho
    cases hp : Qgk P ρ o with
    | some y =>
      rw [hp] at h
      simp only [Option.some.injEq, Prod.mk.injEq] at h
      obtain ⟨rfl, rfl⟩ := h
      unfold Qgk at hp
      split at hp
      · exact QdW R hρ hp
      · cases hp
    | none =>
      rw [hp] at h
      simp only at h
      cases hv : Qc5 ρ (parts.toList.map (·.2)) with
      | none => rw [hv] at h; cases h
      | some vs =>
        rw [hv] at h
        simp only at h
        cases hb : bldE P t ((parts.toList.map (·.1)).zip vs) with
        | none => rw [hb] at h; cases h
        | some cs =>
          rw [hb] at h
          simp only [Option.some.injEq, Prod.mk.injEq] at h
          obtain ⟨rfl, rfl⟩ := h
          obtain ⟨h1, h2⟩ := QcR hρ _ hv
          refine Qaw R (QdZ (bldE_bd hb (Qkl _ _ h2))) ?_
          have hr := bldE_run B hb w
          rw [QaI] at h1
          rw [QhD (den B) parts.toList a.eval vs h1] at hr
          unfold execOp
          have e : (parts.map fun (i, x) => (i, a.eval x)) = (parts.toList.map fun q => (q.1, a.eval q.2)).toArray := by apply Array.ext'; simp
          simp only [ho, e, Sem.run_bind, hr, Result.andThen_ok, Sem.run_pure, Qde]
  · -- buildSlice
    rename_i t len parts ho
    cases hv : Qc5 ρ (parts.toList.map (·.2)) with
    | none => rw [hv] at h; simp at h
    | some vs =>
      cases ht : QaE m.nx with
      | false => rw [hv, ht] at h; simp at h
      | true =>
        rw [hv, ht] at h
        simp only at h
        cases hb : Qkh P t len ((parts.toList.map (·.1)).zip vs) with
        | none => rw [hb] at h; cases h
        | some k =>
          rw [hb] at h
          simp only [Option.some.injEq, Prod.mk.injEq] at h
          obtain ⟨rfl, rfl⟩ := h
          obtain ⟨h1, h2⟩ := QcR hρ _ hv
          refine QiX R ht (bslE_bd hb (Qkl _ _ h2)) (by simp [bd, ext]) (bslE_sz hb) hS (fun B' hB _ => ?_) (bslE_mp hb) (bslE_es hb)
          have hr := bslE_run B hb w
          rw [QaI] at h1
          rw [QhD (den B) parts.toList a.eval vs h1] at hr
          unfold execOp
          have e : (parts.map fun (i, x) => (i, a.eval x)) = (parts.toList.map fun q => (q.1, a.eval q.2)).toArray := by apply Array.ext'; simp
          simp only [ho, e, Sem.run_bind, hr, Result.andThen_ok, Sem.run_pure, den, hB]
  · -- fieldAddr
    rename_i t y f ho
    cases hy : ρ y with
    | none => rw [hy] at h; cases h
    | some v =>
      rw [hy] at h
      cases v with
      | p i off =>
        simp only at h
        cases hf : SZ.fieldS P t f with
        | none => rw [hf] at h; cases h
        | some q =>
          rw [hf] at h
          simp only [Option.some.injEq, Prod.mk.injEq] at h
          obtain ⟨rfl, rfl⟩ := h
          obtain ⟨h1, h2⟩ := hρ y _ hy
          exact Qaw R (by simpa [bd] using h2) (by unfold execOp; simp only [ho, h1, den, Sem.run_bind, SZ.fieldS_run hf, Result.andThen_ok, Sem.run_pure])
      | _ => simp at h
  · -- indexAddr
    rename_i t y ix ho
    have slice : ∀ i off l cv iv n q, ρ y = some iv → den B iv = .slice (some ⟨(B i).1, off, none⟩) l cv → S i → (∃ k, a.eval ix = .int k (Int.ofNat n)) → idxE P t l n = some q → Qea P w0 F B S m.nx o a w (.p i (off + q)) m := by
      intro i off l cv iv n q h1 h2 h3 ⟨k, h4⟩ h5
      refine Qaw R (by simpa [bd] using h3) ?_
      have he := (hρ y _ h1).1
      unfold idxE at h5
      cases hu : P.underlying t with
      | none => rw [hu] at h5; cases h5
      | some d =>
        rw [hu] at h5
        cases d <;> (try (cases h5; done))
        rename_i elem
        simp only at h5
        cases hn : Nat.blt n l with
        | false => rw [hn] at h5; cases h5
        | true =>
          cases hs : Qcc P elem with
          | none => rw [hn, hs] at h5; cases h5
          | some size =>
            rw [hn, hs] at h5
            simp only [Option.some.injEq] at h5
            subst h5
            have hlt : n < l := by rw [Nat.blt, Nat.ble_eq] at hn; exact hn
            unfold execOp
            simp only [ho, he, h2, h4, Instr.indexAt, asIntOf, Sem.run_bind, Sem.run_pure, Result.andThen_ok, run_underlying hu w]
            rw [if_pos ⟨by simp, by simpa using hlt⟩]
            simp only [Sem.run_bind, Qa0 hs, Result.andThen_ok, Sem.run_pure, den, QbP]
            rfl
    cases hy : ρ y with
    | none => rw [hy] at h; simp at h
    | some u =>
      cases hi : ρ ix with
      | none => rw [hy, hi] at h; cases u <;> simp at h
      | some iv =>
        rw [hy, hi] at h
        obtain ⟨g1, g2⟩ := hρ y _ hy
        have hiv := hρ ix _ hi
        cases u with
        | s i off l c =>
          simp only at h
          cases hn : Qgq iv with
          | none => rw [hn] at h; cases h
          | some n =>
            rw [hn] at h; simp only at h
            cases hq : idxE P t l n with
            | none => rw [hq] at h; cases h
            | some q =>
              rw [hq] at h
              simp only [Option.some.injEq, Prod.mk.injEq] at h
              obtain ⟨rfl, rfl⟩ := h
              obtain ⟨k, hk⟩ := Qcz hn B
              exact slice i off l c _ n q hy (by simp [den]) (by simpa [bd] using g2) ⟨k, hiv.1.trans hk⟩ hq
        | r i off l c =>
          simp only at h
          cases hn : Qgq iv with
          | none => rw [hn] at h; cases h
          | some n =>
            rw [hn] at h; simp only at h
            cases hq : idxE P t l n with
            | none => rw [hq] at h; cases h
            | some q =>
              rw [hq] at h
              simp only [Option.some.injEq, Prod.mk.injEq] at h
              obtain ⟨rfl, rfl⟩ := h
              obtain ⟨k, hk⟩ := Qcz hn B
              exact slice i off l _ _ n q hy (by simp only [den]; rfl) (by simpa [bd] using g2) ⟨k, hiv.1.trans hk⟩ hq
        | p i off =>
          simp only at h
          cases hn : Qgq iv with
          | none => rw [hn] at h; cases h
          | some n =>
            rw [hn] at h; simp only at h
            cases hq : aidxE P t n with
            | none => rw [hq] at h; cases h
            | some q =>
              rw [hq] at h
              simp only [Option.some.injEq, Prod.mk.injEq] at h
              obtain ⟨rfl, rfl⟩ := h
              obtain ⟨k, hk⟩ := Qcz hn B
              have h4 := hiv.1.trans hk
              refine Qaw R (by simpa [bd] using g2) ?_
              unfold aidxE at hq
              cases hu : P.underlying t with
              | none => rw [hu] at hq; cases hq
              | some d =>
                rw [hu] at hq
                cases d <;> (try (cases hq; done))
                rename_i len elem
                simp only at hq
                cases hnl : Nat.blt n len with
                | false => rw [hnl] at hq; cases hq
                | true =>
                  cases hs : Qcc P elem with
                  | none => rw [hnl, hs] at hq; cases hq
                  | some size =>
                    rw [hnl, hs] at hq
                    simp only [Option.some.injEq] at hq
                    subst hq
                    have hlt : n < len := by rw [Nat.blt, Nat.ble_eq] at hnl; exact hnl
                    unfold execOp
                    simp only [ho, g1, den, h4, Instr.indexAt, Instr.sureAddr, asIntOf, Sem.run_bind, Sem.run_pure, Result.andThen_ok, run_underlying hu w]
                    rw [if_pos ⟨by simp, by simpa using hlt⟩]
                    simp only [Sem.run_bind, Qa0 hs, Result.andThen_ok, Sem.run_pure, den, QbP]
                    rfl
        | _ => simp at h
  · -- makeFunc
    rename_i fn first caps ho
    cases h1 : Qc5 ρ first.toList with
    | none => rw [h1] at h; simp at h
    | some fs =>
      cases h2 : Qc5 ρ caps.toList with
      | none => rw [h1, h2] at h; simp at h
      | some cs =>
        rw [h1, h2] at h
        simp only [Option.some.injEq, Prod.mk.injEq] at h
        obtain ⟨rfl, rfl⟩ := h
        obtain ⟨g1, g2⟩ := QcR hρ _ h1
        obtain ⟨g3, g4⟩ := QcR hρ _ h2
        refine Qaw R (by simp [bd, g2, g4]) ?_
        have e1 : first.map a.eval = (Qam B fs).toArray := by apply Array.ext'; simp [g1]
        have e2 : caps.map a.eval = (Qam B cs).toArray := by apply Array.ext'; simp [g3]
        unfold execOp
        simp only [ho, Instr.makeFunc, Sem.run_bind, Sem.run_pure, Result.andThen_ok, den, e1, e2]
  · -- field
    rename_i t y f ho
    split at h
    · rename_i cs hy
      cases hf : fldE P t cs f with
      | none => rw [hf] at h; cases h
      | some v =>
        rw [hf] at h
        simp only [Option.some.injEq, Prod.mk.injEq] at h
        obtain ⟨rfl, rfl⟩ := h
        obtain ⟨h1, h2⟩ := hρ y _ hy
        have hr := fldE_run B hf w
        exact Qaw R (fldE_bd hf (by simpa [bd] using h2)) (by unfold execOp; simp only [ho, h1, den, Sem.run_bind, hr, Result.andThen_ok, Sem.run_pure])
    · exact plain h
  · -- index
    rename_i t y ix ho
    split at h
    · rename_i cs hy
      cases hf : elX P t cs (ρ ix) with
      | none => rw [hf] at h; cases h
      | some v =>
        rw [hf] at h
        simp only [Option.some.injEq, Prod.mk.injEq] at h
        obtain ⟨rfl, rfl⟩ := h
        unfold elX at hf
        split at hf
        · rename_i iv hiv
          split at hf
          · rename_i n hn
            obtain ⟨h1, h2⟩ := hρ y _ hy
            obtain ⟨k, hk⟩ := Qcz hn B
            have h3 := (hρ ix _ hiv).1.trans hk
            have hr := elE_run B hf k w
            exact Qaw R (elE_bd hf (by simpa [bd] using h2)) (by unfold execOp; simp only [ho, h1, h3, den, Sem.run_bind, hr, Result.andThen_ok, Sem.run_pure])
          · cases hf
        · cases hf
    · exact plain h
  · -- makeInterface
    rename_i ty y ho
    split at h
    · rename_i v hy hu
      simp only [Option.some.injEq, Prod.mk.injEq] at h
      obtain ⟨rfl, rfl⟩ := h
      obtain ⟨h1, h2⟩ := hρ y _ hy
      cases hd : P.underlying ty with
      | none => rw [hd] at hu; cases hu
      | some d =>
        rw [hd] at hu
        refine Qaw R (mkIf_bd h2) ?_
        unfold execOp
        simp only [ho, h1, Instr.makeInterface, Sem.run_bind, run_underlying hd w, Result.andThen_ok, mkIf_den]
        cases d <;> first | (cases hu; done) | rfl
    · cases h
  · -- typeAssert
    rename_i y xt t ok ho
    split at h
    · rename_i ty v hy
      cases hf : tasE P ty v t ok with
      | none => rw [hf] at h; cases h
      | some z =>
        rw [hf] at h
        simp only [Option.some.injEq, Prod.mk.injEq] at h
        obtain ⟨rfl, rfl⟩ := h
        obtain ⟨h1, h2⟩ := hρ y _ hy
        simp only [bd] at h2
        unfold tasE at hf
        split at hf
        · rename_i hu hb
          simp only [Option.some.injEq] at hf
          have ht : ty = t := Nat.eq_of_beq_eq_true hb
          subst ht
          cases hd : P.underlying ty with
          | none => rw [hd] at hu; cases hu
          | some d =>
            rw [hd] at hu
            have hr : (execOp a.eval o).run P w = .ok (.value (if ok then .tuple #[den B v, .bool true] else den B v)) w := by
              unfold execOp
              simp only [ho, h1, den, Instr.typeAssert, Sem.run_bind, run_underlying hd w, Result.andThen_ok]
              cases d <;> first | (cases hu; done) | (simp only [if_true]; rfl)
            cases ok with
            | true => simp only at hf; subst hf; exact Qaw R (by simp [bd, bdL, h2]) (by rw [hr]; simp [den, Qam])
            | false => simp only at hf; subst hf; exact Qaw R h2 (by rw [hr]; simp)
        · cases hf
    · exact plain h
  · -- extract
    rename_i y ix ho
    split at h
    · rename_i cs hy
      cases hf : cs[ix]? with
      | none => rw [hf] at h; cases h
      | some z =>
        rw [hf] at h
        simp only [Option.some.injEq, Prod.mk.injEq] at h
        obtain ⟨rfl, rfl⟩ := h
        obtain ⟨h1, h2⟩ := hρ y _ hy
        simp only [bd] at h2
        have e : (Qam B cs).toArray[ix]? = some (den B z) := by
          have hl := (List.getElem?_eq_some_iff.1 hf).1
          have e := (List.getElem?_eq_some_iff.1 hf).2
          simp [QaI, hl, e]
        exact Qaw R (QaK.1 h2 z (List.mem_of_getElem? hf)) (by unfold execOp; simp only [ho, h1, den, Instr.extract, e, Sem.run_bind, Sem.run_pure, Result.andThen_ok])
    · exact plain h
  · -- pick
    rename_i c y z ho
    split at h
    · rename_i hc
      cases hy : ρ y with
      | none => rw [hy] at h; cases h
      | some v =>
        rw [hy] at h
        simp only [Option.some.injEq, Prod.mk.injEq] at h
        obtain ⟨rfl, rfl⟩ := h
        obtain ⟨h1, h2⟩ := hρ y _ hy
        have h3 := (hρ c _ hc).1
        exact Qaw R h2 (by unfold execOp; simp only [ho, h1, h3, den, asBool, Sem.run_bind, Sem.run_pure, Result.andThen_ok, if_true])
    · rename_i hc
      cases hy : ρ z with
      | none => rw [hy] at h; cases h
      | some v =>
        rw [hy] at h
        simp only [Option.some.injEq, Prod.mk.injEq] at h
        obtain ⟨rfl, rfl⟩ := h
        obtain ⟨h1, h2⟩ := hρ z _ hy
        have h3 := (hρ c _ hc).1
        exact Qaw R h2 (by unfold execOp; simp only [ho, h1, h3, den, asBool, Sem.run_bind, Sem.run_pure, Result.andThen_ok, Bool.false_eq_true, if_false])
    · cases h
  · -- nilCheck
    rename_i y ho
    split at h
    case h_6 => exact plain h
    all_goals
      rename_i hy
      simp only [Option.some.injEq, Prod.mk.injEq] at h
      obtain ⟨rfl, rfl⟩ := h
      obtain ⟨h1, h2⟩ := hρ y _ hy
      exact Qaw R h2 (by unfold execOp; simp only [ho, h1, den]; rfl)
  · -- slice
    rename_i t y lo hi mx ho
    split at h
    · rename_i i off l c hy
      cases hf : QkL P ρ t (.s i off l c) lo hi mx with
      | none => rw [hf] at h; cases h
      | some z =>
        rw [hf] at h
        simp only [Option.some.injEq, Prod.mk.injEq] at h
        obtain ⟨rfl, rfl⟩ := h
        obtain ⟨h1, h2⟩ := hρ y _ hy
        obtain ⟨h3, h4⟩ := QhL (w := w) hρ h2 hf
        exact Qaw R h4 (by unfold execOp; simp only [ho, h1, Sem.run_bind, h3, Result.andThen_ok, Sem.run_pure])
    · rename_i i off l c hy
      cases hf : QkL P ρ t (.r i off l c) lo hi mx with
      | none => rw [hf] at h; cases h
      | some z =>
        rw [hf] at h
        simp only [Option.some.injEq, Prod.mk.injEq] at h
        obtain ⟨rfl, rfl⟩ := h
        obtain ⟨h1, h2⟩ := hρ y _ hy
        obtain ⟨h3, h4⟩ := QhL (w := w) hρ h2 hf
        exact Qaw R h4 (by unfold execOp; simp only [ho, h1, Sem.run_bind, h3, Result.andThen_ok, Sem.run_pure])
    · rename_i i off q hy
      cases hf : QkL P ρ t (.z i off q) lo hi mx with
      | none => rw [hf] at h; cases h
      | some z =>
        rw [hf] at h
        simp only [Option.some.injEq, Prod.mk.injEq] at h
        obtain ⟨rfl, rfl⟩ := h
        obtain ⟨h1, h2⟩ := hρ y _ hy
        obtain ⟨h3, h4⟩ := QhL (w := w) hρ h2 hf
        exact Qaw R h4 (by unfold execOp; simp only [ho, h1, Sem.run_bind, h3, Result.andThen_ok, Sem.run_pure])
    · exact plain h
  · -- eql
    rename_i ty y z yt ho
    cases hy : ρ y with
    | none => rw [hy] at h; simp at h
    | some u =>
      cases hz : ρ z with
      | none => rw [hy, hz] at h; simp at h
      | some v =>
        rw [hy, hz] at h
        simp only at h
        cases hn : Qh8 P ty u v with
        | false =>
          rw [hn] at h
          simp only at h
          cases he : eqE P ρ o ty y z false with
          | none => rw [he] at h; cases h
          | some q =>
            rw [he] at h
            simp only [Option.some.injEq, Prod.mk.injEq] at h
            obtain ⟨rfl, rfl⟩ := h
            exact eqE_ok R hρ (ne := false) ho he
        | true =>
          rw [hn] at h
          simp only [Option.some.injEq, Prod.mk.injEq] at h
          obtain ⟨rfl, rfl⟩ := h
          have h1 := (hρ y _ hy).1
          have h2 := (hρ z _ hz).1
          have hr := Qhc hn B y z .eql (Or.inl rfl) w
          exact Qaw R (by simp [bd]) (by unfold execOp; rw [ho]; simp only [h1, h2]; rw [Sem.run_bind, hr]; rfl)
  · -- neq
    rename_i ty y z yt ho
    cases hy : ρ y with
    | none => rw [hy] at h; simp at h
    | some u =>
      cases hz : ρ z with
      | none => rw [hy, hz] at h; simp at h
      | some v =>
        rw [hy, hz] at h
        simp only at h
        cases hn : Qh8 P ty u v with
        | false =>
          rw [hn] at h
          simp only at h
          cases he : eqE P ρ o ty y z true with
          | none => rw [he] at h; cases h
          | some q =>
            rw [he] at h
            simp only [Option.some.injEq, Prod.mk.injEq] at h
            obtain ⟨rfl, rfl⟩ := h
            exact eqE_ok R hρ (ne := true) ho he
        | true =>
          rw [hn] at h
          simp only [Option.some.injEq, Prod.mk.injEq] at h
          obtain ⟨rfl, rfl⟩ := h
          have h1 := (hρ y _ hy).1
          have h2 := (hρ z _ hz).1
          have hr := Qhc hn B y z .neq (Or.inr rfl) w
          exact Qaw R (by simp [bd]) (by unfold execOp; rw [ho]; simp only [h1, h2]; rw [Sem.run_bind, hr]; rfl)
  · -- makeSlice
    rename_i t l c ho
    split at h
    · rename_i lv cv hl hc ht
      split at h
      · rename_i x y hx hy
        cases hk : mkE P t x y with
        | none => rw [hk] at h; cases h
        | some k =>
          rw [hk] at h
          simp only [Option.some.injEq, Prod.mk.injEq] at h
          obtain ⟨rfl, rfl⟩ := h
          obtain ⟨kl, h1⟩ := Qcz hx B
          obtain ⟨kc, h2⟩ := Qcz hy B
          obtain ⟨hr, hz, hb⟩ := mkE_run B hk kl kc w
          have e1 := (hρ l _ hl).1.trans h1
          have e2 := (hρ c _ hc).1.trans h2
          refine QiX R ht (hb _) (by simp [bd, ext]) hz hS (fun B' hB _ => ?_) (mkE_mp hk) (mkE_es hk)
          unfold execOp
          simp only [ho, e1, e2, Sem.run_bind, hr, Result.andThen_ok, Sem.run_pure, den, hB]
      · cases h
    · cases h
  · -- makeMap
    rename_i t ho
    exact mkmE_ok R hS ho h
  · -- insert
    rename_i t y k v ho
    exact insE_ok R hρ ho h
  · -- lookup
    rename_i t y k ok ho
    exact lkE_ok R hρ ho h
  · -- len
    rename_i y t ho
    have key : ∀ (ad : Option Addr) (l c : Nat) (e : TypeId), a.eval y = .slice ad l c → P.underlying t = some (.slice e) → (execOp a.eval o).run P w = .ok (.value (goInt l)) w := by
      intro ad l c e h1 hu
      unfold execOp
      simp only [ho, resolve, Sem.run_bind, Sem.run_pure, Result.andThen_ok, invoke, builtin, Builtin.len_, h1, List.map_toArray, List.map_cons, List.map_nil]
      simp [Sem.run_bind, run_underlying hu w, h1]
    split at h
    · rename_i i off l c e hy hu
      simp only [Option.some.injEq, Prod.mk.injEq] at h
      obtain ⟨rfl, rfl⟩ := h
      exact Qaw R (by simp [bd]) (by rw [key _ _ _ _ ((hρ y _ hy).1.trans (by simp only [den]; rfl)) hu]; simp [den])
    · rename_i i off l c e hy hu
      simp only [Option.some.injEq, Prod.mk.injEq] at h
      obtain ⟨rfl, rfl⟩ := h
      exact Qaw R (by simp [bd]) (by rw [key _ _ _ _ ((hρ y _ hy).1.trans (by simp only [den]; rfl)) hu]; simp [den])
    · rename_i i off q e hy hu
      simp only [Option.some.injEq, Prod.mk.injEq] at h
      obtain ⟨rfl, rfl⟩ := h
      exact Qaw R (by simp [bd]) (by rw [key _ _ _ _ ((hρ y _ hy).1.trans (by simp only [den]; rfl)) hu]; simp [den])
    · exact plain h
  · exact plain h
end
abbrev OxFn := Program → Rho → Option SV
def xLoad (ty : TypeId) (x : Operand) : OxFn := fun P ρ => match ρ x with
  | some (.a i off) => ldE P ty (FC.cs i) off
  | _ => none
def xField (t : TypeId) (x : Operand) (f : Nat) : OxFn := fun P ρ => match ρ x with
  | some (.a i off) => match SZ.fieldS P t f with
    | some q => some (.a i (off + q))
    | none => none
  | _ => none
def xIdx2 (i off : Nat) (q : Option Nat) : Option SV := match q with
  | some q => some (.a i (off + q))
  | none => none
def xIndex (t : TypeId) (x ix : Operand) : OxFn := fun P ρ => match ρ x, ρ ix with
  | some (.q i off l _), some iv => match Qgq iv with
    | some n => xIdx2 i off (idxE P t l n)
    | none => none
  | _, _ => none
def xNil (x : Operand) : OxFn := fun _ ρ => match ρ x with
  | some (.q i off l c) => some (.q i off l c)
  | some (.a i off) => some (.a i off)
  | _ => none
def xSlice (t : TypeId) (x : Operand) (lo hi mx : Option Operand) : OxFn := fun P ρ => match ρ x with
  | some (.q i off l c) => match P.underlying t, mx with
    | some (.slice elem), none => match QdM (hi.map ρ) l c, Qcc P elem with
      | some h, some size => match QdM (lo.map ρ) 0 h with
        | some b => some (.q i (match Nat.beq c b with
          | true => off
          | false => off + b * size) (h - b) (c - b))
        | none => none
      | _, _ => none
    | _, _ => none
  | _ => none
def arrE (P : Program) (t : TypeId) : Option (Nat × TypeId) := match P.underlying t with
  | some (.array n elem) => some (n, elem)
  | some (.pointer arr) => match P.underlying arr with
    | some (.array n elem) => some (n, elem)
    | _ => none
  | _ => none
def offE (m l off size : Nat) : Nat := match Nat.beq m l with
  | true => off
  | false => off + l * size
def xSlP (t : TypeId) (x : Operand) (lo hi mx : Option Operand) : OxFn := fun P ρ => match ρ x with
  | some (.p i off) => match arrE P t, mx with
    | some (n, elem), none => match QdM (hi.map ρ) n n, Qcc P elem with
      | some h, some size => match QdM (lo.map ρ) 0 h with
        | some b => some (.s i (offE n b off size) (h - b) (n - b))
        | none => none
      | _, _ => none
    | _, _ => none
  | _ => none
def xSl3 (t : TypeId) (x : Operand) (lo hi mx : Option Operand) : OxFn := fun P ρ => match P.underlying t, hi, mx with
  | some (.slice elem), some y, some z => match QdM (some (ρ z)) 0 (match ρ x with
      | some (.s _ _ _ c) => c
      | some (.r _ _ _ c) => c
      | _ => 0) with
    | some m => match QdM (some (ρ y)) 0 m, Qcc P elem with
      | some h, some size => match QdM (lo.map ρ) 0 h with
        | some b => match ρ x with
          | some (.s i off l c) => some (.s i (offE m b off size) (h - b) (m - b))
          | some (.r i off l c) => some (.s i (offE m b off size) (h - b) (m - b))
          | _ => none
        | none => none
      | _, _ => none
    | none => none
  | _, _, _ => none
def xCall (c : Call) : OxFn := fun P ρ => match c with
  | ⟨.builtin .len, ⟨[x]⟩, ⟨[t]⟩⟩ => match ρ x, P.underlying t with
    | some (.q _ _ l _), some (.slice _) => some (.y (goInt l))
    | _, _ => none
  | _ => none
def opXf (P : Program) (ρ : Rho) (o : Op) : Option SV :=
  match o with
  | .load ty x => xLoad ty x P ρ
  | .fieldAddr t x f => xField t x f P ρ
  | .indexAddr t x ix => xIndex t x ix P ρ
  | .nilCheck x => xNil x P ρ
  | .slice t x lo hi mx => match xSlice t x lo hi mx P ρ with
    | some y => some y
    | none => match xSlP t x lo hi mx P ρ with
      | some y => some y
      | none => xSl3 t x lo hi mx P ρ
  | .call c => xCall c P ρ
  | _ => none
def Qhu : List SV → Option (List Int)
  | [] => some []
  | .v (.int .u8 n) :: l => match Qhu l with
    | some r => some (n :: r)
    | none => none
  | .y (.int .u8 n) :: l => match Qhu l with
    | some r => some (n :: r)
    | none => none
  | _ => none
def byteS (ns : List Int) : ByteArray := ns.foldl (fun r n => r.push (UInt8.ofNat n.toNat)) ByteArray.empty
def cvB (P : Program) (src dst : TypeId) (ns : Option (List Int)) (l : Nat) : Option SV :=
  match P.underlying src, P.underlying dst with
  | some (.slice e), some .string => match P.underlying e, ns with
    | some (.int .u8), some ns => match Nat.beq ns.length l with
      | true => some (.v (.string (byteS ns)))
      | false => none
    | _, _ => none
  | _, _ => none
def Qjr (m : Mm) (i off l : Nat) : List SV := match m.K.get i with
  | some k => (k.cs.drop off).take l
  | none => []
def opXm (P : Program) (ρ : Rho) (m : Mm) (o : Op) : Option SV :=
  match o with
  | .convert src dst x => match ρ x with
    | some (.s i off l _) => cvB P src dst (Qhu (Qjr m i off l)) l
    | some (.r i off l _) => cvB P src dst (Qhu (Qjr m i off l)) l
    | some (.z _ _ _) => cvB P src dst (some []) 0
    | _ => none
  | _ => none
def Qca (s : ByteArray) : List SV := s.data.toList.map fun b => .v (.int .u8 b.toNat)
def opXs (P : Program) (ρ : Rho) (m : Mm) (o : Op) : Option (SV × Mm) :=
  match o with
  | .convert src dst x => match ρ x, P.underlying src, P.underlying dst, QaE m.nx with
    | some (.v (.string s)), some .string, some (.slice e), true => match P.underlying e, Nat.ble s.size 100000 with
      | some (.int .u8), true => some (.r m.nx 0 s.size s.size, m.new ⟨e, Qca s, 1, false, [.v (.int .u8 0)]⟩)
      | _, _ => none
    | _, _, _, _ => none
  | _ => none
def itB (s : ByteArray) (p : Nat) : Bx := ⟨0, [], 0, true, [.v (.string s), .v (.int .i64 (.ofNat p))]⟩
def nxI (m : Mm) (i : Nat) (s : ByteArray) (p : Nat) : Bool → Option (SV × Mm)
  | true => some (.v (.tuple #[.bool true, goInt p, .int .i32 (Utf8.decode s p).1]), m.upd i (itB s (p + (Utf8.decode s p).2)))
  | false => some (.v (.tuple #[.bool false]), m)
def opXi (P : Program) (ρ : Rho) (m : Mm) (o : Op) : Option (SV × Mm) :=
  match o with
  | .range t x => match ρ x, P.underlying t, QaE m.nx with
    | some (.v (.string s)), some .string, true => some (.p m.nx 0, m.new (itB s 0))
    | _, _, _ => none
  | .next x true => match ρ x with
    | some (.p i 0) => match m.K.get i, QaE i with
      | some k, true => match k.mp, itO k.es with
        | true, some (s, p) => nxI m i s p (Nat.blt p s.size)
        | _, _ => none
      | _, _ => none
    | _ => none
  | _ => none
def opX (P : Program) (ρ : Rho) (m : Mm) (o : Oper) : Option (SV × Mm) := match opXf P ρ o.op with
  | some x => some (x, m)
  | none => match opXm P ρ m o.op with
    | some x => some (x, m)
    | none => match opXs P ρ m o.op with
      | some r => some r
      | none => opXi P ρ m o.op
def opE (P : Program) (ρ : Rho) (m : Mm) (o : Oper) : Option (SV × Mm) := match opE0 P ρ m o with
  | some r => some r
  | none => opX P ρ m o
section
variable {P : Program} {w0 : World} {F : List RF} {B : Pl} {S : Nat → Prop} {m m' : Mm} {a : Act} {w : World} {ρ : Rho} {o : Oper} {x : SV}
theorem FcAt.cell (h : FcAt w) {i j : Nat} {x : SV} (hx : (FC.cs i)[j]? = some x) (B : Pl) : w.cell? ⟨FC.b i, FC.o i + j, none⟩ = some (den B x) ∧ bd S x := by
  obtain ⟨h1, h2⟩ := h.2 i j x hx
  refine ⟨?_, QbZ (fun _ h => h.elim) h2⟩
  rw [h1, Qf0 (S := fun _ => False) (B := B) (B' := fun _ => (0, 0)) (fun _ h => h.elim) h2]
theorem Re.fc (R : Re w0 F B m.K.get S w) : FcAt w := R.gr.2.grown R.gr.1
theorem FcAt.ld (hf : FcAt w) {ty : TypeId} {i off : Nat} {x : SV} (hx : ldE P ty (FC.cs i) off = some x) (B : Pl) :
    (loadVar ty ⟨FC.b i, FC.o i + off, none⟩).run P w = .ok (den B x) w ∧ bd S x := by
  have hb : bdL S (FC.cs i) := QaK.2 fun x hx => by
    obtain ⟨j, hj⟩ := List.getElem?_of_mem hx
    exact (hf.cell hj B).2
  unfold ldE at hx
  cases hu : P.underlying ty with
  | none => rw [hu] at hx; simp at hx
  | some d =>
    cases hi : (P.info? ty).map (·.size) with
    | none => rw [hu, hi] at hx; simp at hx
    | some n =>
      rw [hu, hi] at hx
      simp only at hx
      cases hd : d.isRow with
      | true =>
        rw [hd] at hx; simp only at hx
        cases hn : Nat.ble (off + n) (FC.cs i).length with
        | false => rw [hn] at hx; cases hx
        | true =>
          rw [hn] at hx
          simp only [Option.some.injEq] at hx
          subst hx
          have hn' : off + n ≤ (FC.cs i).length := by simpa using hn
          have hbt : bdL S (((FC.cs i).drop off).take n) := by
            simp only [QaK] at hb ⊢
            exact fun x hx => hb x (List.mem_of_mem_drop (List.mem_of_mem_take hx))
          refine ⟨?_, QdZ hbt⟩
          rw [Qde]
          refine run_loadVar_mid w (FC.b i) (FC.o i + off) ty _ d ?_ hu hd ?_
          · intro j x hj
            rw [QaI, List.getElem?_map] at hj
            cases hq : (((FC.cs i).drop off).take n)[j]? with
            | none => rw [hq] at hj; cases hj
            | some y =>
              rw [hq] at hj
              simp only [Option.map_some, Option.some.injEq] at hj
              subst hj
              rw [Nat.add_assoc]
              refine (hf.cell (S := S) ?_ B).1
              rw [List.getElem?_take] at hq
              split at hq
              · rw [List.getElem?_drop] at hq; exact hq
              · cases hq
          · rw [hi, Qae]; simp; omega
      | false =>
        rw [hd] at hx; simp only at hx
        have hagg : (isAgg ty).run P w = .ok false w := by
          unfold isAgg
          rw [Sem.run_bind, run_underlying hu w]
          cases d <;> simp_all
        refine ⟨?_, QaK.1 hb x (List.mem_of_getElem? hx)⟩
        unfold loadVar
        rw [Sem.run_bind, hagg]
        simp only [Result.andThen_ok, Bool.false_eq_true, if_false]
        simp only [load, Sem.run, (hf.cell (S := S) hx B).1]
theorem Qfv (B : Pl) : ∀ {l : List SV} {ns : List Int}, Qhu l = some ns → Qam B l = ns.map (Value.int .u8)
  | [], ns, h => by simp [Qhu] at h; subst h; simp [Qam]
  | x :: l, ns, h => by
    unfold Qhu at h
    split at h
    · rename_i e; cases e
    · rename_i n l' e
      simp only [List.cons.injEq] at e
      obtain ⟨rfl, rfl⟩ := e
      split at h
      · rename_i r hr
        simp only [Option.some.injEq] at h
        subst h
        simp [Qam, den, Qfv B hr]
      · cases h
    · rename_i n l' e
      simp only [List.cons.injEq] at e
      obtain ⟨rfl, rfl⟩ := e
      split at h
      · rename_i r hr
        simp only [Option.some.injEq] at h
        subst h
        simp [Qam, den, Qfv B hr]
      · cases h
    · cases h
theorem Qmb (R : Re w0 F B m.K.get S w) {src dst : TypeId} {ns : Option (List Int)} {l c b off : Nat} {y : Operand} (ho : o.op = .convert src dst y) (hy : a.eval y = .slice (some ⟨b, off, none⟩) l c)
    (hc : ∀ n, ns = some n → ∀ (j : Nat) (v : Value), (n.map (Value.int .u8))[j]? = some v → w.cell? ⟨b, off + j, none⟩ = some v) (hx : cvB P src dst ns l = some x) : Qea P w0 F B S m.nx o a w x m := by
  unfold cvB at hx
  split at hx
  · rename_i e hs hd
    split at hx
    · rename_i n he
      split at hx
      · rename_i hl
        simp only [Option.some.injEq] at hx
        subst hx
        have hl' := Nat.eq_of_beq_eq_true hl
        refine Qaw R (by simp [bd]) ?_
        have hld : (loadCells ⟨b, off, none⟩ l).run P w = .ok (n.map (Value.int .u8)).toArray w := by
          have := run_loadCells_list (P := P) w ⟨b, off, none⟩ (n.map (Value.int .u8)) (fun j v hv => by rw [Addr.add_mid]; exact hc n rfl j v hv)
          rw [List.length_map, hl'] at this
          exact this
        have hrun := run_bytesToString w ⟨b, off, none⟩ l c n hld
        unfold execOp
        simp only [ho, hy, Sem.run_bind, run_convert_bytes_string w src dst e _ l c hs he hd, hrun, Result.andThen_ok, Sem.run_pure, den]
        rfl
      · cases hx
    · cases hx
  · cases hx
theorem Qhp (R : Re w0 F B m.K.get S w) {i off l : Nat} {n : List Int} (h : Qhu (Qjr m i off l) = some n) (j : Nat) (v : Value) (hv : (n.map (Value.int .u8))[j]? = some v) : w.cell? ⟨(B i).1, off + j, none⟩ = some v := by
  have hd := Qfv B h
  rw [← hd] at hv
  unfold Qjr at hv
  cases hk : m.K.get i with
  | none => rw [hk] at hv; simp [Qam] at hv
  | some k =>
    rw [hk] at hv
    simp only [QaI, List.getElem?_map] at hv
    cases hq : ((k.cs.drop off).take l)[j]? with
    | none => rw [hq] at hv; cases hv
    | some y =>
      rw [hq] at hv
      simp only [Option.map_some, Option.some.injEq] at hv
      subst hv
      refine R.cell hk ?_
      rw [List.getElem?_take] at hq
      split at hq
      · rw [List.getElem?_drop] at hq; exact hq
      · cases hq
theorem Qgn (b off m l size : Nat) : (⟨b, offE m l off size, none⟩ : Addr) = if m = l then ⟨b, off, none⟩ else (⟨b, off, none⟩ : Addr).add (l * size) := by
  unfold offE
  by_cases h : m = l
  · subst h; rw [if_pos rfl]; simp [Nat.beq_refl]
  · rw [if_neg h, Qdn h]; simp [QbP]
theorem bndsP_ok (hρ : QbF B S a ρ) (w : World) {lo hi : Option Operand} {n hv lv : Nat} (hh : QdM (hi.map ρ) n n = some hv) (hl : QdM (lo.map ρ) 0 hv = some lv) :
    (Instr.sliceBounds false n n (lo.map a.eval) (hi.map a.eval) none).run P w = .ok (lv, hv, n) w := by
  unfold Instr.sliceBounds
  rcases Qcb (P := P) hρ w hi n n hv hh with ⟨e1, e1'⟩ | ⟨v1, e1, _, f1⟩
  · rcases Qcb (P := P) hρ w lo 0 hv lv hl with ⟨e2, e2'⟩ | ⟨v2, e2, _, f2⟩
    · rw [e1, e2, e1', e2']; rfl
    · rw [e1, e2]
      simp only [Sem.run_bind, Sem.run_pure, Result.andThen_ok]
      rw [← e1', f2 _ _ (Nat.le_refl _)]; rfl
  · rcases Qcb (P := P) hρ w lo 0 hv lv hl with ⟨e2, e2'⟩ | ⟨v2, e2, _, f2⟩
    · rw [e1, e2, e2']
      simp only [Sem.run_bind, Sem.run_pure, Result.andThen_ok, f1 _ _ (Nat.le_refl _)]
    · rw [e1, e2]
      simp only [Sem.run_bind, Sem.run_pure, Result.andThen_ok, f1 _ _ (Nat.le_refl _), f2 _ _ (Nat.le_refl _)]
theorem xSlP_ok (R : Re w0 F B m.K.get S w) (hρ : QbF B S a ρ) {t : TypeId} {y : Operand} {lo hi mx : Option Operand} (ho : o.op = .slice t y lo hi mx) (h : xSlP t y lo hi mx P ρ = some x) : Qea P w0 F B S m.nx o a w x m := by
  unfold xSlP at h
  split at h
  · rename_i i off hy
    split at h
    · rename_i n elem he
      split at h
      · rename_i hv size hh hs
        split at h
        · rename_i lv hl
          simp only [Option.some.injEq] at h
          subst h
          obtain ⟨h1, h2⟩ := hρ y _ hy
          have hbs := bndsP_ok (P := P) hρ w hh hl
          refine Qaw R (by simpa [bd] using h2) ?_
          unfold execOp
          unfold arrE at he
          split at he
          · rename_i n' e' hu
            simp only [Option.some.injEq, Prod.mk.injEq] at he
            obtain ⟨rfl, rfl⟩ := he
            simp only [ho, h1, den, Instr.sliceAt, Instr.sureAddr, Sem.run_bind, run_underlying hu w, Result.andThen_ok, Option.map_none, Sem.run_pure, hbs, Qa0 hs, Qgn]
          · rename_i arr hu
            split at he
            · rename_i n' e' hu2
              simp only [Option.some.injEq, Prod.mk.injEq] at he
              obtain ⟨rfl, rfl⟩ := he
              simp only [ho, h1, den, Instr.sliceAt, Instr.slice, asAddr, Sem.run_bind, run_underlying hu w, run_underlying hu2 w, Result.andThen_ok, Option.map_none, Sem.run_pure, hbs, Qa0 hs, Qgn]
            · cases he
          · cases he
        · cases h
      · cases h
    · cases h
  · cases h
theorem Qjt (hρ : QbF B S a ρ) (w : World) {lo : Option Operand} {y z : Operand} {l c c' m' hv lv : Nat} (hcc : c ≤ c') (hm : QdM (some (ρ z)) 0 c = some m') (hh : QdM (some (ρ y)) 0 m' = some hv) (hl : QdM (lo.map ρ) 0 hv = some lv) :
    (Instr.sliceBounds true l c' (lo.map a.eval) (some (a.eval y)) (some (a.eval z))).run P w = .ok (lv, hv, m') w := by
  unfold Instr.sliceBounds
  rcases Qcb (P := P) hρ w (some z) 0 c m' hm with ⟨e0, _⟩ | ⟨v0, e0, _, f0⟩
  · simp at e0
  rcases Qcb (P := P) hρ w (some y) 0 m' hv hh with ⟨e1, _⟩ | ⟨v1, e1, _, f1⟩
  · simp at e1
  simp only [Option.map_some, Option.some.injEq] at e0 e1
  rcases Qcb (P := P) hρ w lo 0 hv lv hl with ⟨e2, e2'⟩ | ⟨v2, e2, _, f2⟩
  · rw [e0, e1, e2, e2']
    simp only [Sem.run_bind, Sem.run_pure, Result.andThen_ok, f0 _ _ hcc, f1 _ _ (Nat.le_refl _)]
  · rw [e0, e1, e2]
    simp only [Sem.run_bind, Sem.run_pure, Result.andThen_ok, f0 _ _ hcc, f1 _ _ (Nat.le_refl _), f2 _ _ (Nat.le_refl _)]
theorem xSl3_ok (R : Re w0 F B m.K.get S w) (hρ : QbF B S a ρ) {t : TypeId} {y : Operand} {lo hi mx : Option Operand} (ho : o.op = .slice t y lo hi mx) (h : xSl3 t y lo hi mx P ρ = some x) : Qea P w0 F B S m.nx o a w x m := by
  unfold xSl3 at h
  split at h
  · rename_i elem y' z' hu
    split at h
    · rename_i m' hm
      split at h
      · rename_i hv size hh hs
        split at h
        · rename_i lv hl
          split at h
          · rename_i i off l c hy
            replace hm : QdM (some (ρ z')) 0 c = some m' := by rw [hy] at hm; exact hm
            simp only [Option.some.injEq] at h
            subst h
            obtain ⟨h1, h2⟩ := hρ y _ hy
            have hbs := Qjt (P := P) (l := l) hρ w (Nat.le_refl c) hm hh hl
            refine Qaw R (by simpa [bd] using h2) ?_
            unfold execOp
            simp only [ho, h1, den, Instr.sliceAt, Instr.slice, Sem.run_bind, run_underlying hu w, Result.andThen_ok, Option.map_some, Option.map_none, Sem.run_pure, hbs, Qa0 hs, Qgn]
            by_cases e : m' = lv <;> simp [e]
          · rename_i i off l c hy
            replace hm : QdM (some (ρ z')) 0 c = some m' := by rw [hy] at hm; exact hm
            simp only [Option.some.injEq] at h
            subst h
            obtain ⟨h1, h2⟩ := hρ y _ hy
            have hbs := Qjt (P := P) (l := l) hρ w (c' := (B i).2 + c) (by omega) hm hh hl
            refine Qaw R (by simpa [bd] using h2) ?_
            unfold execOp
            simp only [ho, h1, den, Instr.sliceAt, Instr.slice, Sem.run_bind, run_underlying hu w, Result.andThen_ok, Option.map_some, Option.map_none, Sem.run_pure, hbs, Qa0 hs, Qgn]
            by_cases e : m' = lv <;> simp [e]
          · cases h
        · cases h
      · cases h
    · cases h
  · cases h
theorem QeU (B : Pl) (s : ByteArray) : Qam B (Qca s) = s.data.toList.map fun b => Value.int .u8 b.toNat := by
  rw [QaI]
  unfold Qca
  rw [List.map_map]
  apply List.map_congr_left
  intro b _
  simp [den]
theorem QiH (S : Nat → Prop) (s : ByteArray) : bdL S (Qca s) := by
  refine QaK.2 fun x hx => ?_
  unfold Qca at hx
  obtain ⟨b, _, rfl⟩ := List.mem_map.1 hx
  simp [bd]
theorem QjO (hS : ∀ j, S j → j < m.nx) (R : Re w0 F B m.K.get S w) (hρ : QbF B S a ρ) (h : opXs P ρ m o.op = some (x, m')) : Qea P w0 F B S m.nx o a w x m' := by
  unfold opXs at h
  split at h
  · rename_i src dst y ho
    split at h
    · rename_i s e hy hs hd ht
      split at h
      · rename_i he hn
        simp only [Option.some.injEq, Prod.mk.injEq] at h
        obtain ⟨rfl, rfl⟩ := h
        have hn' : s.size ≤ 100000 := by simpa using hn
        have hml : (100000 : Nat) ≤ maxLen := by unfold maxLen; omega
        obtain ⟨e1, -⟩ := hρ _ _ hy
        simp only [den] at e1
        have hr := run_bytes_of_string (P := P) w src dst e s hs hd he
        have hge := grownCap_ge w s.size 0 e
        have hcm : grownCap w s.size 0 e ≤ maxLen := grownCap_le_maxLen w s.size 0 e (by omega)
        have hdr : Re w0 F B m.K.get S w.drew := R.below ⟨rfl, rfl, rfl, Nat.le_refl _, fun _ _ => rfl⟩
        have hsl : (Qca s).length = s.size := by unfold Qca; rw [List.length_map, Array.length_toList]; rfl
        obtain ⟨h1, h2⟩ := hdr.new ⟨e, Qca s, 1, false, [.v (.int .u8 0)]⟩ (List.replicate (grownCap w s.size 0 e - s.size) (.int .u8 0)) (grownCap w s.size 0 e - s.size) ⟨QiH S s, fun e => by cases e⟩ ⟨by simp, Or.inr (by
          simp only [hsl]; omega)⟩ hS
        have ha : (Qam B (Qca s) ++ List.replicate (grownCap w s.size 0 e - s.size) (Value.int .u8 0)).toArray = bytesRow s (grownCap w s.size 0 e) := by
          apply Array.ext'; simp [QeU, bytesRow]
        have hl : (Qam B (Qca s) ++ List.replicate (grownCap w s.size 0 e - s.size) (Value.int .u8 0)).length = (bytesRow s (grownCap w s.size 0 e)).size := by rw [← ha]; simp
        simp only [Qcd, fzOf, ha, hl] at h1
        refine ⟨_, _, _, (?_ : (execOp a.eval o).run P w = .ok (.value (.slice (some ⟨w.heap.size, 0, none⟩) s.size (grownCap w s.size 0 e))) (w.drew.alloc (.cells (bytesRow s (grownCap w s.size 0 e)) e ((bytesRow s (grownCap w s.size 0 e)).size, (bytesRow s (grownCap w s.size 0 e)).size + 1)))), Or.inl ?_, h2, by simp [Mm.new], ?_, by simp [bd, Mm.new, ext]⟩
        · unfold execOp
          simp only [ho, e1, Sem.run_bind, hr, Result.andThen_ok, Sem.run_pure]
        · simp only [den, QbQ, if_true]
          congr 2
          omega
        · unfold Mm.new
          simp only [Tr.get_set ht]
          exact h1
      · cases h
    · cases h
  · cases h
theorem objOf_it (B : Pl) (s : ByteArray) (p : Nat) (rest : List Value) : Qcd B (itB s p) rest = .stringIter s p := rfl
theorem itB_bd (S : Nat → Prop) (s : ByteArray) (p : Nat) : bdK S (itB s p) := ⟨by simp [itB, bdL], fun _ => ⟨rfl, rfl, by simp [itB, bdL, bd]⟩⟩
theorem QjP (hS : ∀ j, S j → j < m.nx) (R : Re w0 F B m.K.get S w) (hρ : QbF B S a ρ) (h : opXi P ρ m o.op = some (x, m')) : Qea P w0 F B S m.nx o a w x m' := by
  unfold opXi at h
  split at h
  · rename_i t y ho
    split at h
    · rename_i s hy hu ht
      simp only [Option.some.injEq, Prod.mk.injEq] at h
      obtain ⟨rfl, rfl⟩ := h
      obtain ⟨e1, -⟩ := hρ _ _ hy
      simp only [den] at e1
      obtain ⟨h1, h2⟩ := R.new (itB s 0) [] 0 (itB_bd S s 0) (by simp [Qe4, itB]) hS
      refine ⟨.value (.pointer (some ⟨w.heap.size, 0, none⟩)), w.alloc (.stringIter s 0), _, ?_, Or.inl (by simp [den, QbQ]), h2, by simp [Mm.new], ?_, by simp [bd, Mm.new, ext]⟩
      · unfold execOp
        simp only [ho, e1]
        unfold Instr.range
        simp only [Sem.run_bind, run_underlying hu w, Result.andThen_ok, Sem.run_pure]
        rfl
      · unfold Mm.new
        simp only [Tr.get_set ht]
        exact h1
    · cases h
  · rename_i y ho
    split at h
    · rename_i i hy
      split at h
      · rename_i k hk ht
        split at h
        · rename_i s p hmp hit
          obtain ⟨e1, hb⟩ := hρ _ _ hy
          simp only [den] at e1
          obtain ⟨_, hbk, rest, ⟨hr1, _⟩, hh⟩ := R.bx i k hk
          unfold Qcd at hh
          rw [hmp] at hh
          simp only [objM, hit] at hh
          have hg : (getObj (B i).1).run P w = .ok (.stringIter s p) w := by simp only [getObj, Sem.run, hh]
          have hlt := R.lt hk
          cases hp : Nat.blt p s.size with
          | false =>
            rw [hp] at h
            simp only [nxI, Option.some.injEq, Prod.mk.injEq] at h
            obtain ⟨rfl, rfl⟩ := h
            have hp' : ¬ p < s.size := fun hlt' => by
              have : Nat.blt p s.size = true := by rw [Nat.blt, Nat.ble_eq]; exact hlt'
              rw [hp] at this; cases this
            refine Qaw R (by simp [bd]) ?_
            unfold execOp
            simp only [ho, e1]
            unfold Instr.next
            simp only [Sem.run_bind, hg, Result.andThen_ok, if_neg hp', Sem.run_pure, den]
          | true =>
            rw [hp] at h
            simp only [nxI, Option.some.injEq, Prod.mk.injEq] at h
            obtain ⟨rfl, rfl⟩ := h
            have hp' : p < s.size := by rw [Nat.blt, Nat.ble_eq] at hp; exact hp
            have hso : (setObj (B i).1 (.stringIter s (p + (Utf8.decode s p).2))).run P w = .ok () { w with heap := w.heap.setIfInBounds (B i).1 (.stringIter s (p + (Utf8.decode s p).2)) } := by simp only [setObj, Sem.run, hh]
            refine ⟨.value (.tuple #[.bool true, goInt p, .int .i32 (Utf8.decode s p).1]), { w with heap := w.heap.setIfInBounds (B i).1 (.stringIter s (p + (Utf8.decode s p).2)) }, B, ?_, Or.inl (by simp [den]), Ag.refl _ _ _, Nat.le_refl _, ?_, by simp [bd]⟩
            · unfold execOp
              simp only [ho, e1]
              unfold Instr.next
              simp only [Sem.run_bind, hg, Result.andThen_ok, if_pos hp', hso, Sem.run_pure]
            · simp only [Mm.upd, Tr.get_set ht]
              rw [Qal]
              refine R.put hk (k' := itB s (p + (Utf8.decode s p).2)) (rest := []) ⟨rfl, rfl, rfl, by simp, fun j hj hne => ?_⟩ (itB_bd S s _) (by simp [Qe4, itB]) ?_
              · simp only [Array.getElem?_setIfInBounds]
                rw [if_neg (fun e => hne (by rw [e]))]
              · simp [Array.getElem?_setIfInBounds, hlt, objOf_it]
        · cases h
      · cases h
    · cases h
  · cases h
theorem Qll (hS : ∀ j, S j → j < m.nx) (R : Re w0 F B m.K.get S w) (hρ : QbF B S a ρ) (h : opX P ρ m o = some (x, m')) : Qea P w0 F B S m.nx o a w x m' := by
  unfold opX at h
  split at h
  · rename_i x0 hx
    simp only [Option.some.injEq, Prod.mk.injEq] at h
    obtain ⟨rfl, rfl⟩ := h
    unfold opXf at hx
    split at hx
    · -- load
      rename_i ty y ho
      unfold xLoad at hx
      split at hx
      · rename_i i off hy
        obtain ⟨h1, h2⟩ := hρ y _ hy
        obtain ⟨h3, h4⟩ := R.fc.ld (S := S) hx B
        exact Qaw R h4 (by unfold execOp; simp only [ho, h1, den, Instr.loadAt, Instr.sureAddr, Sem.run_bind, Sem.run_pure, Result.andThen_ok, h3])
      · cases hx
    · -- fieldAddr
      rename_i t y f ho
      unfold xField at hx
      split at hx
      · rename_i i off hy
        split at hx
        · rename_i q hf
          simp only [Option.some.injEq] at hx
          subst hx
          obtain ⟨h1, h2⟩ := hρ y _ hy
          exact Qaw R (by simp [bd]) (by unfold execOp; simp only [ho, h1, den, Sem.run_bind, SZ.fieldS_run hf, Result.andThen_ok, Sem.run_pure, Nat.add_assoc])
        · cases hx
      · cases hx
    · -- indexAddr
      rename_i t y ix ho
      unfold xIndex at hx
      split at hx
      · rename_i i off l c iv hy hi
        split at hx
        · rename_i n hn
          unfold xIdx2 at hx
          split at hx
          · rename_i q hq
            simp only [Option.some.injEq] at hx
            subst hx
            obtain ⟨he, _⟩ := hρ y _ hy
            obtain ⟨k, hk⟩ := Qcz hn B
            have h4 := (hρ ix _ hi).1.trans hk
            refine Qaw R (by simp [bd]) ?_
            unfold idxE at hq
            cases hu : P.underlying t with
            | none => rw [hu] at hq; cases hq
            | some d =>
              rw [hu] at hq
              cases d <;> (try (cases hq; done))
              rename_i elem
              simp only at hq
              cases hn : Nat.blt n l with
              | false => rw [hn] at hq; cases hq
              | true =>
                cases hs : Qcc P elem with
                | none => rw [hn, hs] at hq; cases hq
                | some size =>
                  rw [hn, hs] at hq
                  simp only [Option.some.injEq] at hq
                  subst hq
                  have hlt : n < l := by rw [Nat.blt, Nat.ble_eq] at hn; exact hn
                  unfold execOp
                  simp only [ho, he, h4, den, Instr.indexAt, asIntOf, Sem.run_bind, Sem.run_pure, Result.andThen_ok, run_underlying hu w]
                  rw [if_pos ⟨by simp, by simpa using hlt⟩]
                  simp only [Sem.run_bind, Qa0 hs, Result.andThen_ok, Sem.run_pure, den, QbP, Nat.add_assoc]
                  rfl
          · cases hx
        · cases hx
      · cases hx
    · -- nilCheck
      rename_i y ho
      unfold xNil at hx
      split at hx
      · rename_i hy
        simp only [Option.some.injEq] at hx
        subst hx
        obtain ⟨h1, h2⟩ := hρ y _ hy
        exact Qaw R h2 (by unfold execOp; simp only [ho, h1, den]; rfl)
      · rename_i hy
        simp only [Option.some.injEq] at hx
        subst hx
        obtain ⟨h1, h2⟩ := hρ y _ hy
        exact Qaw R h2 (by unfold execOp; simp only [ho, h1, den]; rfl)
      · cases hx
    · -- slice
      rename_i t y lo hi mx ho
      split at hx
      rotate_left
      · split at hx
        · rename_i y' hy'
          simp only [Option.some.injEq] at hx
          subst hx
          exact xSlP_ok R hρ ho hy'
        · exact xSl3_ok R hρ ho hx
      rename_i y' hx'
      simp only [Option.some.injEq] at hx
      subst hx
      revert hx'
      intro hx
      unfold xSlice at hx
      split at hx
      · rename_i i off l c hy
        split at hx
        · rename_i elem hu
          split at hx
          · rename_i hv size hh hs
            split at hx
            · rename_i lv hl
              simp only [Option.some.injEq] at hx
              subst hx
              obtain ⟨h1, h2⟩ := hρ y _ hy
              have hbs := QgI (P := P) hρ w (Nat.le_refl c) hh hl
              refine Qaw R (by simp [bd]) ?_
              unfold execOp
              simp only [ho, h1, den, Instr.sliceAt, Sem.run_bind, run_underlying hu w, Result.andThen_ok, Instr.slice, Option.map_none, Sem.run_pure, hbs, Qa0 hs]
              congr 3
              by_cases hc : c = lv
              · subst hc
                rw [if_pos rfl]
                simp [Nat.beq_refl]
              · rw [if_neg hc, Qdn hc]
                simp [QbP, Nat.add_assoc]
            · cases hx
          · cases hx
        · cases hx
      · cases hx
    · -- len
      rename_i c ho
      unfold xCall at hx
      split at hx
      · rename_i y t
        split at hx
        · rename_i i off l c e hy hu
          simp only [Option.some.injEq] at hx
          subst hx
          obtain ⟨h1, _⟩ := hρ y _ hy
          simp only [den] at h1
          refine Qaw R (by simp [bd]) ?_
          unfold execOp
          simp only [ho, resolve, Sem.run_bind, Sem.run_pure, Result.andThen_ok, invoke, builtin, Builtin.len_, h1, List.map_toArray, List.map_cons, List.map_nil]
          simp [Sem.run_bind, run_underlying hu w, h1, den]
        · cases hx
      · cases hx
    · cases hx
  · split at h
    · rename_i x0 hx
      simp only [Option.some.injEq, Prod.mk.injEq] at h
      obtain ⟨rfl, rfl⟩ := h
      unfold opXm at hx
      split at hx
      · rename_i src dst y ho
        split at hx
        · rename_i i off l c hy
          have h1 := (hρ y _ hy).1
          simp only [den] at h1
          exact Qmb R ho h1 (fun n hn j v hv => Qhp R hn j v hv) hx
        · rename_i i off l c hy
          have h1 := (hρ y _ hy).1
          simp only [den] at h1
          exact Qmb R ho h1 (fun n hn j v hv => Qhp R hn j v hv) hx
        · rename_i i off c hy
          have h1 := (hρ y _ hy).1
          simp only [den] at h1
          exact Qmb R ho h1 (fun n hn j v hv => by cases hn; simp at hv) hx
        · cases hx
      · cases hx
    · split at h
      · rename_i r hr
        simp only [Option.some.injEq] at h
        subst h
        exact QjO hS R hρ hr
      · exact QjP hS R hρ h
theorem QcJ (hS : ∀ j, S j → j < m.nx) (R : Re w0 F B m.K.get S w) (hρ : QbF B S a ρ) (h : opE P ρ m o = some (x, m')) : Qea P w0 F B S m.nx o a w x m' := by
  unfold opE at h
  split at h
  · rename_i r hr
    simp only [Option.some.injEq] at h
    subst h
    exact QjQ hS R hρ hr
  · exact Qll hS R hρ h
end
end Go.Proofs.Ytfhmdlihnidjoaa.EX
