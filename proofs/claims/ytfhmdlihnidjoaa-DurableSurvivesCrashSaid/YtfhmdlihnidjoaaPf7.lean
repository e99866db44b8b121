/-
  Merged: Ee, Ef, Eg, Eh, Ei, Ej, Ek, El, Em, En
-/
import Derived.Test.YtfhmdlihnidjoaaPf6
import Derived.Deep.Upon
import Derived.Lib.AppendStr
import Derived.Recover
import Derived.Scope
import Derived.Orders
namespace Go.Proofs.Ytfhmdlihnidjoaa.EX
set_option linter.unusedVariables false
set_option linter.unusedSimpArgs false
set_option linter.unusedSectionVars false
set_option maxRecDepth 100000
set_option maxHeartbeats 1000000
open Go Go.RowKit
variable [FC]
def Mm.move (m : Mm) (i : Nat) (k : Bx) : Mm := ⟨(m.K.set i none).set m.nx (some k), m.nx + 1, i :: m.lg⟩
def Mm.newR (m : Mm) (k : Bx) : Mm := ⟨m.K.set m.nx (some k), m.nx + 1, m.lg⟩
structure ApI where
  e : TypeId
  i : TypeInfo
  z : Value
def Qf3 (P : Program) (t t' : TypeId) : Option ApI :=
  match Nat.beq t t', P.underlying t with
  | true, some (.slice e) => match P.info? e with
    | some i => match i.zero with
      | some z => match Nat.beq z.cells.size i.size && Nat.blt 0 i.size && Nat.ble i.bytes 100000 with
        | true => some ⟨e, i, z⟩
        | false => none
      | none => none
    | none => none
  | _, _ => none
def apSrc (m : Mm) (size : Nat) (y : SV) : Option (Nat × List SV) :=
  match y with
  | .s j o l _ => match m.K.get j with
    | some k => match Nat.beq ((k.cs.drop o).take (l * size)).length (l * size) && Nat.blt 0 l && Nat.ble l 100000 && ((k.cs.drop o).take (l * size)).all QiW with
      | true => some (l, (k.cs.drop o).take (l * size))
      | false => none
    | none => none
  | .r j o l _ => match m.K.get j with
    | some k => match Nat.beq ((k.cs.drop o).take (l * size)).length (l * size) && Nat.blt 0 l && Nat.ble l 100000 && ((k.cs.drop o).take (l * size)).all QiW with
      | true => some (l, (k.cs.drop o).take (l * size))
      | false => none
    | none => none
  | .q j o l _ => match Nat.beq (((FC.cs j).drop o).take (l * size)).length (l * size) && Nat.blt 0 l && Nat.ble l 100000 && (((FC.cs j).drop o).take (l * size)).all QiW with
    | true => some (l, ((FC.cs j).drop o).take (l * size))
    | false => none
  | _ => none
def apG (P : Program) (ρ : Rho) (m : Mm) (o : Oper) : Option (SV × Mm) :=
  match o.op with
  | .call ⟨.builtin .append, ⟨[x, y]⟩, ⟨[t, t']⟩⟩ => match Qf3 P t t', ρ x, ρ y, QaE m.nx with
    | some I, some u, some v, true => match apSrc m I.i.size v with
      | some (n, news) => match u with
        | .v (.slice none 0 0) => some (.r m.nx 0 n n, m.newR ⟨I.e, news, I.i.size, false, []⟩)
        | .s i o l c => match m.K.get i with
          | some k => match Nat.blt c (l + n) && Nat.ble l 100000 && Nat.beq ((k.cs.drop o).take (l * I.i.size)).length (l * I.i.size) with
            | true => some (.r m.nx 0 (l + n) (l + n), m.newR ⟨I.e, (k.cs.drop o).take (l * I.i.size) ++ news, I.i.size, false, []⟩)
            | false => none
          | none => none
        | .r i 0 l x => match m.K.get i, QaE i with
          | some k, true => match Nat.beq l x && Nat.ble l 100000 && Nat.beq k.cs.length (l * I.i.size) && Nat.beq k.sz I.i.size && Nat.beq k.ty I.e && nilB k.es with
            | true => some (.r m.nx 0 (l + n) (l + n), m.move i ⟨I.e, k.cs ++ news, I.i.size, false, []⟩)
            | false => none
          | _, _ => none
        | _ => none
      | none => none
    | _, _, _, _ => none
  | _ => none
section
variable {P : Program} {w0 : World} {F : List RF} {B : Pl} {K : Nat → Option Bx} {nx : Nat} {S : Nat → Prop} {m m' : Mm} {a : Act} {w : World} {ρ : Rho} {o : Oper} {x : SV}
theorem Re.moved (R : Re w0 F B K S w) {i : Nat} {k k' : Bx} (hk : K i = some k) {w' : World} {c : Nat} {rest : List Value} (hg : w.grownBy w' (some (B i).1)) (hkb : bdK S k') (hr : Qe4 c k' rest) (hS : ∀ j, S j → j < nx)
    (hh : w'.heap[(B i).1]? = some (Qcd B k' rest)) :
    Re w0 F (QbQ B nx ((B i).1, c)) (QbW (QbW K i none) nx (some k')) (ext S nx (nx + 1)) w' ∧ Ag nx (nx + 1) B (QbQ B nx ((B i).1, c)) := by
  have hag' : Ag nx (nx + 1) B (QbQ B nx ((B i).1, c)) := fun j hj => by unfold QbQ; rw [if_neg (by omega)]
  have hag : ∀ j, S j → QbQ B nx ((B i).1, c) j = B j := hag'.on hS
  have hold : ∀ j k', K j = some k' → S j := fun j k' h => (R.bx j k' h).1
  have hne : ∀ j k', K j = some k' → j ≠ i → (B j).1 ≠ (B i).1 := fun j k' h hj he => hj (R.nd j i _ _ h hk he)
  refine ⟨⟨fun j kj h => ?_, fun p q kp kq hp hq he => ?_, fun j kj h => ?_, fun f hf => ?_, ?_⟩, hag'⟩
  · unfold QbW at h
    by_cases e : j = nx
    · subst e; simp at h; subst h
      refine ⟨Or.inr ⟨Nat.le_refl _, by omega⟩, Qce QbU hkb, rest, by simpa [QbQ] using hr, ?_⟩
      rw [QdX hag hkb]
      simpa [QbQ] using hh
    · rw [if_neg e] at h
      by_cases e2 : j = i
      · rw [if_pos e2] at h; cases h
      · rw [if_neg e2] at h
        obtain ⟨h1, h2, rest', h4, h3⟩ := R.bx j kj h
        refine ⟨Or.inl h1, Qce QbU h2, rest', by rw [hag j h1]; exact h4, ?_⟩
        rw [QdX hag h2, hag j h1, hg.block _ (R.lt h) (fun e => hne j _ h e2 (Option.some.inj e))]
        exact h3
  · have key : ∀ j kj, QbW (QbW K i none) nx (some k') j = some kj → (j = nx ∧ ((QbQ B nx ((B i).1, c)) j).1 = (B i).1) ∨ (j ≠ i ∧ ∃ kj, K j = some kj ∧ ((QbQ B nx ((B i).1, c)) j).1 = (B j).1) := fun j kj h => by
      unfold QbW at h
      by_cases e : j = nx
      · subst e; exact Or.inl ⟨rfl, by simp [QbQ]⟩
      · rw [if_neg e] at h
        by_cases e2 : j = i
        · rw [if_pos e2] at h; cases h
        · rw [if_neg e2] at h
          exact Or.inr ⟨e2, _, h, by rw [hag j (hold _ _ h)]⟩
    rcases key p kp hp with ⟨rfl, hp1⟩ | ⟨hp1, _, hp2, hp3⟩ <;> rcases key q kq hq with ⟨rfl, hq1⟩ | ⟨hq1, _, hq2, hq3⟩
    · rfl
    · rw [hp1, hq3] at he; exact absurd he.symm (hne _ _ hq2 hq1)
    · rw [hq1, hp3] at he; exact absurd he (hne _ _ hp2 hp1)
    · rw [hp3, hq3] at he; exact R.nd _ _ _ _ hp2 hq2 he
  · unfold QbW at h
    by_cases e : j = nx
    · subst e; simp only [QbQ, if_true]; exact R.lo i k hk
    · rw [if_neg e] at h
      by_cases e2 : j = i
      · rw [if_pos e2] at h; cases h
      · rw [if_neg e2] at h
        rw [hag j (hold _ _ h)]; exact R.lo j kj h
  · obtain ⟨h1, h2⟩ := R.fs f hf
    refine ⟨f.st w w' h1 (fun b hb => hg.block b (f.lt w h1 b hb) (fun e => h2 i k hk (Option.some.inj e ▸ hb))), fun j kj h => ?_⟩
    unfold QbW at h
    by_cases e : j = nx
    · subst e; simp only [QbQ, if_true]; exact h2 i k hk
    · rw [if_neg e] at h
      by_cases e2 : j = i
      · rw [if_pos e2] at h; cases h
      · rw [if_neg e2] at h
        rw [hag j (hold _ _ h)]; exact h2 j kj h
  · have g := R.gr.1
    refine ⟨⟨hg.os.trans g.os, hg.tape.trans g.tape, hg.output.trans g.output, Nat.le_trans g.size hg.size, fun b hb hne' => ?_⟩, R.gr.2⟩
    rw [hg.block b (Nat.lt_of_lt_of_le hb g.size) (fun e => by have := R.lo i k hk; have := Option.some.inj e; omega)]
    exact g.block b hb hne'
theorem Re.drop (R : Re w0 F B K S w) (i : Nat) : Re w0 F B (QbW K i none) S w := by
  have hs : ∀ j k, QbW K i none j = some k → K j = some k := fun j k h => by
    unfold QbW at h
    by_cases e : j = i
    · rw [if_pos e] at h; cases h
    · rw [if_neg e] at h; exact h
  exact ⟨fun j k h => R.bx j k (hs j k h), fun p q kp kq hp hq => R.nd p q kp kq (hs _ _ hp) (hs _ _ hq), fun j k h => R.lo j k (hs j k h), fun f hf => ⟨(R.fs f hf).1, fun j k h => (R.fs f hf).2 j k (hs j k h)⟩, R.gr⟩
theorem Qcf (R : Re w0 F B K S w) {i : Nat} {k : Bx} (h : K i = some k) (off n : Nat) : ∀ j u, (Qam B ((k.cs.drop off).take n))[j]? = some u → w.cell? ((⟨(B i).1, off, none⟩ : Addr).add j) = some u := by
  intro j u hj
  rw [QaI, List.getElem?_map] at hj
  cases hq : ((k.cs.drop off).take n)[j]? with
  | none => rw [hq] at hj; cases hj
  | some y =>
    rw [hq] at hj
    simp only [Option.map_some, Option.some.injEq] at hj
    subst hj
    rw [QbP]
    refine R.cell h ?_
    rw [List.getElem?_take] at hq
    split at hq
    · rw [List.getElem?_drop] at hq; exact hq
    · cases hq
theorem Qib (hf : FcAt w) {i : Nat} (off n : Nat) : ∀ j u, (Qam B (((FC.cs i).drop off).take n))[j]? = some u → w.cell? ((⟨FC.b i, FC.o i + off, none⟩ : Addr).add j) = some u := by
  intro j u hj
  rw [QaI, List.getElem?_map] at hj
  cases hq : (((FC.cs i).drop off).take n)[j]? with
  | none => rw [hq] at hj; cases hj
  | some y =>
    rw [hq] at hj
    simp only [Option.map_some, Option.some.injEq] at hj
    subst hj
    rw [QbP, Nat.add_assoc]
    refine (hf.cell (S := fun _ => True) ?_ B).1
    rw [List.getElem?_take] at hq
    split at hq
    · rw [List.getElem?_drop] at hq; exact hq
    · cases hq
theorem QjA (R : Re w0 F B m.K.get S w) {size : Nat} {y : SV} {n : Nat} {news : List SV} (h : apSrc m size y = some (n, news)) :
    ∃ ad c, den B y = .slice (some ad) n c ∧ (Qam B news).length = n * size ∧ (∀ j u, (Qam B news)[j]? = some u → w.cell? (ad.add j) = some u) ∧ (∀ u ∈ Qam B news, u.oneCell' = true) ∧ bdL S news ∧ 0 < n ∧ n ≤ 100000 := by
  have key : ∀ j off l k, m.K.get j = some k → (match Nat.beq ((k.cs.drop off).take (l * size)).length (l * size) && Nat.blt 0 l && Nat.ble l 100000 && ((k.cs.drop off).take (l * size)).all QiW with
      | true => some (l, (k.cs.drop off).take (l * size))
      | false => none) = some (n, news) → l = n ∧ (Qam B news).length = n * size ∧ (∀ q u, (Qam B news)[q]? = some u → w.cell? ((⟨(B j).1, off, none⟩ : Addr).add q) = some u) ∧ (∀ u ∈ Qam B news, u.oneCell' = true) ∧ bdL S news ∧ 0 < n ∧ n ≤ 100000 := by
    intro j off l k hk h
    cases hc : (Nat.beq ((k.cs.drop off).take (l * size)).length (l * size) && Nat.blt 0 l && Nat.ble l 100000 && ((k.cs.drop off).take (l * size)).all QiW) with
    | false => rw [hc] at h; cases h
    | true =>
      rw [hc] at h
      simp only [Option.some.injEq, Prod.mk.injEq] at h
      obtain ⟨rfl, rfl⟩ := h
      simp only [Bool.and_eq_true, List.all_eq_true] at hc
      obtain ⟨⟨⟨h1, h2⟩, h3⟩, h4⟩ := hc
      refine ⟨rfl, by rw [Qae]; exact Nat.eq_of_beq_eq_true h1, Qcf R hk off _, fun u hu => ?_, ?_, by rw [Nat.blt, Nat.ble_eq] at h2; exact h2, by simpa using h3⟩
      · rw [QaI] at hu
        obtain ⟨z, hz, rfl⟩ := List.mem_map.1 hu
        exact QeL B (h4 z hz)
      · exact QaK.2 fun x hx => QaK.1 (R.bx j k hk).2.1.1 x (List.mem_of_mem_drop (List.mem_of_mem_take hx))
  unfold apSrc at h
  split at h
  · rename_i j off l c
    cases hk : m.K.get j with
    | none => rw [hk] at h; cases h
    | some k =>
      rw [hk] at h
      obtain ⟨rfl, h1, h2, h3, h4, h5, h6⟩ := key j off l k hk h
      exact ⟨_, _, by simp only [den]; rfl, h1, h2, h3, h4, h5, h6⟩
  · rename_i j off l c
    cases hk : m.K.get j with
    | none => rw [hk] at h; cases h
    | some k =>
      rw [hk] at h
      obtain ⟨rfl, h1, h2, h3, h4, h5, h6⟩ := key j off l k hk h
      exact ⟨_, _, by simp only [den]; rfl, h1, h2, h3, h4, h5, h6⟩
  · rename_i j off l c
    cases hc : (Nat.beq (((FC.cs j).drop off).take (l * size)).length (l * size) && Nat.blt 0 l && Nat.ble l 100000 && (((FC.cs j).drop off).take (l * size)).all QiW) with
    | false => rw [hc] at h; cases h
    | true =>
      rw [hc] at h
      simp only [Option.some.injEq, Prod.mk.injEq] at h
      obtain ⟨rfl, rfl⟩ := h
      simp only [Bool.and_eq_true, List.all_eq_true] at hc
      obtain ⟨⟨⟨h1, h2⟩, h3⟩, h4⟩ := hc
      refine ⟨_, _, by simp only [den]; rfl, by rw [Qae]; exact Nat.eq_of_beq_eq_true h1, Qib R.fc off _, fun u hu => ?_, ?_, by rw [Nat.blt, Nat.ble_eq] at h2; exact h2, by simpa using h3⟩
      · rw [QaI] at hu
        obtain ⟨z, hz, rfl⟩ := List.mem_map.1 hu
        exact QeL B (h4 z hz)
      · refine QaK.2 fun x hx => ?_
        obtain ⟨q, hq⟩ := List.getElem?_of_mem (List.mem_of_mem_drop (List.mem_of_mem_take hx))
        exact (R.fc.cell hq B).2
  · cases h
theorem Qiw {x y : Operand} {t : TypeId} {v src r : Value} {w' : World} (ho : o.op = .call ⟨.builtin .append, ⟨[x, y]⟩, ⟨[t, t]⟩⟩) (hx : a.eval x = v) (hy : a.eval y = src)
    (hr : (Builtin.append_ #[t, t] o.type #[v, src]).run P w = .ok r w') : (execOp a.eval o).run P w = .ok (.value r) w' := by
  unfold execOp
  simp only [ho, resolve, invoke, builtin, Sem.run_bind, Sem.run_pure, Result.andThen_ok, List.map_toArray, List.map_cons, List.map_nil, hx, hy, hr]
theorem Ql4 (R : Re w0 F B K S w) : Re w0 F B K S w.drew := R.below ⟨rfl, rfl, rfl, Nat.le_refl _, fun _ _ => rfl⟩
theorem Qdo {t t' : TypeId} {I : ApI} (h : Qf3 P t t' = some I) : t = t' ∧ P.underlying t = some (.slice I.e) ∧ P.info? I.e = some I.i ∧ I.i.zero = some I.z ∧ I.z.cells.size = I.i.size ∧ 0 < I.i.size ∧ I.i.bytes ≤ 100000 := by
  unfold Qf3 at h
  cases hb : Nat.beq t t' with
  | false => rw [hb] at h; simp at h
  | true =>
    rw [hb] at h
    cases hu : P.underlying t with
    | none => rw [hu] at h; simp at h
    | some d =>
      rw [hu] at h
      cases d <;> (try (cases h; done))
      rename_i e
      simp only at h
      cases hi : P.info? e with
      | none => rw [hi] at h; cases h
      | some i =>
        rw [hi] at h
        simp only at h
        cases hz : i.zero with
        | none => rw [hz] at h; cases h
        | some z =>
          rw [hz] at h
          simp only at h
          cases hc : (Nat.beq z.cells.size i.size && Nat.blt 0 i.size && Nat.ble i.bytes 100000) with
          | false => rw [hc] at h; cases h
          | true =>
            rw [hc] at h
            simp only [Option.some.injEq] at h
            subst h
            simp only [Bool.and_eq_true] at hc
            obtain ⟨⟨h1, h2⟩, h3⟩ := hc
            exact ⟨Nat.eq_of_beq_eq_true hb, rfl, hi, hz, Nat.eq_of_beq_eq_true h1, by rw [Nat.blt, Nat.ble_eq] at h2; exact h2, by simpa using h3⟩
theorem Qdu {I : ApI} {cs : List SV} {need old : Nat} {olds : Array Value} (hS : ∀ j, S j → j < m.nx) (R : Re w0 F B m.K.get S w) (ht : QaE m.nx = true) (hz : I.z.cells.size = I.i.size) (hcs : bdL S cs) (hlen : cs.length = need * I.i.size) (hneed : need ≤ maxLen)
    (hds : olds.toList = Qam B cs)
    (h : (execOp a.eval o).run P w = .ok (.value (.slice (some ⟨w.heap.size, 0, none⟩) need (grownCap w need old I.e))) (w.drew.alloc (.cells (olds ++ Builtin.zeroCells I.z.cells (grownCap w need old I.e - need)) I.e))) :
    Qea P w0 F B S m.nx o a w (.r m.nx 0 need need) (m.newR ⟨I.e, cs, I.i.size, false, []⟩) := by
  have hge := grownCap_ge w need old I.e
  have hcm : grownCap w need old I.e ≤ maxLen := grownCap_le_maxLen w need old I.e hneed
  have hrl : (Builtin.zeroCells I.z.cells (grownCap w need old I.e - need)).toList.length = (grownCap w need old I.e - need) * I.i.size := by
    rw [Array.length_toList, size_zeroCells, hz]
  obtain ⟨h1, h2⟩ := (Ql4 R).new ⟨I.e, cs, I.i.size, false, []⟩ (Builtin.zeroCells I.z.cells (grownCap w need old I.e - need)).toList (grownCap w need old I.e - need) ⟨hcs, fun e => by cases e⟩ ⟨hrl, Or.inr (by
    simp only [hlen, ← Nat.add_mul]; exact Nat.mul_le_mul_right _ (by omega))⟩ hS
  have ha : (Qam B cs ++ (Builtin.zeroCells I.z.cells (grownCap w need old I.e - need)).toList).toArray = olds ++ Builtin.zeroCells I.z.cells (grownCap w need old I.e - need) := by
    apply Array.ext'; simp [hds]
  simp only [Qcd, fzOf, ha] at h1
  refine ⟨_, _, _, h, Or.inl ?_, h2, by simp [Mm.newR], ?_, by simp [bd, Mm.newR, ext]⟩
  · simp only [den, QbQ, if_true]
    congr 2
    omega
  · unfold Mm.newR
    simp only [Tr.get_set ht]
    exact h1
theorem Qmz (hS : ∀ j, S j → j < m.nx) (R : Re w0 F B m.K.get S w) (hρ : QbF B S a ρ) (h : apG P ρ m o = some (x, m')) : Qea P w0 F B S m.nx o a w x m' := by
  unfold apG at h
  split at h
  · rename_i x' y t t' ho
    split at h
    · rename_i I u v hI hx hy ht
      obtain ⟨rfl, hu, hi, hz, hzs, hsz, hby⟩ := Qdo hI
      obtain ⟨e1, b1⟩ := hρ _ _ hx
      obtain ⟨e2, b2⟩ := hρ _ _ hy
      split at h
      · rename_i n news hs
        obtain ⟨ad, c, hd, hl, hn, h1, hnb, hn0, hn1⟩ := QjA R hs
        rw [hd] at e2
        have hml : (100000 : Nat) + 100000 ≤ maxLen := by unfold maxLen; omega
        have hbytes : ∀ q, q ≤ 100000 → (q + n) * I.i.bytes ≤ 140737488355328 := fun q hq => Nat.le_trans (Nat.mul_le_mul (by omega : q + n ≤ 200000) hby) (by omega)
        split at h
        · simp only [Option.some.injEq, Prod.mk.injEq] at h
          obtain ⟨rfl, rfl⟩ := h
          have hb0 := hbytes 0 (by omega)
          rw [Nat.zero_add] at hb0
          have hr := run_append_nil (P := P) w t o.type I.e I.i I.z hu hi hz ad n c (Qam B news) hl hn hn0 (by omega) (by omega)
          refine Qdu hS (olds := (Qam B news).toArray) (old := 0) R ht hzs hnb (by rw [← Qae B]; exact hl) (by omega) (by simp) ?_
          exact Qiw ho (by rw [e1]; simp [den]) e2 hr
        · rename_i i off l c'
          cases hk : m.K.get i with
          | none => rw [hk] at h; cases h
          | some k =>
            rw [hk] at h
            simp only at h
            cases hc : (Nat.blt c' (l + n) && Nat.ble l 100000 && Nat.beq ((k.cs.drop off).take (l * I.i.size)).length (l * I.i.size)) with
            | false => rw [hc] at h; cases h
            | true =>
              rw [hc] at h
              simp only [Option.some.injEq, Prod.mk.injEq] at h
              obtain ⟨rfl, rfl⟩ := h
              simp only [Bool.and_eq_true] at hc
              obtain ⟨⟨c1, c2⟩, c3⟩ := hc
              have c1' : c' < l + n := by rw [Nat.blt, Nat.ble_eq] at c1; exact c1
              have c2' : l ≤ 100000 := by simpa using c2
              have c3' := Nat.eq_of_beq_eq_true c3
              have hob : bdL S ((k.cs.drop off).take (l * I.i.size)) := QaK.2 fun x hx => QaK.1 (R.bx i k hk).2.1.1 x (List.mem_of_mem_drop (List.mem_of_mem_take hx))
              have hr := run_append_grow (P := P) w t o.type I.e I.i I.z hu hi hz ⟨(B i).1, off, none⟩ l c' (Qam B ((k.cs.drop off).take (l * I.i.size))) (by rw [Qae]; exact c3') (Qcf R hk off _) ad n c (Qam B news) hl hn c1' (by omega) (growslice_fits c1' (hbytes l c2'))
              refine Qdu hS (old := c') R ht hzs (Qbi.2 ⟨hob, hnb⟩) (by rw [List.length_append, c3', ← Qae B news, hl, Nat.add_mul]) (by omega) (olds := (Qam B ((k.cs.drop off).take (l * I.i.size))).toArray ++ (Qam B news).toArray) (by simp [QaX]) ?_
              exact Qiw ho (by rw [e1]; simp [den]) e2 hr
        · rename_i i l x''
          split at h
          · rename_i k hk hti
            cases hc : (Nat.beq l x'' && Nat.ble l 100000 && Nat.beq k.cs.length (l * I.i.size) && Nat.beq k.sz I.i.size && Nat.beq k.ty I.e && nilB k.es) with
            | false => rw [hc] at h; cases h
            | true =>
              rw [hc] at h
              simp only [Option.some.injEq, Prod.mk.injEq] at h
              obtain ⟨rfl, rfl⟩ := h
              simp only [Bool.and_eq_true] at hc
              obtain ⟨⟨⟨⟨⟨c1, c2⟩, c3⟩, c4⟩, c5⟩, c6⟩ := hc
              have c1' := Nat.eq_of_beq_eq_true c1
              have c2' : l ≤ 100000 := by simpa using c2
              have c3' := Nat.eq_of_beq_eq_true c3
              have c4' := Nat.eq_of_beq_eq_true c4
              have c5' := Nat.eq_of_beq_eq_true c5
              subst c1'
              obtain ⟨hin, hkb, rest, ⟨hr1, hr2⟩, hh⟩ := R.bx i k hk
              have hmp : k.mp = false := by
                cases e : k.mp with
                | false => rfl
                | true => have := (hkb.2 e).2.1; omega
              rw [QdI hmp (Qlu c6)] at hh
              replace hkb := hkb.1
              have hlen : (k.cs ++ news).length = (l + n) * I.i.size := by rw [List.length_append, c3', ← Qae B news, hl, Nat.add_mul]
              by_cases hroom : n ≤ (B i).2
              · -- in place
                have hcsz : (Qam B k.cs ++ rest).toArray.size = ((B i).2 + l) * I.i.size := by
                  simp only [List.size_toArray, List.length_append, Qae, c3', hr1, c4', ← Nat.add_mul]
                  congr 1; omega
                have hr := run_append_room (P := P) w t o.type I.e I.i hu hi (B i).1 l ((B i).2 + l) (Qam B k.cs ++ rest).toArray (by rw [hh, c5']) ad n c (Qam B news) hl hn h1 (by omega) (by
                  rw [hcsz, hl, ← Nat.add_mul]; exact Nat.mul_le_mul_right _ (by omega))
                have hset : ((Qam B k.cs ++ rest).toArray.toList.take (l * I.i.size) ++ Qam B news ++ (Qam B k.cs ++ rest).toArray.toList.drop (l * I.i.size + (Qam B news).length)) = Qam B (k.cs ++ news) ++ rest.drop (n * I.i.size) := by
                  have hkl : (Qam B k.cs).length = l * I.i.size := by rw [Qae]; exact c3'
                  simp only [QaX]
                  rw [← hkl, List.take_left, hl]
                  congr 1
                  rw [← List.drop_drop, List.drop_left]
                rw [hset] at hr
                have hg : w.grownBy (w.setRow (B i).1 (Qam B (k.cs ++ news) ++ rest.drop (n * I.i.size)).toArray) (some (B i).1) :=
                  ⟨rfl, rfl, rfl, by simp, fun q _ hq => setRow_other w (B i).1 q _ (fun e => hq (by rw [e]))⟩
                obtain ⟨g1, g2⟩ := R.moved hk (k' := ⟨I.e, k.cs ++ news, I.i.size, false, []⟩) (c := (B i).2 - n) (rest := rest.drop (n * I.i.size)) hg ⟨Qbi.2 ⟨hkb, hnb⟩, fun e => by cases e⟩ ⟨by
                    rw [List.length_drop, hr1, c4', ← Nat.sub_mul], Or.inr (by
                    simp only [hlen, ← Nat.add_mul]
                    rcases hr2 with hr2 | hr2
                    · omega
                    · rw [c3', c4', ← Nat.add_mul] at hr2
                      have := Nat.le_of_mul_le_mul_right hr2 hsz
                      exact Nat.mul_le_mul_right _ (by omega))⟩ hS (by
                    have := setRow_heap w (B i).1 (Qam B k.cs ++ rest).toArray (Qam B (k.cs ++ news) ++ rest.drop (n * I.i.size)).toArray I.e (0, 0) (by rw [hh, c5'])
                    exact this)
                refine ⟨_, _, _, Qiw ho (by rw [e1]; simp only [den]) e2 hr, Or.inl ?_, g2, by simp [Mm.move], ?_, by simp [bd, Mm.move, ext]⟩
                · simp only [den, QbQ, if_true]
                  congr 2
                  omega
                · unfold Mm.move
                  simp only [Tr.get_set ht, Tr.get_set hti]
                  exact g1
              · -- grown
                have hr := run_append_grow (P := P) w t o.type I.e I.i I.z hu hi hz ⟨(B i).1, 0, none⟩ l ((B i).2 + l) (Qam B k.cs) (by rw [Qae]; exact c3') (by
                  have := Qcf R hk 0 k.cs.length
                  simpa using this) ad n c (Qam B news) hl hn (by omega) (by omega) (growslice_fits (by omega) (hbytes l c2'))
                have hok := Qdu hS (old := (B i).2 + l) R ht hzs (Qbi.2 ⟨hkb, hnb⟩) hlen (by omega) (olds := (Qam B k.cs).toArray ++ (Qam B news).toArray) (by simp [QaX]) (Qiw ho (by rw [e1]; simp only [den]) e2 hr)
                obtain ⟨r, w', B', q1, q2, q3, q4, q5, q6⟩ := hok
                refine ⟨r, w', B', q1, q2, q3, by simp [Mm.move], ?_, by simp [bd, Mm.move, ext]⟩
                have q7 := q5.drop i
                unfold Mm.newR at q7
                unfold Mm.move
                simp only [Tr.get_set ht, Tr.get_set hti] at q7 ⊢
                have e : QbW (QbW m.K.get m.nx (some ⟨I.e, k.cs ++ news, I.i.size, false, []⟩)) i none = QbW (QbW m.K.get i none) m.nx (some ⟨I.e, k.cs ++ news, I.i.size, false, []⟩) := by
                  funext q
                  unfold QbW
                  by_cases a1 : q = i
                  · have a2 : q ≠ m.nx := by have := hS i hin; omega
                    simp [a1, a2]; omega
                  · simp [a1]
                rw [e] at q7
                exact q7
          · cases h
        · cases h
      · cases h
    · cases h
  · cases h
end
def Fm (m m' : Mm) : Prop := m.nx ≤ m'.nx ∧ ∃ l, m'.lg = l ++ m.lg ∧ (∀ j, j < m.nx ∨ m'.nx ≤ j → j ∉ l → m'.K.get j = m.K.get j) ∧ ∀ j ∈ l, (∃ k, m.K.get j = some k) ∨ (m.nx ≤ j ∧ j < m'.nx)
theorem Fm.refl (m : Mm) : Fm m m := ⟨Nat.le_refl _, [], rfl, fun _ _ _ => rfl, fun j hj => by cases hj⟩
theorem Fm.trans {a b c : Mm} (h : Fm a b) (k : Fm b c) : Fm a c := by
  obtain ⟨h1, l, h2, h3, h4⟩ := h
  obtain ⟨k1, l', k2, k3, k4⟩ := k
  refine ⟨Nat.le_trans h1 k1, l' ++ l, by rw [k2, h2, List.append_assoc], fun j hj hn => ?_, fun j hj => ?_⟩
  · simp only [List.mem_append, not_or] at hn
    exact (k3 j (by omega) hn.1).trans (h3 j (by omega) hn.2)
  · have old : j ∈ l → (∃ k, a.K.get j = some k) ∨ (a.nx ≤ j ∧ j < c.nx) := fun hl => (h4 j hl).imp id (fun h => ⟨h.1, by omega⟩)
    by_cases hl : j ∈ l
    · exact old hl
    · rcases List.mem_append.1 hj with h | h
      · rcases k4 j h with ⟨q, hq⟩ | hq
        · by_cases hr : j < a.nx ∨ b.nx ≤ j
          · exact Or.inl ⟨q, by rw [← h3 j hr hl]; exact hq⟩
          · exact Or.inr (by omega)
        · exact Or.inr (by omega)
      · exact old h
theorem Fm.new {m : Mm} (h : QaE m.nx = true) (k : Bx) : Fm m (m.new k) :=
  ⟨by simp [Mm.new], [], rfl, fun j hj _ => by simp only [Mm.new, Tr.get_set h, QbW] at hj ⊢; rw [if_neg (by omega)], fun j hj => by cases hj⟩
theorem Fm.newR {m : Mm} (h : QaE m.nx = true) (k : Bx) : Fm m (m.newR k) :=
  ⟨by simp [Mm.newR], [], rfl, fun j hj _ => by simp only [Mm.newR, Tr.get_set h, QbW] at hj ⊢; rw [if_neg (by omega)], fun j hj => by cases hj⟩
theorem Fm.upd {m : Mm} {i : Nat} {q : Bx} (h : QaE i = true) (hq : m.K.get i = some q) (k : Bx) : Fm m (m.upd i k) :=
  ⟨by simp [Mm.upd], [i], rfl, fun j hj hn => by simp only [Mm.upd, Tr.get_set h, QbW]; rw [if_neg (by simpa using hn)], fun j hj => by simp at hj; subst hj; exact Or.inl ⟨q, hq⟩⟩
theorem Fm.move {m : Mm} {i : Nat} {q : Bx} (h : QaE i = true) (h' : QaE m.nx = true) (hq : m.K.get i = some q) (k : Bx) : Fm m (m.move i k) :=
  ⟨by simp [Mm.move], [i], rfl, fun j hj hn => by simp only [Mm.move, Tr.get_set h, Tr.get_set h', QbW] at hj ⊢; rw [if_neg (by omega), if_neg (by simpa using hn)], fun j hj => by simp at hj; subst hj; exact Or.inl ⟨q, hq⟩⟩
section
variable {P : Program} {ρ : Rho} {m m' : Mm}
include P ρ m m'
theorem opE0_fm {o : Oper} {x : SV} (h : opE0 P ρ m o = some (x, m')) : Fm m m' := by
  unfold opE0 mkmE insE lkE at h
  repeat' (split at h)
  all_goals first
    | (cases h; done)
    | (simp only [Option.some.injEq, Prod.mk.injEq] at h; obtain ⟨_, rfl⟩ := h; first | exact Fm.refl _ | exact Fm.new ‹_› _ | exact Fm.upd ‹QaE _ = true› ‹_› _)
theorem opXs_fm {o : Op} {x : SV} (h : opXs P ρ m o = some (x, m')) : Fm m m' := by
  unfold opXs at h
  repeat' (split at h)
  all_goals first
    | (cases h; done)
    | (simp only [Option.some.injEq, Prod.mk.injEq] at h; obtain ⟨_, rfl⟩ := h; exact Fm.new ‹_› _)
theorem opXi_fm {o : Op} {x : SV} (h : opXi P ρ m o = some (x, m')) : Fm m m' := by
  unfold opXi nxI at h
  repeat' (split at h)
  all_goals first
    | (cases h; done)
    | (simp only [Option.some.injEq, Prod.mk.injEq] at h; obtain ⟨_, rfl⟩ := h; first | exact Fm.refl _ | exact Fm.new ‹_› _ | exact Fm.upd ‹QaE _ = true› ‹_› _)
theorem QfO {o : Oper} {x : SV} (h : opE P ρ m o = some (x, m')) : Fm m m' := by
  unfold opE at h
  split at h
  · rename_i r hr
    simp only [Option.some.injEq] at h
    subst h
    exact opE0_fm hr
  · unfold opX at h
    split at h
    · simp only [Option.some.injEq, Prod.mk.injEq] at h
      obtain ⟨_, rfl⟩ := h
      exact Fm.refl _
    · split at h
      · simp only [Option.some.injEq, Prod.mk.injEq] at h
        obtain ⟨_, rfl⟩ := h
        exact Fm.refl _
      · split at h
        · rename_i r hr
          simp only [Option.some.injEq] at h
          subst h
          exact opXs_fm hr
        · exact opXi_fm h
theorem apG_fm {o : Oper} {x : SV} (h : apG P ρ m o = some (x, m')) : Fm m m' := by
  unfold apG at h
  repeat' (split at h)
  all_goals first
    | (cases h; done)
    | (simp only [Option.some.injEq, Prod.mk.injEq] at h; obtain ⟨_, rfl⟩ := h; first | exact Fm.newR ‹_› _ | exact Fm.move ‹QaE _ = true› ‹QaE m.nx = true› ‹_› _)
end
def ap0 (P : Program) (ρ : Rho) (o : Oper) : Option SV :=
  match o.op with
  | .call ⟨.builtin .append, ⟨[x, y]⟩, ⟨[t, t']⟩⟩ => match Qf3 P t t', ρ x, ρ y with
    | some I, some (.s i off l c), some (.v (.slice none 0 c')) => match Nat.ble l c with
      | true => some (.s i off l c)
      | false => none
    | some I, some (.v (.slice none 0 0)), some (.v (.slice none 0 c')) => some (.v (.slice none 0 0))
    | _, _, _ => none
  | _ => none
def isStr (P : Program) (t : TypeId) : Bool := match P.underlying t with
  | some .string => true
  | _ => false
def apT (P : Program) (ρ : Rho) (m : Mm) (o : Oper) : Option (SV × Mm) :=
  match o.op with
  | .call ⟨.builtin .append, ⟨[x, y]⟩, ⟨[t, t']⟩⟩ => match Qf3 P t t, isStr P t', ρ x, ρ y, QaE m.nx with
    | some I, true, some u, some (.v (.string s)), true => match Nat.beq I.i.size 1 && Nat.blt 0 s.size && Nat.ble s.size 100000 with
      | true => match u with
        | .v (.slice none 0 0) => some (.r m.nx 0 s.size s.size, m.newR ⟨I.e, Qca s, I.i.size, false, []⟩)
        | .s i o l c => match m.K.get i with
          | some k => match Nat.blt c (l + s.size) && Nat.ble l 100000 && Nat.beq ((k.cs.drop o).take (l * I.i.size)).length (l * I.i.size) with
            | true => some (.r m.nx 0 (l + s.size) (l + s.size), m.newR ⟨I.e, (k.cs.drop o).take (l * I.i.size) ++ Qca s, I.i.size, false, []⟩)
            | false => none
          | none => none
        | .r i 0 l x => match m.K.get i, QaE i with
          | some k, true => match Nat.beq l x && Nat.ble l 100000 && Nat.beq k.cs.length (l * I.i.size) && Nat.beq k.sz I.i.size && Nat.beq k.ty I.e && nilB k.es with
            | true => some (.r m.nx 0 (l + s.size) (l + s.size), m.move i ⟨I.e, k.cs ++ Qca s, I.i.size, false, []⟩)
            | false => none
          | _, _ => none
        | _ => none
      | false => none
    | _, _, _, _, _ => none
  | _ => none
theorem QdG (B : Pl) (s : ByteArray) : Qam B (Qca s) = Lib.strCells s := by
  rw [QeU]; rfl
theorem QkG (s : ByteArray) : (Qca s).length = s.size := by
  unfold Qca; rw [List.length_map, Array.length_toList]; rfl
theorem isStr_ok {P : Program} {t : TypeId} (h : isStr P t = true) : P.underlying t = some .string := by
  unfold isStr at h
  split at h
  · assumption
  · cases h
section
variable {P : Program} {w0 : World} {F : List RF} {B : Pl} {K : Nat → Option Bx} {nx : Nat} {S : Nat → Prop} {m m' : Mm} {a : Act} {w : World} {ρ : Rho} {o : Oper} {x : SV}
theorem Qjz {x y : Operand} {t t' : TypeId} {v src r : Value} {w' : World} (ho : o.op = .call ⟨.builtin .append, ⟨[x, y]⟩, ⟨[t, t']⟩⟩) (hx : a.eval x = v) (hy : a.eval y = src)
    (hr : (Builtin.append_ #[t, t'] o.type #[v, src]).run P w = .ok r w') : (execOp a.eval o).run P w = .ok (.value r) w' := by
  unfold execOp
  simp only [ho, resolve, invoke, builtin, Sem.run_bind, Sem.run_pure, Result.andThen_ok, List.map_toArray, List.map_cons, List.map_nil, hx, hy, hr]
theorem Qmx (hS : ∀ j, S j → j < m.nx) (R : Re w0 F B m.K.get S w) (hρ : QbF B S a ρ) (h : apT P ρ m o = some (x, m')) : Qea P w0 F B S m.nx o a w x m' := by
  unfold apT at h
  split at h
  · rename_i x' y t t' ho
    split at h
    · rename_i I u s hI hst hx hy ht
      obtain ⟨-, hu, hi, hz, hzs, hsz, hby⟩ := Qdo hI
      have hus := isStr_ok hst
      obtain ⟨e1, b1⟩ := hρ _ _ hx
      obtain ⟨e2, b2⟩ := hρ _ _ hy
      simp only [den] at e2
      split at h
      · rename_i hcc
        simp only [Bool.and_eq_true] at hcc
        obtain ⟨⟨g1, g2⟩, g3⟩ := hcc
        have hs1 := Nat.eq_of_beq_eq_true g1
        have hn0 : 0 < s.size := by rw [Nat.blt, Nat.ble_eq] at g2; exact g2
        have hn1 : s.size ≤ 100000 := by simpa using g3
        have hml : (100000 : Nat) + 100000 ≤ maxLen := by unfold maxLen; omega
        have hbytes : ∀ q, q ≤ 100000 → (q + s.size) * I.i.bytes ≤ 140737488355328 := fun q hq => Nat.le_trans (Nat.mul_le_mul (by omega : q + s.size ≤ 200000) hby) (by omega)
        have hnl : (Qca s).length = s.size := QkG s
        have hnb : bdL S (Qca s) := QiH S s
        split at h
        · simp only [Option.some.injEq, Prod.mk.injEq] at h
          obtain ⟨rfl, rfl⟩ := h
          have hb0 := hbytes 0 (by omega)
          rw [Nat.zero_add] at hb0
          have hr := run_append_nil_string (P := P) w t t' o.type I.e I.i I.z hu hus hi hz s hn0 (by omega) (by omega)
          refine Qdu hS (olds := s.data.map (fun b => Value.int .u8 b.toNat)) (old := 0) R ht hzs hnb (by rw [hnl, hs1, Nat.mul_one]) (by omega) (by rw [QeU]; simp) ?_
          exact Qjz ho (by rw [e1]; simp [den]) e2 hr
        · rename_i i off l c'
          cases hk : m.K.get i with
          | none => rw [hk] at h; cases h
          | some k =>
            rw [hk] at h
            simp only at h
            cases hc : (Nat.blt c' (l + s.size) && Nat.ble l 100000 && Nat.beq ((k.cs.drop off).take (l * I.i.size)).length (l * I.i.size)) with
            | false => rw [hc] at h; cases h
            | true =>
              rw [hc] at h
              simp only [Option.some.injEq, Prod.mk.injEq] at h
              obtain ⟨rfl, rfl⟩ := h
              simp only [Bool.and_eq_true] at hc
              obtain ⟨⟨c1, c2⟩, c3⟩ := hc
              have c1' : c' < l + s.size := by rw [Nat.blt, Nat.ble_eq] at c1; exact c1
              have c2' : l ≤ 100000 := by simpa using c2
              have c3' := Nat.eq_of_beq_eq_true c3
              have hob : bdL S ((k.cs.drop off).take (l * I.i.size)) := QaK.2 fun x hx => QaK.1 (R.bx i k hk).2.1.1 x (List.mem_of_mem_drop (List.mem_of_mem_take hx))
              have hr := Lib.run_append_grow_string (P := P) w t t' o.type I.e I.i I.z hu hus hi hz ⟨(B i).1, off, none⟩ l c' (Qam B ((k.cs.drop off).take (l * I.i.size))) (by rw [Qae]; exact c3') (Qcf R hk off _) s c1' (by omega) (growslice_fits c1' (hbytes l c2'))
              refine Qdu hS (old := c') R ht hzs (Qbi.2 ⟨hob, hnb⟩) (by rw [List.length_append, c3', hnl, hs1]; omega) (by omega) (olds := (Qam B ((k.cs.drop off).take (l * I.i.size))).toArray ++ (Lib.strCells s).toArray) (by simp [QaX, QdG]) ?_
              exact Qjz ho (by rw [e1]; simp [den]) e2 hr
        · rename_i i l x''
          split at h
          · rename_i k hk hti
            cases hc : (Nat.beq l x'' && Nat.ble l 100000 && Nat.beq k.cs.length (l * I.i.size) && Nat.beq k.sz I.i.size && Nat.beq k.ty I.e && nilB k.es) with
            | false => rw [hc] at h; cases h
            | true =>
              rw [hc] at h
              simp only [Option.some.injEq, Prod.mk.injEq] at h
              obtain ⟨rfl, rfl⟩ := h
              simp only [Bool.and_eq_true] at hc
              obtain ⟨⟨⟨⟨⟨c1, c2⟩, c3⟩, c4⟩, c5⟩, c6⟩ := hc
              have c1' := Nat.eq_of_beq_eq_true c1
              have c2' : l ≤ 100000 := by simpa using c2
              have c3' := Nat.eq_of_beq_eq_true c3
              have c4' := Nat.eq_of_beq_eq_true c4
              have c5' := Nat.eq_of_beq_eq_true c5
              subst c1'
              rw [hs1, Nat.mul_one] at c3'
              rw [hs1] at c4'
              obtain ⟨hin, hkb, rest, ⟨hr1, hr2⟩, hh⟩ := R.bx i k hk
              have hmp : k.mp = false := by
                cases e : k.mp with
                | false => rfl
                | true => have := (hkb.2 e).2.1; omega
              rw [QdI hmp (Qlu c6)] at hh
              replace hkb := hkb.1
              rw [c4', Nat.mul_one] at hr1
              have hr2' : (B i).2 + l ≤ maxLen := by
                rcases hr2 with hr2 | hr2
                · omega
                · rw [c3', c4', Nat.mul_one, Nat.mul_one] at hr2; exact hr2
              have hlen : (k.cs ++ Qca s).length = (l + s.size) * I.i.size := by rw [List.length_append, c3', hnl, hs1, Nat.mul_one]
              have hkl : (Qam B k.cs).length = l := by rw [Qae]; exact c3'
              by_cases hroom : s.size ≤ (B i).2
              · -- in place
                have hcsz : (Qam B k.cs ++ rest).toArray.size = (B i).2 + l := by
                  simp only [List.size_toArray, List.length_append, hkl, hr1]; omega
                have hr := Lib.run_append_room_string (P := P) w t t' o.type I.e I.i hu hus hi hs1 (B i).1 l ((B i).2 + l) (Qam B k.cs ++ rest).toArray (by rw [hh, c5']) s (by omega) (by
                  rw [hcsz]; omega)
                have hset : ((Qam B k.cs ++ rest).toArray.toList.take l ++ Lib.strCells s ++ (Qam B k.cs ++ rest).toArray.toList.drop (l + s.size)) = Qam B (k.cs ++ Qca s) ++ rest.drop s.size := by
                  simp only [QaX, QdG]
                  rw [← hkl, List.take_left]
                  congr 1
                  rw [← List.drop_drop, List.drop_left]
                rw [hset] at hr
                have hg : w.grownBy (w.setRow (B i).1 (Qam B (k.cs ++ Qca s) ++ rest.drop s.size).toArray) (some (B i).1) :=
                  ⟨rfl, rfl, rfl, by simp, fun q _ hq => setRow_other w (B i).1 q _ (fun e => hq (by rw [e]))⟩
                obtain ⟨g1, g2⟩ := R.moved hk (k' := ⟨I.e, k.cs ++ Qca s, I.i.size, false, []⟩) (c := (B i).2 - s.size) (rest := rest.drop s.size) hg ⟨Qbi.2 ⟨hkb, hnb⟩, fun e => by cases e⟩ ⟨by
                    rw [List.length_drop, hr1, hs1, Nat.mul_one], Or.inr (by
                    simp only [hlen, ← Nat.add_mul]
                    exact Nat.mul_le_mul_right _ (by omega))⟩ hS (by
                    have := setRow_heap w (B i).1 (Qam B k.cs ++ rest).toArray (Qam B (k.cs ++ Qca s) ++ rest.drop s.size).toArray I.e (0, 0) (by rw [hh, c5'])
                    exact this)
                refine ⟨_, _, _, Qjz ho (by rw [e1]; simp only [den]) e2 hr, Or.inl ?_, g2, by simp [Mm.move], ?_, by simp [bd, Mm.move, ext]⟩
                · simp only [den, QbQ, if_true]
                  congr 2
                  omega
                · unfold Mm.move
                  simp only [Tr.get_set ht, Tr.get_set hti]
                  exact g1
              · -- grown
                have hr := Lib.run_append_grow_string (P := P) w t t' o.type I.e I.i I.z hu hus hi hz ⟨(B i).1, 0, none⟩ l ((B i).2 + l) (Qam B k.cs) (by rw [hkl, hs1, Nat.mul_one]) (by
                  have := Qcf R hk 0 k.cs.length
                  simpa using this) s (by omega) (by omega) (growslice_fits (by omega) (hbytes l c2'))
                have hok := Qdu hS (old := (B i).2 + l) R ht hzs (Qbi.2 ⟨hkb, hnb⟩) hlen (by omega) (olds := (Qam B k.cs).toArray ++ (Lib.strCells s).toArray) (by simp [QaX, QdG]) (Qjz ho (by rw [e1]; simp only [den]) e2 hr)
                obtain ⟨r, w', B', q1, q2, q3, q4, q5, q6⟩ := hok
                refine ⟨r, w', B', q1, q2, q3, by simp [Mm.move], ?_, by simp [bd, Mm.move, ext]⟩
                have q7 := q5.drop i
                unfold Mm.newR at q7
                unfold Mm.move
                simp only [Tr.get_set ht, Tr.get_set hti] at q7 ⊢
                have e : QbW (QbW m.K.get m.nx (some ⟨I.e, k.cs ++ Qca s, I.i.size, false, []⟩)) i none = QbW (QbW m.K.get i none) m.nx (some ⟨I.e, k.cs ++ Qca s, I.i.size, false, []⟩) := by
                  funext q
                  unfold QbW
                  by_cases a1 : q = i
                  · have a2 : q ≠ m.nx := by have := hS i hin; omega
                    simp [a1, a2]; omega
                  · simp [a1]
                rw [e] at q7
                exact q7
          · cases h
        · cases h
      · cases h
    · cases h
  · cases h
end
theorem apT_fm {P : Program} {ρ : Rho} {m m' : Mm} {o : Oper} {x : SV} (h : apT P ρ m o = some (x, m')) : Fm m m' := by
  unfold apT at h
  repeat' (split at h)
  all_goals first
    | (cases h; done)
    | (simp only [Option.some.injEq, Prod.mk.injEq] at h; obtain ⟨_, rfl⟩ := h; first | exact Fm.newR ‹_› _ | exact Fm.move ‹QaE _ = true› ‹QaE m.nx = true› ‹_› _)
def apR (P : Program) (ρ : Rho) (m : Mm) (o : Oper) : Option (SV × Mm) :=
  match o.op with
  | .call ⟨.builtin .append, ⟨[x, y]⟩, ⟨[t, t']⟩⟩ => match Qf3 P t t', ρ x, ρ y with
    | some I, some (.s i off l c), some v => match apSrc m I.i.size v with
      | some (n, news) => match m.K.get i, QaE i with
        | some k, true => match Nat.ble (l + n) c && Nat.ble (off + l * I.i.size + news.length) k.cs.length with
          | true => some (.s i off (l + n) c, m.upd i ⟨k.ty, QeB k.cs (off + l * I.i.size) news, k.sz, k.mp, k.es⟩)
          | false => none
        | _, _ => none
      | none => none
    | _, _, _ => none
  | _ => none
theorem apR_fm {P : Program} {ρ : Rho} {m m' : Mm} {o : Oper} {x : SV} (h : apR P ρ m o = some (x, m')) : Fm m m' := by
  unfold apR at h
  repeat' (split at h)
  all_goals first
    | (cases h; done)
    | (simp only [Option.some.injEq, Prod.mk.injEq] at h; obtain ⟨_, rfl⟩ := h; exact Fm.upd ‹QaE _ = true› ‹_› _)
section
variable {P : Program} {w0 : World} {F : List RF} {B : Pl} {S : Nat → Prop} {m m' : Mm} {a : Act} {w : World} {ρ : Rho} {o : Oper} {x : SV}
theorem Qmy (R : Re w0 F B m.K.get S w) (hρ : QbF B S a ρ) (h : apR P ρ m o = some (x, m')) : Qea P w0 F B S m.nx o a w x m' := by
  unfold apR at h
  split at h
  · rename_i x' y t t' ho
    split at h
    · rename_i I i off l c v hI hx hy
      obtain ⟨rfl, hu, hi, hz, hzs, hsz, hby⟩ := Qdo hI
      obtain ⟨e1, b1⟩ := hρ _ _ hx
      obtain ⟨e2, b2⟩ := hρ _ _ hy
      split at h
      · rename_i n news hs
        obtain ⟨ad, c2, hd, hl, hn, h1, hnb, hn0, hn1⟩ := QjA R hs
        rw [hd] at e2
        split at h
        · rename_i k hk ht
          cases hc : (Nat.ble (l + n) c && Nat.ble (off + l * I.i.size + news.length) k.cs.length) with
          | false => rw [hc] at h; cases h
          | true =>
            rw [hc] at h
            simp only [Option.some.injEq, Prod.mk.injEq] at h
            obtain ⟨rfl, rfl⟩ := h
            simp only [Bool.and_eq_true] at hc
            have hroom : l + n ≤ c := by simpa using hc.1
            have hfit : off + l * I.i.size + news.length ≤ k.cs.length := by simpa using hc.2
            obtain ⟨_, hbk, rest, _, hh⟩ := R.bx i k hk
            have hf := run_firstCells_some (P := P) w I.i.size n ad n c2 (Qam B news) hl hn
            have hst := run_storeCells_cells (P := P) (B i).1 (off + l * I.i.size) (Qam B news) 0 w (fun j hj => by
              rw [Qae] at hj
              rw [Nat.add_zero, R.cell hk (List.getElem?_eq_getElem (by omega))]; rfl) (fun j hj => by
              rw [Qae] at hj
              rw [Qcp (hbk.cell (o := off + l * I.i.size + j) (by omega))] at hh
              exact Qic hh (by rw [List.length_append, Qae]; omega)) h1
            simp only [Nat.add_zero] at hst
            refine ⟨.value (.slice (some ⟨(B i).1, off, none⟩) (l + n) c), w.setCells (B i).1 (off + l * I.i.size) (Qam B news), B, ?_, Or.inl (by simp [den]), Ag.refl _ _ _, Nat.le_refl _, ?_, ?_⟩
            · refine Qiw ho e1 e2 ?_
              simp only [den]
              simp [Builtin.append_, run_underlying hu, sizeOf, typeInfo, hi, Builtin.lenOf, hroom, hf, QbP, hst]
            · simp only [Mm.upd]
              rw [Qal]
              exact R.upd ht (R.store hk hnb (by omega))
            · simp only [Mm.upd]
              rw [Qal]
              simpa [bd] using b1
        · cases h
      · cases h
    · cases h
  · cases h
end
def apE (P : Program) (ρ : Rho) (m : Mm) (o : Oper) : Option (SV × Mm) :=
  match ap0 P ρ o with
  | some x => some (x, m)
  | none => match apG P ρ m o with
    | some r => some r
    | none => match apR P ρ m o with
      | some r => some r
      | none => apT P ρ m o
section
variable {P : Program} {w0 : World} {F : List RF} {B : Pl} {S : Nat → Prop} {m m' : Mm} {a : Act} {w : World} {ρ : Rho} {o : Oper} {x : SV}
theorem QmB (R : Re w0 F B m.K.get S w) (hρ : QbF B S a ρ) (h : ap0 P ρ o = some x) : Qea P w0 F B S m.nx o a w x m := by
  unfold ap0 at h
  split at h
  · rename_i x' y t t' ho
    split at h
    · rename_i I i off l c c' hI hx hy
      obtain ⟨rfl, hu, hi, hz, hzs, hsz, hby⟩ := Qdo hI
      obtain ⟨e1, b1⟩ := hρ _ _ hx
      obtain ⟨e2, _⟩ := hρ _ _ hy
      simp only [den] at e1 e2
      split at h
      · rename_i hle
        simp only [Option.some.injEq] at h
        subst h
        have hr := run_append_nothing (P := P) w t t o.type I.e I.i hu hi (some ⟨(B i).1, off, none⟩) l c (by simpa using hle) (.slice none 0 c') (Src.ofNil w hu c')
        exact ⟨_, w, B, Qiw ho e1 e2 hr, Or.inl (by simp only [den]), Ag.refl _ _ _, Nat.le_refl _, by rw [Qal]; exact R, by rw [Qal]; exact b1⟩
      · cases h
    · rename_i I c' hI hx hy
      obtain ⟨rfl, hu, hi, hz, hzs, hsz, hby⟩ := Qdo hI
      obtain ⟨e1, b1⟩ := hρ _ _ hx
      obtain ⟨e2, _⟩ := hρ _ _ hy
      simp only [den] at e1 e2
      simp only [Option.some.injEq] at h
      subst h
      have hr := run_append_nothing (P := P) w t t o.type I.e I.i hu hi none 0 0 (Nat.le_refl _) (.slice none 0 c') (Src.ofNil w hu c')
      exact ⟨_, w, B, Qiw ho e1 e2 hr, Or.inl (by simp only [den]), Ag.refl _ _ _, Nat.le_refl _, by rw [Qal]; exact R, by rw [Qal]; exact b1⟩
    · cases h
  · cases h
theorem QmA (hS : ∀ j, S j → j < m.nx) (R : Re w0 F B m.K.get S w) (hρ : QbF B S a ρ) (h : apE P ρ m o = some (x, m')) : Qea P w0 F B S m.nx o a w x m' := by
  unfold apE at h
  split at h
  · rename_i y hy
    simp only [Option.some.injEq, Prod.mk.injEq] at h
    obtain ⟨rfl, rfl⟩ := h
    exact QmB R hρ hy
  · split at h
    · rename_i r hr
      simp only [Option.some.injEq] at h
      subst h
      exact Qmz hS R hρ hr
    · split at h
      · rename_i r hr
        simp only [Option.some.injEq] at h
        subst h
        exact Qmy R hρ hr
      · exact Qmx hS R hρ h
theorem apE_fm (h : apE P ρ m o = some (x, m')) : Fm m m' := by
  unfold apE at h
  split at h
  · simp only [Option.some.injEq, Prod.mk.injEq] at h
    obtain ⟨_, rfl⟩ := h
    exact Fm.refl _
  · split at h
    · rename_i r hr
      simp only [Option.some.injEq] at h
      subst h
      exact apG_fm hr
    · split at h
      · rename_i r hr
        simp only [Option.some.injEq] at h
        subst h
        exact apR_fm hr
      · exact apT_fm h
end
def cpSrc (m : Mm) (size n : Nat) (y : SV) : Option (List SV) :=
  match y with
  | .s j o l _ => match m.K.get j with
    | some k => match Nat.beq ((k.cs.drop o).take (n * size)).length (n * size) && ((k.cs.drop o).take (n * size)).all QiW with
      | true => some ((k.cs.drop o).take (n * size))
      | false => none
    | none => none
  | .r j o l _ => match m.K.get j with
    | some k => match Nat.beq ((k.cs.drop o).take (n * size)).length (n * size) && ((k.cs.drop o).take (n * size)).all QiW with
      | true => some ((k.cs.drop o).take (n * size))
      | false => none
    | none => none
  | _ => none
def lenE : SV → Option Nat
  | .s _ _ l _ => some l
  | .r _ _ l _ => some l
  | _ => none
def cpE (P : Program) (ρ : Rho) (m : Mm) (o : Oper) : Option (SV × Mm) :=
  match o.op with
  | .call ⟨.builtin .copy, ⟨[x, y]⟩, ⟨[t, t']⟩⟩ => match P.underlying t, ρ x, ρ y with
    | some (.slice e), some (.s i off l c), some v => match Qcc P e, lenE v with
      | some size, some l' => match cpSrc m size (Nat.min l' l) v, m.K.get i, QaE i with
        | some cells, some k, true => match Nat.ble (off + cells.length) k.cs.length with
          | true => some (.v (goInt (Nat.min l' l)), m.upd i ⟨k.ty, QeB k.cs off cells, k.sz, k.mp, k.es⟩)
          | false => none
        | _, _, _ => none
      | _, _ => none
    | _, _, _ => none
  | _ => none
section
variable {P : Program} {w0 : World} {F : List RF} {B : Pl} {S : Nat → Prop} {m m' : Mm} {a : Act} {w : World} {ρ : Rho} {o : Oper} {x : SV}
theorem cpSrc_ok (R : Re w0 F B m.K.get S w) {size n : Nat} {y : SV} {cells : List SV} (h : cpSrc m size n y = some cells) :
    ∃ ad l c, den B y = .slice (some ad) l c ∧ (lenE y = some l) ∧ (Qam B cells).length = n * size ∧ (∀ j u, (Qam B cells)[j]? = some u → w.cell? (ad.add j) = some u) ∧ (∀ u ∈ Qam B cells, u.oneCell' = true) ∧ bdL S cells := by
  have key : ∀ j off k, m.K.get j = some k → (match Nat.beq ((k.cs.drop off).take (n * size)).length (n * size) && ((k.cs.drop off).take (n * size)).all QiW with
      | true => some ((k.cs.drop off).take (n * size))
      | false => none) = some cells → (Qam B cells).length = n * size ∧ (∀ q u, (Qam B cells)[q]? = some u → w.cell? ((⟨(B j).1, off, none⟩ : Addr).add q) = some u) ∧ (∀ u ∈ Qam B cells, u.oneCell' = true) ∧ bdL S cells := by
    intro j off k hk h
    cases hc : (Nat.beq ((k.cs.drop off).take (n * size)).length (n * size) && ((k.cs.drop off).take (n * size)).all QiW) with
    | false => rw [hc] at h; cases h
    | true =>
      rw [hc] at h
      simp only [Option.some.injEq] at h
      subst h
      simp only [Bool.and_eq_true, List.all_eq_true] at hc
      refine ⟨by rw [Qae]; exact Nat.eq_of_beq_eq_true hc.1, Qcf R hk off _, fun u hu => ?_, ?_⟩
      · rw [QaI] at hu
        obtain ⟨z, hz, rfl⟩ := List.mem_map.1 hu
        exact QeL B (hc.2 z hz)
      · exact QaK.2 fun x hx => QaK.1 (R.bx j k hk).2.1.1 x (List.mem_of_mem_drop (List.mem_of_mem_take hx))
  unfold cpSrc at h
  split at h
  · rename_i j off l c
    cases hk : m.K.get j with
    | none => rw [hk] at h; cases h
    | some k =>
      rw [hk] at h
      obtain ⟨h1, h2, h3, h4⟩ := key j off k hk h
      exact ⟨_, _, _, by simp only [den]; rfl, rfl, h1, h2, h3, h4⟩
  · rename_i j off l c
    cases hk : m.K.get j with
    | none => rw [hk] at h; cases h
    | some k =>
      rw [hk] at h
      obtain ⟨h1, h2, h3, h4⟩ := key j off k hk h
      exact ⟨_, _, _, by simp only [den]; rfl, rfl, h1, h2, h3, h4⟩
  · cases h
theorem Qmf (R : Re w0 F B m.K.get S w) (hρ : QbF B S a ρ) (h : cpE P ρ m o = some (x, m')) : Qea P w0 F B S m.nx o a w x m' := by
  unfold cpE at h
  split at h
  · rename_i x' y t t' ho
    split at h
    · rename_i e i off l c v hu hx hy
      obtain ⟨e1, b1⟩ := hρ _ _ hx
      obtain ⟨e2, b2⟩ := hρ _ _ hy
      split at h
      · rename_i size l' hs hl'
        split at h
        · rename_i cells k hc hk ht
          cases hb : Nat.ble (off + cells.length) k.cs.length with
          | false => rw [hb] at h; cases h
          | true =>
            rw [hb] at h
            simp only [Option.some.injEq, Prod.mk.injEq] at h
            obtain ⟨rfl, rfl⟩ := h
            have hb' : off + cells.length ≤ k.cs.length := by simpa using hb
            obtain ⟨ad, l2, c2, hd, hle, h1, h2, h3, h4⟩ := cpSrc_ok R hc
            rw [hl'] at hle
            simp only [Option.some.injEq] at hle
            subst hle
            rw [hd] at e2
            obtain ⟨_, hbk, rest, _, hh⟩ := R.bx i k hk
            have hf := run_firstCells_some (P := P) w size (Nat.min l' l) ad l' c2 (Qam B cells) h1 h2
            have hst := run_storeCells_cells (P := P) (B i).1 off (Qam B cells) 0 w (fun j hj => by
              rw [Qae] at hj
              rw [Nat.add_zero, R.cell hk (List.getElem?_eq_getElem (by omega))]; rfl) (fun j hj => by
              rw [Qae] at hj
              rw [Qcp (hbk.cell (o := off + j) (by omega))] at hh
              exact Qic hh (by rw [List.length_append, Qae]; omega)) h3
            simp only [Nat.add_zero] at hst
            refine ⟨.value (goInt (Nat.min l' l)), w.setCells (B i).1 off (Qam B cells), B, ?_, Or.inl (by simp [den]), Ag.refl _ _ _, Nat.le_refl _, ?_, by simp [bd]⟩
            · unfold execOp
              simp only [ho, resolve, invoke, builtin, Sem.run_bind, Sem.run_pure, Result.andThen_ok, List.map_toArray, List.map_cons, List.map_nil, e1, e2, den]
              simp [Builtin.copy_, Sem.run_bind, run_underlying hu, Qa0 hs, Builtin.lenOf, hf, hst]
            · simp only [Mm.upd]
              rw [Qal]
              exact R.upd ht (R.store hk h4 hb')
        · cases h
      · cases h
    · cases h
  · cases h
theorem cpE_fm {P : Program} {ρ : Rho} {m m' : Mm} {o : Oper} {x : SV} (h : cpE P ρ m o = some (x, m')) : Fm m m' := by
  unfold cpE at h
  repeat' (split at h)
  all_goals first
    | (cases h; done)
    | (simp only [Option.some.injEq, Prod.mk.injEq] at h; obtain ⟨_, rfl⟩ := h; exact Fm.upd ‹QaE _ = true› ‹_› _)
end
structure Df where
  fn : FuncId
  args : List SV
  caps : List SV
inductive Md where
  | ret
  | pan (x : SV)
  | rcv (x : SV)
structure Fr where
  f : FuncId
  n : Nat
  T : Tr SV
  D : List Df
structure St where
  m : Mm
  orc : List Value
  cnd : List (Value × Value)
inductive En where
  | ret (x : SV)
  | pan (x : SV)
  | md (u : Md)
  | fr (fr : Fr) (u : Md)
  | mid (fr : Fr) (k : List SZ.It)
structure Ou where
  e : En
  st : St
inductive Job where
  | call (f : FuncId) (args : List SV)
  | run (fr : Fr) (k : List SZ.It)
  | leave (fr : Fr) (u : Md)
  | dcall (f : FuncId) (args : List SV) (u : Md)
def rho (T : Tr SV) : Rho
  | .tmp t => T.get t
  | .const v => some (.v v)
  | .func f => some (.v (.func (.func f) #[] #[]))
  | .global _ => none
def Qf1 (B : Pl) (d : Df) : Deferred := { target := .fn (.func d.fn) (Qam B d.caps).toArray, args := (Qam B d.args).toArray }
def bdD (n : Nat → Prop) (d : Df) : Prop := bdL n d.args ∧ bdL n d.caps
def bdM (n : Nat → Prop) : Md → Prop
  | .ret => True
  | .pan x => bd n x
  | .rcv x => bd n x
def ent (v : Value) (b : Bool) : PanicEntry := { v := v, recovered := b }
def hdP : SV → SV
  | .t (x :: _) => x
  | x => x
def tlP : SV → List SV
  | .t (_ :: l) => l
  | _ => []
def Qh7 (x y : SV) : SV := .t (hdP x :: (tlP x ++ hdP y :: tlP y))
def chn (B : Pl) (b : Bool) (x : SV) : List PanicEntry := ent (den B (hdP x)) b :: (Qam B (tlP x)).map fun v => ent v true
def Qc4 (B : Pl) : Md → FrameMode
  | .ret => .returning
  | .pan x => .panicking (chn B false x)
  | .rcv x => .panicking (chn B true x)
theorem Qj_ {S : Nat → Prop} {x : SV} (h : bd S x) : bd S (hdP x) := by
  unfold hdP
  split
  · simp only [bd, bdL] at h; exact h.1
  · exact h
theorem QkC {S : Nat → Prop} {x : SV} (h : bd S x) : bdL S (tlP x) := by
  unfold tlP
  split
  · simp only [bd, bdL] at h; exact h.2
  · simp [bdL]
theorem joinP_bd {S : Nat → Prop} {x y : SV} (h : bd S x) (g : bd S y) : bd S (Qh7 x y) := by
  simp only [Qh7, bd, bdL]
  refine ⟨Qj_ h, ?_⟩
  rw [QaK]
  intro z hz
  rcases List.mem_append.1 hz with h1 | h1
  · exact QaK.1 (QkC h) z h1
  · rcases List.mem_cons.1 h1 with rfl | h1
    · exact Qj_ g
    · exact QaK.1 (QkC g) z h1
theorem chn_ag {S : Nat → Prop} {B B' : Pl} (h : ∀ i, S i → B' i = B i) {x : SV} (hb : bd S x) (b : Bool) : chn B' b x = chn B b x := by
  unfold chn
  rw [Qf0 h (Qj_ hb), QcE h (QkC hb)]
theorem chn_join (B : Pl) (x y : SV) (b : Bool) : chn B b (Qh7 x y) = chn B b x ++ chn B true y := by
  simp [chn, Qh7, hdP, tlP, QaX, Qam]
theorem Qij {S : Nat → Prop} {B B' : Pl} (h : ∀ i, S i → B' i = B i) {u : Md} (hb : bdM S u) : Qc4 B' u = Qc4 B u := by
  cases u with
  | ret => rfl
  | pan x => simp only [Qc4]; rw [chn_ag h hb]
  | rcv x => simp only [Qc4]; rw [chn_ag h hb]
theorem Qju {S S' : Nat → Prop} (h : ∀ j, S j → S' j) {u : Md} (hb : bdM S u) : bdM S' u := by
  cases u with
  | ret => trivial
  | pan x => exact QbZ h hb
  | rcv x => exact QbZ h hb
def QcS : Md → Md
  | .rcv _ => .ret
  | u => u
def Tru (c : List (Value × Value)) : Prop := ∀ q ∈ c, q.1 = q.2
def Sfx (s s' : St) : Prop := (∃ l, s'.cnd = l ++ s.cnd) ∧ Fm s.m s'.m
theorem Sfx.refl (s : St) : Sfx s s := ⟨⟨[], rfl⟩, Fm.refl _⟩
theorem Sfx.trans {a b c : St} (h : Sfx a b) (k : Sfx b c) : Sfx a c := by
  obtain ⟨⟨l, hl⟩, hf⟩ := h
  obtain ⟨⟨l', hl'⟩, kf⟩ := k
  exact ⟨⟨l' ++ l, by rw [hl', hl, List.append_assoc]⟩, hf.trans kf⟩
theorem Sfx.tru {a b : St} (h : Sfx a b) (t : Tru b.cnd) : Tru a.cnd := by
  obtain ⟨⟨l, hl⟩, _⟩ := h
  intro q hq
  exact t q (by rw [hl]; exact List.mem_append_right _ hq)
structure Rf (B : Pl) (fr : Fr) (nx : Nat → Prop) (a : Act) : Prop where
  ra : Ra B fr.T.get fr.n nx a
  df : a.defers = fr.D.map (Qf1 B)
  db : ∀ d ∈ fr.D, bdD nx d
theorem Qik {n : Nat → Prop} {B B' : Pl} (h : ∀ i, n i → B' i = B i) {d : Df} (hb : bdD n d) : Qf1 B' d = Qf1 B d := by
  unfold Qf1; rw [QcE h hb.1, QcE h hb.2]
theorem Rf.ag {B B' : Pl} {fr : Fr} {nx nx' : Nat → Prop} {a : Act} (A : Rf B fr nx a) (h : ∀ i, nx i → B' i = B i) (hn : ∀ j, nx j → nx' j) : Rf B' fr nx' a :=
  ⟨A.ra.ag h hn, by rw [A.df]; exact List.map_congr_left fun d hd => (Qik h (A.db d hd)).symm, fun d hd => ⟨QbE hn (A.db d hd).1, QbE hn (A.db d hd).2⟩⟩
theorem QgY {B : Pl} {T : Tr SV} {n : Nat} {nx : Nat → Prop} {a : Act} (A : Ra B T.get n nx a) : QbF B nx a (rho T) := by
  intro x v h
  cases x with
  | tmp t =>
    obtain ⟨h1, h2⟩ := A.tm t v h
    exact ⟨by simp [Act.eval, Array.getD_eq_getD_getElem?, h1], h2⟩
  | const v' => simp only [rho, Option.some.injEq] at h; subst h; exact ⟨by simp [Act.eval, den], by simp [bd]⟩
  | func f => simp only [rho, Option.some.injEq] at h; subst h; exact ⟨by simp [Act.eval, den], by simp [bd]⟩
  | global g => simp [rho] at h
def putT (n : Nat) (T : Tr SV) (d : Option Nat) (x : SV) : Tr SV :=
  match d with
  | none => T
  | some d => match Nat.blt d n && QaE d with
    | true => T.set d (some x)
    | false => .leaf
theorem Ra.putT {B : Pl} {T : Tr SV} {n : Nat} {nx : Nat → Prop} {a : Act} (A : Ra B T.get n nx a) (d : Option Nat) {x : SV} (hx : bd nx x) : Ra B (EX.putT n T d x).get n nx (a.put d (den B x)) := by
  unfold EX.putT
  cases d with
  | none => exact A
  | some d =>
    cases hc : (Nat.blt d n && QaE d) with
    | true =>
      have hc' := hc
      simp only [Bool.and_eq_true] at hc
      have hd : d < n := by have := hc.1; rw [Nat.blt, Nat.ble_eq] at this; exact this
      simp only [hc', Tr.get_set hc.2]
      exact A.put hd hx
    | false =>
      simp only [hc]
      exact ⟨by simp [Act.put, A.sz], fun t y h => by rw [Tr.get_leaf] at h; cases h⟩
def Fr.put (fr : Fr) (d : Option Nat) (x : SV) : Fr := ⟨fr.f, fr.n, putT fr.n fr.T d x, fr.D⟩
theorem Rf.put {B : Pl} {fr : Fr} {nx : Nat → Prop} {a : Act} (A : Rf B fr nx a) (d : Option Nat) {x : SV} (hx : bd nx x) : Rf B (fr.put d x) nx (a.put d (den B x)) :=
  ⟨A.ra.putT d hx, by show (a.put d (den B x)).defers = fr.D.map (Qf1 B); rw [← A.df]; cases d <;> rfl, A.db⟩
def Qjv (x : SV) (st : St) : Option (Bool × St) :=
  match x with
  | .v (.bool b) => some (b, st)
  | .y (.bool b) => match st.orc with
    | .bool b' :: orc => some (b', ⟨st.m, orc, (.bool b, .bool b') :: st.cnd⟩)
    | .nilIface :: _ => some (b, ⟨st.m, st.orc, (.bool b, .bool b) :: st.cnd⟩)
    | _ => none
  | _ => none
theorem QgL {x : SV} {st st' : St} {b : Bool} (h : Qjv x st = some (b, st')) : st'.m = st.m ∧ Sfx st st' ∧ (Tru st'.cnd → ∀ B, den B x = .bool b) := by
  unfold Qjv at h
  split at h
  · simp only [Option.some.injEq, Prod.mk.injEq] at h
    obtain ⟨rfl, rfl⟩ := h
    exact ⟨rfl, Sfx.refl _, fun _ B => by simp [den]⟩
  · split at h
    · simp only [Option.some.injEq, Prod.mk.injEq] at h
      obtain ⟨rfl, rfl⟩ := h
      refine ⟨rfl, ⟨⟨[_], rfl⟩, Fm.refl _⟩, fun t B => ?_⟩
      have := t _ (List.mem_cons_self ..)
      simpa [den] using this
    · simp only [Option.some.injEq, Prod.mk.injEq] at h
      obtain ⟨rfl, rfl⟩ := h
      exact ⟨rfl, ⟨⟨[_], rfl⟩, Fm.refl _⟩, fun t B => by simp [den]⟩
    · cases h
  · cases h
def QfB (n : Nat) (T : Tr SV) (all : Array Oper) (o : Oper) (st : St) : Option (Bool × Tr SV × St) :=
  match o.guard with
  | none => some (true, T, st)
  | some (j, want) => match all[j]? with
    | some oj => match oj.dst with
      | some d => match T.get d with
        | some (.v (.bool c)) => some (c == want, T, st)
        | some (.v (.tuple _)) => some (false, T, st)
        | some (.y (.bool c)) => match Qjv (.y (.bool c)) st with
          | some (b, st') => some (b == want, putT n T (some d) (.v (.bool b)), st')
          | none => none
        | _ => none
      | none => none
    | none => none
theorem Act.put_self {a : Act} {d : Nat} {v : Value} (h : a.tmps[d]? = some v) : a.put (some d) v = a := by
  unfold Act.put
  obtain ⟨tmps, ds⟩ := a
  simp only at h ⊢
  congr 1
  apply Array.ext_getElem?
  intro i
  by_cases hi : d = i
  · subst hi
    rw [Array.getElem?_setIfInBounds_self, h]
    have := (Array.getElem?_eq_some_iff.1 h).1
    simp [this]
  · rw [Array.getElem?_setIfInBounds_ne hi]
theorem QiD {n : Nat} {T T' : Tr SV} {all : Array Oper} {o : Oper} {st st' : St} {b : Bool} (h : QfB n T all o st = some (b, T', st')) :
    st'.m = st.m ∧ Sfx st st' ∧ (Tru st'.cnd → ∀ B nx a, Ra B T.get n nx a → Ra B T'.get n nx a ∧ Region.wanted o (yielded all a.tmps) = b) := by
  unfold QfB at h
  unfold Region.wanted
  cases hg : o.guard with
  | none =>
    rw [hg] at h
    simp only [Option.some.injEq, Prod.mk.injEq] at h
    obtain ⟨rfl, rfl, rfl⟩ := h
    exact ⟨rfl, Sfx.refl _, fun _ B nx a A => ⟨A, rfl⟩⟩
  | some jw =>
    obtain ⟨j, want⟩ := jw
    rw [hg] at h
    simp only at h ⊢
    cases ho : all[j]? with
    | none => rw [ho] at h; cases h
    | some oj =>
      rw [ho] at h
      simp only at h
      cases hd : oj.dst with
      | none => rw [hd] at h; cases h
      | some d =>
        rw [hd] at h
        simp only at h
        split at h
        · rename_i c hT
          simp only [Option.some.injEq, Prod.mk.injEq] at h
          obtain ⟨rfl, rfl, rfl⟩ := h
          refine ⟨rfl, Sfx.refl _, fun _ B nx a A => ⟨A, ?_⟩⟩
          have := (A.tm d _ hT).1
          simp only [yielded, ho, hd, Option.bind_some, this, den]
          cases c <;> cases want <;> rfl
        · rename_i vs hT
          simp only [Option.some.injEq, Prod.mk.injEq] at h
          obtain ⟨rfl, rfl, rfl⟩ := h
          refine ⟨rfl, Sfx.refl _, fun _ B nx a A => ⟨A, ?_⟩⟩
          have := (A.tm d _ hT).1
          simp only [yielded, ho, hd, Option.bind_some, this, den]
          cases want <;> rfl
        · rename_i c hT
          cases hq : Qjv (.y (.bool c)) st with
          | none => rw [hq] at h; cases h
          | some q =>
            obtain ⟨b', st2⟩ := q
            rw [hq] at h
            simp only [Option.some.injEq, Prod.mk.injEq] at h
            obtain ⟨rfl, rfl, rfl⟩ := h
            obtain ⟨h1, h2, h3⟩ := QgL hq
            refine ⟨h1, h2, fun t B nx a A => ?_⟩
            have hc := h3 t B
            simp only [den, Value.bool.injEq] at hc
            subst hc
            have ht := (A.tm d _ hT).1
            refine ⟨?_, ?_⟩
            · have := A.putT (some d) (x := .v (.bool c)) (by simp [bd])
              simp only [den] at this ht
              rw [Act.put_self ht] at this
              exact this
            · simp only [yielded, ho, hd, Option.bind_some, ht, den]
              cases c <;> cases want <;> rfl
        · cases h
def Qj7 (f : FuncId) (d : Option Nat) (x : SV) (st : St) : SV × St :=
  match x with
  | .y u => match st.orc with
    | .tuple ⟨[.int _ (.ofNat g), .int _ (.ofNat t), v]⟩ :: orc => match d with
      | some d => match Nat.beq g f && Nat.beq t d with
        | true => (.v v, ⟨st.m, orc, (u, v) :: st.cnd⟩)
        | false => (.y u, st)
      | none => (.y u, st)
    | .tuple ⟨[.int _ (.ofNat g), .int _ (.ofNat t), v, _]⟩ :: orc => match d with
      | some d => match Nat.beq g f && Nat.beq t d with
        | true => (.y v, ⟨st.m, orc, (u, v) :: st.cnd⟩)
        | false => (.y u, st)
      | none => (.y u, st)
    | _ => (.y u, st)
  | x => (x, st)
theorem castO_ok {f : FuncId} {d : Option Nat} {x x' : SV} {st st' : St} (h : Qj7 f d x st = (x', st')) : st'.m = st.m ∧ Sfx st st' ∧ (Tru st'.cnd → ∀ B, den B x' = den B x) ∧ ∀ S, bd S x → bd S x' := by
  have same : (x, st) = (x', st') → st'.m = st.m ∧ Sfx st st' ∧ (Tru st'.cnd → ∀ B, den B x' = den B x) ∧ ∀ S, bd S x → bd S x' := by
    intro h
    simp only [Prod.mk.injEq] at h
    obtain ⟨rfl, rfl⟩ := h
    exact ⟨rfl, Sfx.refl _, fun _ _ => rfl, fun _ h => h⟩
  unfold Qj7 at h
  split at h
  · split at h
    · split at h
      · split at h
        · simp only [Prod.mk.injEq] at h
          obtain ⟨rfl, rfl⟩ := h
          refine ⟨rfl, ⟨⟨[_], rfl⟩, Fm.refl _⟩, fun t B => ?_, fun S _ => by simp [bd]⟩
          have := t _ (List.mem_cons_self ..)
          simp only [den]
          exact this.symm
        · exact same h
      · exact same h
    · split at h
      · split at h
        · simp only [Prod.mk.injEq] at h
          obtain ⟨rfl, rfl⟩ := h
          refine ⟨rfl, ⟨⟨[_], rfl⟩, Fm.refl _⟩, fun t B => ?_, fun S _ => by simp [bd]⟩
          have := t _ (List.mem_cons_self ..)
          simp only [den]
          exact this.symm
        · exact same h
      · exact same h
    · exact same h
  · exact same h
inductive Or where
  | val (x : SV)
  | dfr (d : Df)
  | pan (x : SV)
def tgtE (P : Program) (ρ : Rho) (x : Operand) (args : Array Operand) : Option (FuncId × List SV × List SV) :=
  match ρ x, Qc5 ρ args.toList with
  | some (.v (.func (.func f) first caps)), some as => match SZ.entersB P f with
    | true => some (f, first.toList.map .v ++ as, caps.toList.map .v)
    | false => none
  | some (.f f first caps), some as => match SZ.entersB P f with
    | true => some (f, first ++ as, caps)
    | false => none
  | _, _ => none
def isIf : SV → Bool
  | .v (.iface _ _) => true
  | .y (.iface _ _) => true
  | .e _ _ => true
  | _ => false
def hold (m : Mm) (st : St) : Option (SV × Mm) → Option (Or × St)
  | some (x, m') => some (.val x, ⟨m', st.orc, st.cnd⟩)
  | none => none
def QlA (kd : IntKind) (n : Int) : List SV → Option (List (Value × Value))
  | [] => some []
  | k :: v :: l => match k with
    | .v (.int kd' n') => match decide (kd = kd'), QlA kd n l with
      | true, some ps => some ((.bool (decide (n = n')), .bool false) :: ps)
      | _, _ => none
    | _ => none
  | [_] => none
theorem Qi2 {kd : IntKind} {n : Int} : ∀ {es : List SV} {ps : List (Value × Value)}, QlA kd n es = some ps → (∀ q ∈ ps, q.1 = q.2) → QeO kd n es = some none
  | [], _, _, _ => rfl
  | [_], _, h, _ => by cases h
  | k :: v :: l, ps, h, tr => by
    unfold QlA at h
    split at h
    · rename_i kd' n'
      cases hk : decide (kd = kd') with
      | false => rw [hk] at h; simp at h
      | true =>
        cases hm : QlA kd n l with
        | none => rw [hk, hm] at h; cases h
        | some qs =>
          rw [hk, hm] at h
          simp only [Option.some.injEq] at h
          subst h
          have h1 := tr _ (List.mem_cons_self ..)
          simp only [Value.bool.injEq] at h1
          unfold QeO
          simp only [hk, h1]
          exact Qi2 hm fun q hq => tr q (List.mem_cons_of_mem _ hq)
    · cases h
def missR (P : Program) (st : St) (t : TypeId) (x ix : Option SV) (ok : Bool) : Option (Or × St) := match P.underlying t, x, ix, st.orc with
  | some (.map kt et), some (.m i), some (.y (.int kd n)), .bool false :: orc => match (P.underlying kt).map QfU, st.m.K.get i, SZ.pev P (zeroValue et) with
    | some true, some b, some z => match b.mp, QlA kd n b.es with
      | true, some ps => some (.val (lkV ok none z), ⟨st.m, orc, ps ++ st.cnd⟩)
      | _, _ => none
    | _, _, _ => none
  | _, _, _, _ => none
def lookR (P : Program) (ρ : Rho) (st : St) (t : TypeId) (x ix : Operand) (ok : Bool) (r : Option (SV × Mm)) : Option (Or × St) := match r with
  | some (v, m') => some (.val v, ⟨m', st.orc, st.cnd⟩)
  | none => missR P st t (ρ x) (ρ ix) ok
def strO : Option SV → Option ByteArray
  | some (.v (.string s)) => some s
  | some (.y (.string s)) => some s
  | _ => none
def intO : Option SV → Option Int
  | some (.v (.int _ n)) => some n
  | some (.y (.int _ n)) => some n
  | _ => none
def isYs : Option SV → Bool
  | some (.y _) => true
  | _ => false
def orY : Bool → Bool → Bool
  | false, b => b
  | true, _ => true
def askCat (z : Bool) (x y : Option ByteArray) : Option (SV × List (Value × Value)) := match z, x, y with
  | true, some a, some b => some (.y (.string (a ++ b)), [(.bool (decide (a.size + b.size ≤ 9223372036854775807)), .bool true)])
  | _, _, _ => none
def tldR (n : Int) (d : Nat) : Nat := n.toNat * 1000 + d
def askIdx (P : Program) (t : TypeId) (d : Option Nat) (x : Option SV) (y : Option Int) : Option (SV × List (Value × Value)) := match P.underlying t, d, x, y with
  | some (.slice e), some d, some (.y (.slice (some ⟨b, off, none⟩) l _)), some n => match Qcc P e with
    | some sz => some (.a (tldR n d) 0, [(.bool (decide (0 ≤ n ∧ n < l)), .bool true), (.pointer (some ⟨b, off + n.toNat * sz, none⟩), .pointer (some ⟨FC.b (tldR n d), FC.o (tldR n d), none⟩))])
    | none => none
  | _, _, _, _ => none
def Qki (P : Program) (ρ : Rho) (o : Oper) : Option (SV × List (Value × Value)) := match o.op with
  | .binOp .add _ x y _ => askCat (orY (isYs (ρ x)) (isYs (ρ y))) (strO (ρ x)) (strO (ρ y))
  | .indexAddr t x ix => askIdx P t o.dst (ρ x) (intO (ρ ix))
  | _ => none
def askR (st : St) : Option (SV × List (Value × Value)) → Option (Or × St)
  | some (x, ps) => some (.val x, ⟨st.m, st.orc, ps ++ st.cnd⟩)
  | none => none
def QlL (st : St) (e : Option (SV × Mm)) (q : Option (SV × List (Value × Value))) : Option (Or × St) := match q with
  | some r => askR st (some r)
  | none => hold st.m st e
def opR (P : Program) (ih : Job → St → Option Ou) (ρ : Rho) (st : St) (o : Oper) : Option (Or × St) :=
  match o.op with
  | .call ⟨.value x, args, _⟩ => match tgtE P ρ x args with
    | some (f, as, caps) => match ih (.call f (as ++ caps)) st with
      | some ⟨.ret y, st'⟩ => some (.val y, st')
      | some ⟨.pan y, st'⟩ => some (.pan y, st')
      | _ => none
    | none => hold st.m st (opE P ρ st.m o)
  | .call ⟨.builtin .append, _, _⟩ => hold st.m st (apE P ρ st.m o)
  | .call ⟨.builtin .copy, _, _⟩ => hold st.m st (cpE P ρ st.m o)
  | .panic x => match ρ x with
    | some v => match isIf v with
      | true => some (.pan v, st)
      | false => none
    | none => none
  | .defer ⟨.value x, args, _⟩ => match tgtE P ρ x args with
    | some (f, as, caps) => some (.dfr ⟨f, as, caps⟩, st)
    | none => none
  | .pick c x y => match ρ c with
    | some v => match Qjv v st with
      | some (true, st') => match ρ x with
        | some z => some (.val z, st')
        | none => none
      | some (false, st') => match ρ y with
        | some z => some (.val z, st')
        | none => none
      | none => none
    | none => none
  | .lookup t x ix ok => lookR P ρ st t x ix ok (opE P ρ st.m o)
  | .binOp _ _ _ _ _ => QlL st (opE P ρ st.m o) (Qki P ρ o)
  | .indexAddr _ _ _ => QlL st (opE P ρ st.m o) (Qki P ρ o)
  | _ => hold st.m st (opE P ρ st.m o)
def QmE (P : Program) (st : St) (o : Ou) (w0 : World) (F : List RF) (B : Pl) (S : Nat → Prop) (Q : Exit → Act → World → Prop) : Prop :=
  ∀ B' a' w', Ag st.m.nx o.st.m.nx B B' → st.m.nx ≤ o.st.m.nx → Re w0 F B' o.st.m.K.get (ext S st.m.nx o.st.m.nx) w' → match o.e with
    | .fr fr' .ret => Rf B' fr' (ext S st.m.nx o.st.m.nx) a' → Q .ret a' w' ∧ Q .normal a' w'
    | .fr fr' (.pan x) => Rf B' fr' (ext S st.m.nx o.st.m.nx) a' → bd (ext S st.m.nx o.st.m.nx) x → Q (.panic (chn B' false x)) a' w'
    | .mid fr' k' => Rf B' fr' (ext S st.m.nx o.st.m.nx) a' → SZ.post P k' Q .normal a' w'
    | _ => True
def QmG (st : St) (o : Ou) (w0 : World) (F : List RF) (B : Pl) (S : Nat → Prop) (e : Ending) (w' : World) : Prop :=
  ∃ B', Ag st.m.nx o.st.m.nx B B' ∧ st.m.nx ≤ o.st.m.nx ∧ Re w0 F B' o.st.m.K.get (ext S st.m.nx o.st.m.nx) w' ∧
    match o.e with
    | .ret x => e = .returned (den B' x) ∧ bd (ext S st.m.nx o.st.m.nx) x
    | .pan x => e = .panicked (chn B' false x) ∧ bd (ext S st.m.nx o.st.m.nx) x
    | _ => False
def QdN (fr : Fr) (o : Ou) : Prop := match o.e with
  | .fr fr' .ret => fr'.f = fr.f
  | .fr fr' (.pan _) => fr'.f = fr.f
  | .mid fr' _ => fr'.f = fr.f
  | _ => False
def Qkj (P : Program) (j : Job) (st : St) (o : Ou) : Prop :=
  Sfx st o.st ∧ (match j with
    | .run fr k => QdN fr o
    | _ => True) ∧ (Tru o.st.cnd → match j with
    | .call f args => ∀ w0 F B S w, (∀ j, S j → j < st.m.nx) → Re w0 F B st.m.K.get S w → bdL S args →
        Calls P f (Qam B args).toArray w (QmG st o w0 F B S)
    | .run fr k => ∀ w0 F B S a w (Q : Exit → Act → World → Prop), (∀ j, S j → j < st.m.nx) → Re w0 F B st.m.K.get S w → Rf B fr S a → QmE P st o w0 F B S Q → SZ.post P k Q .normal a w
    | .leave fr u => ∀ w0 F B S a w (R : Ending → World → Prop) fn, P.funcs[fr.f]? = some fn → (∀ j, S j → j < st.m.nx) → Re w0 F B st.m.K.get S w → Rf B fr S a → bdM S u →
        (∀ B' w' e, Ag st.m.nx o.st.m.nx B B' → st.m.nx ≤ o.st.m.nx → Re w0 F B' o.st.m.K.get (ext S st.m.nx o.st.m.nx) w' → (match o.e with
          | .ret x => e = .returned (den B' x) ∧ bd (ext S st.m.nx o.st.m.nx) x
          | .pan x => e = .panicked (chn B' false x) ∧ bd (ext S st.m.nx o.st.m.nx) x
          | _ => False) → R e w') → Leaves P fn a.tmps R a.defers (Qc4 B u) w
    | .dcall f args u => ∀ w0 F B S w, (∀ j, S j → j < st.m.nx) → Re w0 F B st.m.K.get S w → bdL S args → bdM S u →
        CallsD P f (Qam B args).toArray (Qc4 B u) w fun e u' w' => ∃ B', Ag st.m.nx o.st.m.nx B B' ∧ st.m.nx ≤ o.st.m.nx ∧ Re w0 F B' o.st.m.K.get (ext S st.m.nx o.st.m.nx) w' ∧ 
          match o.e with
          | .md x => ((∃ v, e = .returned v) ∧ u' = Qc4 B' x ∨ ∃ ch, e = .panicked ch ∧ raised u' ch = Qc4 B' x ∧ QcS x = x) ∧ bdM (ext S st.m.nx o.st.m.nx) x
          | _ => False)
def Qbz (P : Program) (ih : Job → St → Option Ou) : Prop := ∀ j st o, ih j st = some o → Qkj P j st o
section
variable {P : Program} {ih : Job → St → Option Ou} {ρ : Rho} {st st' : St} {o : Oper}
theorem Qdr {w0 : World} {F : List RF} {B : Pl} {S : Nat → Prop} {nx : Nat} {a : Act} {w : World} {x : SV} {m' : Mm} (h : Qea P w0 F B S nx o a w x m') {K : Act → World → Prop} {Q : Exit → Act → World → Prop}
    (hk : ∀ B' w', Ag nx m'.nx B B' → nx ≤ m'.nx → Re w0 F B' m'.K.get (ext S nx m'.nx) w' → bd (ext S nx m'.nx) x → K (a.put o.dst (den B' x)) w') : o.wp P a w K Q := by
  obtain ⟨r, w', B', h1, h2, h3, h4, h5, h6⟩ := h
  unfold Oper.wp
  rw [h1]
  rcases h2 with rfl | ⟨rfl, rfl⟩
  · exact hk B' w' h3 h4 h5 h6
  · have := hk B' w' h3 h4 h5 h6
    simpa [den, Oper.upon] using this
theorem QkD {B : Pl} {n : Nat → Prop} {a : Act} (hρ : QbF B n a ρ) {x : Operand} {args : Array Operand} {f : FuncId} {as caps : List SV} (h : tgtE P ρ x args = some (f, as, caps)) :
    (∃ first : Array Value, a.eval x = .func (.func f) first (Qam B caps).toArray ∧ first ++ args.map a.eval = (Qam B as).toArray) ∧ bdL n as ∧ bdL n caps ∧ SZ.entersB P f = true := by
  unfold tgtE at h
  split at h
  · rename_i g first caps' as' hx hv
    split at h
    · rename_i he
      simp only [Option.some.injEq, Prod.mk.injEq] at h
      obtain ⟨rfl, rfl, rfl⟩ := h
      obtain ⟨h1, h2⟩ := QcR hρ _ hv
      refine ⟨⟨first, by rw [(hρ _ _ hx).1, Qft]; simp [den], ?_⟩, Qbi.2 ⟨Qhv _ _, h2⟩, Qhv _ _, he⟩
      apply Array.ext'
      simp [QaX, Qft, ← h1]
    · cases h
  · rename_i g first caps' as' hx hv
    split at h
    · rename_i he
      simp only [Option.some.injEq, Prod.mk.injEq] at h
      obtain ⟨rfl, rfl, rfl⟩ := h
      obtain ⟨h1, h2⟩ := QcR hρ _ hv
      obtain ⟨h3, h4⟩ := hρ _ _ hx
      simp only [bd] at h4
      refine ⟨⟨(Qam B first).toArray, by rw [h3]; simp [den], ?_⟩, Qbi.2 ⟨h4.1, h2⟩, h4.2, he⟩
      apply Array.ext'
      simp [QaX, ← h1]
    · cases h
  · cases h
def OrOk (P : Program) (ρ : Rho) (st : St) (o : Oper) (r : Or) (st' : St) : Prop :=
  Sfx st st' ∧ (Tru st'.cnd → ∀ w0 F B S a w (K : Act → World → Prop) (Q : Exit → Act → World → Prop), (∀ j, S j → j < st.m.nx) → Re w0 F B st.m.K.get S w → QbF B S a ρ →
    (match r with
      | .val x => ∀ B' w', Ag st.m.nx st'.m.nx B B' → st.m.nx ≤ st'.m.nx → Re w0 F B' st'.m.K.get (ext S st.m.nx st'.m.nx) w' → bd (ext S st.m.nx st'.m.nx) x → K (a.put o.dst (den B' x)) w'
      | .dfr d => st'.m = st.m → bdD S d → K ({ a with defers := Qf1 B d :: a.defers }.put o.dst undef) w
      | .pan x => ∀ B' w', Ag st.m.nx st'.m.nx B B' → st.m.nx ≤ st'.m.nx → Re w0 F B' st'.m.K.get (ext S st.m.nx st'.m.nx) w' → bd (ext S st.m.nx st'.m.nx) x → Q (.panic (chn B' false x)) a w') → o.wp P a w K Q)
theorem Qel {r : Or} {e : Option (SV × Mm)} (h : hold st.m st e = some (r, st')) (hfm : ∀ x m', e = some (x, m') → Fm st.m m') (hs : ∀ x m', e = some (x, m') → ∀ w0 F B S a w, (∀ j, S j → j < st.m.nx) → Re w0 F B st.m.K.get S w → QbF B S a ρ → Qea P w0 F B S st.m.nx o a w x m') : OrOk P ρ st o r st' := by
  cases e with
  | none => cases h
  | some q =>
    obtain ⟨x, m'⟩ := q
    simp only [hold, Option.some.injEq, Prod.mk.injEq] at h
    obtain ⟨rfl, rfl⟩ := h
    exact ⟨⟨⟨[], rfl⟩, hfm x m' rfl⟩, fun _ w0 F B S a w K Q hS R hρ hk => Qdr (hs x m' rfl w0 F B S a w hS R hρ) hk⟩
theorem lookR_ok {t : TypeId} {x ix : Operand} {ok : Bool} {r : Or} (ho : o.op = .lookup t x ix ok) (h : lookR P ρ st t x ix ok (opE P ρ st.m o) = some (r, st')) : OrOk P ρ st o r st' := by
  cases he : opE P ρ st.m o with
  | some q =>
    obtain ⟨v, m'⟩ := q
    rw [he] at h
    have h2 : hold st.m st (opE P ρ st.m o) = some (r, st') := by rw [he]; exact h
    exact Qel h2 (fun x m' e => QfO e) (fun x m' e w0 F B S a w hS R hρ => QcJ hS R hρ e)
  | none =>
    rw [he] at h
    simp only [lookR] at h
    unfold missR at h
    split at h
    · rename_i kt et i kd n orc hu hx hi horc
      split at h
      · rename_i b z hkt hb hz
        split at h
        · rename_i ps hmp hm
          simp only [Option.some.injEq, Prod.mk.injEq] at h
          obtain ⟨rfl, rfl⟩ := h
          refine ⟨⟨⟨ps, rfl⟩, Fm.refl _⟩, fun tr w0 F B S a w K Q hS R hρ hk => ?_⟩
          have hne : x ≠ ix := by
            intro e
            rw [e, hi] at hx
            simp at hx
          classical
          have hρ' : QbF B S a (fun q => if q = ix then some (.v (.int kd n)) else ρ q) := by
            intro q v hv
            by_cases e : q = ix
            · simp only [e, if_true, Option.some.injEq] at hv
              subst hv
              have := hρ ix _ hi
              rw [e]
              exact ⟨by rw [this.1]; simp [den], by simp [bd]⟩
            · simp only [e, if_false] at hv
              exact hρ q v hv
          have hkey := Qi2 hm (fun q hq => tr q (List.mem_append_left _ hq))
          refine Qdr (lkE_ok (x := lkV ok none z) (m' := st.m) R hρ' ho ?_) hk
          simp only [if_true, if_neg hne, hx]
          unfold lkE
          simp only [hu, hkt, hb, hz, hmp, hkey]
        · cases h
      · cases h
    · cases h
theorem QiI (B : Pl) {x : Option SV} {s : ByteArray} (h : strO x = some s) : ∃ v, x = some v ∧ den B v = .string s := by
  unfold strO at h
  split at h
  · simp only [Option.some.injEq] at h; subst h; exact ⟨_, rfl, by simp [den]⟩
  · simp only [Option.some.injEq] at h; subst h; exact ⟨_, rfl, by simp [den]⟩
  · cases h
theorem intO_den (B : Pl) {x : Option SV} {n : Int} (h : intO x = some n) : ∃ v k, x = some v ∧ den B v = .int k n := by
  unfold intO at h
  split at h
  · simp only [Option.some.injEq] at h; subst h; exact ⟨_, _, rfl, by simp [den]; rfl⟩
  · simp only [Option.some.injEq] at h; subst h; exact ⟨_, _, rfl, by simp [den]; rfl⟩
  · cases h
theorem Qmq {w0 : World} {F : List RF} {B : Pl} {S : Nat → Prop} {m : Mm} {a : Act} {w : World} {x : SV} {ps : List (Value × Value)} (R : Re w0 F B m.K.get S w) (hρ : QbF B S a ρ) (h : Qki P ρ o = some (x, ps)) (tr : Tru ps) : Qea P w0 F B S m.nx o a w x m := by
  unfold Qki at h
  split at h
  · rename_i t y z t2 ho
    unfold askCat at h
    split at h
    · rename_i s1 s2 _ h1 h2
      simp only [Option.some.injEq, Prod.mk.injEq] at h
      obtain ⟨rfl, rfl⟩ := h
      obtain ⟨v1, e1, d1⟩ := QiI B h1
      obtain ⟨v2, e2, d2⟩ := QiI B h2
      have c := tr _ (List.mem_cons_self ..)
      simp only [Value.bool.injEq, decide_eq_true_eq] at c
      refine Qaw R (by simp [bd]) ?_
      have g1 := ((hρ _ _ e1).1).trans d1
      have g2 := ((hρ _ _ e2).1).trans d2
      unfold execOp
      simp only [ho, g1, g2, eqGuard, binOp, Sem.run_bind, Sem.run_pure, Result.andThen_ok, Bool.not_false, if_true, run_string_add_sum w s1 s2 c, den]
    · cases h
  · rename_i t y ix ho
    unfold askIdx at h
    split at h
    · rename_i e d b off l cp n hu hd hy hn
      split at h
      · rename_i sz hs
        simp only [Option.some.injEq, Prod.mk.injEq] at h
        obtain ⟨rfl, rfl⟩ := h
        obtain ⟨v2, k, e2, d2⟩ := intO_den B hn
        have c1 := tr _ (List.mem_cons_self ..)
        have c2 := tr _ (List.mem_cons_of_mem _ (List.mem_cons_self ..))
        simp only [Value.bool.injEq, decide_eq_true_eq] at c1
        simp only at c2
        refine Qaw R (by simp [bd]) ?_
        have g1 := (hρ _ _ hy).1
        have g2 := ((hρ _ _ e2).1).trans d2
        simp only [den] at g1
        unfold execOp
        simp only [ho, g1, g2, Instr.indexAt, asIntOf, Sem.run_bind, Sem.run_pure, Result.andThen_ok, run_underlying hu w]
        rw [if_pos ⟨c1.1, c1.2⟩]
        simp only [Sem.run_bind, Qa0 hs, Result.andThen_ok, Sem.run_pure, den, QbP, Nat.add_zero]
        rw [← c2]
      · cases h
    · cases h
  · cases h
theorem Qi9 {r : Or} {e : Option (SV × Mm)} (he : opE P ρ st.m o = e) (h : QlL st e (Qki P ρ o) = some (r, st')) : OrOk P ρ st o r st' := by
  unfold QlL at h
  cases hq : Qki P ρ o with
  | none =>
    rw [hq] at h
    exact Qel h (fun x m' e => by rw [← he] at e; exact QfO e) fun x m' e w0 F B S a w hS R hρ => by rw [← he] at e; exact QcJ hS R hρ e
  | some q =>
    obtain ⟨x, ps⟩ := q
    rw [hq] at h
    simp only [askR, Option.some.injEq, Prod.mk.injEq] at h
    obtain ⟨rfl, rfl⟩ := h
    refine ⟨⟨⟨ps, rfl⟩, Fm.refl _⟩, fun tr w0 F B S a w K Q hS R hρ hk => ?_⟩
    exact Qdr (m' := st.m) (Qmq R hρ hq (fun q hq => tr q (List.mem_append_left _ hq))) hk
theorem Qb5 (hih : Qbz P ih) {r : Or} (h : opR P ih ρ st o = some (r, st')) : OrOk P ρ st o r st' := by
  unfold opR at h
  split at h
  · -- call
    rename_i x args ats ho
    split at h
    · rename_i f as caps ht
      have key : ∀ o1, ih (.call f (as ++ caps)) st = some o1 → (∀ w0 F B S a w (K : Act → World → Prop) (Q : Exit → Act → World → Prop), Tru o1.st.cnd → (∀ j, S j → j < st.m.nx) → Re w0 F B st.m.K.get S w → QbF B S a ρ →
          (∀ B' w', Ag st.m.nx o1.st.m.nx B B' → st.m.nx ≤ o1.st.m.nx → Re w0 F B' o1.st.m.K.get (ext S st.m.nx o1.st.m.nx) w' → match o1.e with
            | .ret x => bd (ext S st.m.nx o1.st.m.nx) x → K (a.put o.dst (den B' x)) w'
            | .pan x => bd (ext S st.m.nx o1.st.m.nx) x → Q (.panic (chn B' false x)) a w'
            | _ => True) → o.wp P a w K Q) := by
        intro o1 h1 w0 F B S a w K Q tr hS R hρ hk
        obtain ⟨⟨first, e1, e2⟩, b1, b2, he⟩ := QkD hρ ht
        have hc := (hih _ _ _ h1).2.2 tr w0 F B S w hS R (Qbi.2 ⟨b1, b2⟩)
        have hop : (execOp a.eval o).run P w = .ok (.enter f (Qam B (as ++ caps)).toArray) w := by
          have e3 : first ++ args.map a.eval ++ (Qam B caps).toArray = (Qam B (as ++ caps)).toArray := by
            rw [e2, QaX]; simp
          unfold execOp
          simp only [ho, resolve, e1, Deferred.ofValue, Sem.run_bind, Sem.run_pure, Result.andThen_ok, invoke, e3, SZ.entersB_run he]
        unfold Oper.wp
        rw [hop, Oper.upon_enter]
        refine Calls.mono hc ?_
        rintro e w' ⟨B', g1, g2, g3, g4⟩
        have hk' := hk B' w' g1 g2 g3
        split at g4
        · rename_i y hy
          rw [hy] at hk'
          obtain ⟨rfl, g5⟩ := g4
          exact hk' g5
        · rename_i y hy
          rw [hy] at hk'
          obtain ⟨rfl, g5⟩ := g4
          exact hk' g5
        · exact g4.elim
      split at h
      · rename_i y st1 h1
        simp only [Option.some.injEq, Prod.mk.injEq] at h
        obtain ⟨rfl, rfl⟩ := h
        exact ⟨(hih _ _ _ h1).1, fun tr w0 F B S a w K Q hS R hρ hk => key _ h1 w0 F B S a w K Q tr hS R hρ fun B' w' g1 g2 g3 g4 => hk B' w' g1 g2 g3 g4⟩
      · rename_i y st1 h1
        simp only [Option.some.injEq, Prod.mk.injEq] at h
        obtain ⟨rfl, rfl⟩ := h
        exact ⟨(hih _ _ _ h1).1, fun tr w0 F B S a w K Q hS R hρ hk => key _ h1 w0 F B S a w K Q tr hS R hρ fun B' w' g1 g2 g3 g4 => hk B' w' g1 g2 g3 g4⟩
      · cases h
    · exact Qel h (fun x m' he => QfO he) fun x m' he w0 F B S a w hS R hρ => QcJ hS R hρ he
  · exact Qel h (fun x m' he => apE_fm he) fun x m' he w0 F B S a w hS R hρ => QmA hS R hρ he
  · exact Qel h (fun x m' he => cpE_fm he) fun x m' he w0 F B S a w hS R hρ => Qmf R hρ he
  · -- panic
    rename_i x ho
    cases hx : ρ x with
    | none => rw [hx] at h; cases h
    | some v =>
      rw [hx] at h
      simp only at h
      cases hi : isIf v with
      | false => rw [hi] at h; cases h
      | true =>
        rw [hi] at h
        simp only [Option.some.injEq, Prod.mk.injEq] at h
        obtain ⟨rfl, rfl⟩ := h
        refine ⟨Sfx.refl _, fun _ w0 F B S a w K Q hS R hρ hk => ?_⟩
        obtain ⟨h1, h2⟩ := hρ _ _ hx
        have hop : (execOp a.eval o).run P w = .halt (.panic (den B v)) w := by
          unfold execOp
          simp only [ho, h1]
          unfold isIf at hi
          split at hi <;> first | (cases hi; done) | (simp only [den, Instr.panic, goPanic]; rfl)
        unfold Oper.wp
        rw [hop]
        have hch : chn B false v = [ent (den B v) false] := by
          unfold isIf at hi
          split at hi <;> first | (cases hi; done) | rfl
        have := hk B w (Ag.refl _ _ _) (Nat.le_refl _) (by rw [Qal]; exact R) (by rw [Qal]; exact h2)
        rw [hch] at this
        exact this
  · -- defer
    rename_i x args ats ho
    split at h
    · rename_i f as caps ht
      simp only [Option.some.injEq, Prod.mk.injEq] at h
      obtain ⟨rfl, rfl⟩ := h
      refine ⟨Sfx.refl _, fun _ w0 F B S a w K Q hS R hρ hk => ?_⟩
      obtain ⟨⟨first, e1, e2⟩, b1, b2, he⟩ := QkD hρ ht
      have hop : (execOp a.eval o).run P w = .ok (.defer (Qf1 B ⟨f, as, caps⟩)) w := by
        unfold execOp
        simp only [ho, resolve, e1, Deferred.ofValue, Sem.run_bind, Sem.run_pure, Result.andThen_ok, e2, Qf1]
      unfold Oper.wp
      rw [hop, Oper.upon_defer]
      exact hk rfl ⟨b1, b2⟩
    · cases h
  · -- pick
    rename_i c x y ho
    cases hc : ρ c with
    | none => rw [hc] at h; cases h
    | some v =>
      rw [hc] at h
      simp only at h
      have fin : ∀ (b : Bool) (z : SV) (q : Operand), Qjv v st = some (b, st') → r = .val z → ρ q = some z → (q = if b then x else y) → OrOk P ρ st o r st' := by
        rintro b z q ha rfl hz hq
        obtain ⟨h1, h2, h3⟩ := QgL ha
        refine ⟨h2, fun tr w0 F B S a w K Q hS R hρ hk => ?_⟩
        have hv := (hρ _ _ hc).1.trans (h3 tr B)
        obtain ⟨e1, e2⟩ := hρ _ _ hz
        have hop : (execOp a.eval o).run P w = .ok (.value (den B z)) w := by
          unfold execOp
          simp only [ho, hv, asBool, Sem.run_bind, Sem.run_pure, Result.andThen_ok]
          cases b <;> simp only [Bool.false_eq_true, if_false, if_true] at hq ⊢ <;> subst hq <;> rw [e1]
        unfold Oper.wp
        rw [hop]
        rw [h1] at hk
        exact hk B w (Ag.refl _ _ _) (Nat.le_refl _) (by rw [Qal]; exact R) (by rw [Qal]; exact e2)
      split at h
      · rename_i st1 ha
        cases hx : ρ x with
        | none => rw [hx] at h; cases h
        | some z =>
          rw [hx] at h
          simp only [Option.some.injEq, Prod.mk.injEq] at h
          obtain ⟨rfl, rfl⟩ := h
          exact fin true z x ha rfl hx rfl
      · rename_i st1 ha
        cases hx : ρ y with
        | none => rw [hx] at h; cases h
        | some z =>
          rw [hx] at h
          simp only [Option.some.injEq, Prod.mk.injEq] at h
          obtain ⟨rfl, rfl⟩ := h
          exact fin false z y ha rfl hx rfl
      · cases h
  · rename_i t x ix ok ho
    exact lookR_ok ho h
  · exact Qi9 rfl h
  · exact Qi9 rfl h
  · exact Qel h (fun x m' he => QfO he) fun x m' he w0 F B S a w hS R hρ => QcJ hS R hρ he
end
def Qef (P : Program) (T : Tr SV) (K : Tr Bx) : List ResultVar → Option (List SV)
  | [] => some []
  | .tmp t :: r => match T.get t, Qef P T K r with
    | some x, some l => some (x :: l)
    | _, _ => none
  | .cell t ty :: r => match T.get t with
    | some (.p i o) => match K.get i with
      | some k => match ldE P ty k.cs o, Qef P T K r with
        | some x, some l => some (x :: l)
        | _, _ => none
      | none => none
    | _ => none
def QhY : List SV → SV
  | [x] => x
  | l => Qlz l
def T0 : List SV → Nat → Tr SV
  | [], _ => .leaf
  | x :: l, i => match QaE i with
    | true => (T0 l (i + 1)).set i (some x)
    | false => .leaf
def Qja (ops : Array Oper) : Bool := ops.toList.any fun o => match o.op with
  | .call ⟨.builtin .recover, _, _⟩ => true
  | _ => false
def Qii (P : Program) (ih : Job → St → Option Ou) (n : Nat) (ops : Array Oper) : List Nat → Tr SV → St → Md → Option (Tr SV × St × Md)
  | [], T, st, u => some (T, st, u)
  | i :: l, T, st, u => match ops[i]? with
    | none => Qii P ih n ops l T st u
    | some o => match QfB n T ops o st with
      | some (false, T1, st1) => Qii P ih n ops l (putT n T1 o.dst (.v undef)) st1 u
      | some (true, T1, st1) => match o.op with
        | .call ⟨.builtin .recover, _, _⟩ => match u with
          | .pan x => Qii P ih n ops l (putT n T1 o.dst (hdP x)) st1 (.rcv x)
          | u => Qii P ih n ops l (putT n T1 o.dst (.v .nilIface)) st1 u
        | _ => match opR P ih (rho T1) st1 o with
          | some (.val x, st2) => Qii P ih n ops l (putT n T1 o.dst x) st2 u
          | _ => none
      | none => none
abbrev Dr := Program → (Job → St → Option Ou) → Fr → Array Oper → St → Option (Fr × St × Option SV)
def Qht (fr : Fr) (c : Operand) (b : Bool) : Fr :=
  match c with
  | .tmp t => fr.put (some t) (.v (.bool b))
  | _ => fr
def fr0 (f : FuncId) (fn : Func) (args : List SV) : Fr := ⟨f, args.length + (fn.ntmps - args.length), T0 args 0, []⟩
def Qif (P : Program) (fn : Func) (u : Md) : Option Ou → Option Ou
  | some ⟨.fr fr .ret, st⟩ => match fr.D, Qef P fr.T st.m.K fn.results.toList with
    | [], some _ => some ⟨.md u, st⟩
    | _, _ => none
  | _ => none
def Qjk (P : Program) (fn : Func) (u : Md) : Option Ou → Option Ou
  | some ⟨.fr fr .ret, st⟩ => match fr.D, Qef P fr.T st.m.K fn.results.toList with
    | [], some _ => some ⟨.md u, st⟩
    | _, _ => none
  | some ⟨.fr fr (.pan x), st⟩ => match fr.D, u with
    | [], .rcv y => some ⟨.md (.pan (Qh7 x y)), st⟩
    | [], .ret => some ⟨.md (.pan x), st⟩
    | _, _ => none
  | _ => none
abbrev Kn := FuncId → List SV → Option (SV × List (Value × Value))
abbrev KnG := FuncId → List SV → St → Option Ou
def gk (kn : Kn) : KnG := fun f args st => match kn f args with
  | some (v, cs) => some ⟨.ret v, ⟨st.m, st.orc, cs ++ st.cnd⟩⟩
  | none => none
def whole : Option Ou → Option Ou
  | some ⟨.mid _ _, _⟩ => none
  | o => o
def Qh2 : List SZ.It → Bool
  | [] => true
  | .ops _ _ :: _ => false
  | _ :: k => Qh2 k
def QcG (P : Program) (kn : KnG) (dr : Dr) (ih : Job → St → Option Ou) : Job → St → Option Ou
  | .call f args, st => match kn f args st with
    | some o => some o
    | none => match P.funcs[f]? with
      | some fn => match fn.body with
        | some c => match ih (.run (fr0 f fn args) [.code c]) st with
          | some ⟨.fr fr u, st'⟩ => ih (.leave fr u) st'
          | _ => none
        | none => none
      | none => none
  | .leave fr u, st => match fr.D with
    | [] => match u with
      | .ret => match P.funcs[fr.f]? with
        | some fn => match Qef P fr.T st.m.K fn.results.toList with
          | some ys => some ⟨.ret (QhY ys), st⟩
          | none => none
        | none => none
      | .pan x => some ⟨.pan x, st⟩
      | .rcv _ => none
    | d :: ds => match SZ.entersB P d.fn with
      | true => match ih (.dcall d.fn (d.args ++ d.caps) u) st with
        | some ⟨.md u', st'⟩ => ih (.leave ⟨fr.f, fr.n, fr.T, ds⟩ (QcS u')) st'
        | _ => none
      | false => none
  | .dcall f args u, st => match P.funcs[f]? with
    | some fn => match fn.body with
      | some c => match c with
        | .seq (.region _ ops false) rest => match Qja ops with
          | true => match Qii P ih (fr0 f fn args).n ops (List.range ops.size) (fr0 f fn args).T st u with
            | some (T, st1, u1) => Qjk P fn u1 (ih (.run ⟨f, (fr0 f fn args).n, T, []⟩ [.code rest]) st1)
            | none => none
          | false => Qif P fn u (ih (.run (fr0 f fn args) [.code c]) st)
        | c => Qif P fn u (ih (.run (fr0 f fn args) [.code c]) st)
      | none => none
    | none => none
  | .run fr k, st => match k with
    | [] => some ⟨.fr fr .ret, st⟩
    | .ops _ [] :: k => ih (.run fr k) st
    | .ops all (o :: l) :: k => match QfB fr.n fr.T all o st with
      | none => none
      | some (false, T, st1) => ih (.run ((Fr.mk fr.f fr.n T fr.D).put o.dst (.v undef)) (.ops all l :: k)) st1
      | some (true, T, st1) => match opR P ih (rho T) st1 o with
        | some (.val x, st2) => match Qj7 fr.f o.dst x st2 with
          | (x', st3) => ih (.run ((Fr.mk fr.f fr.n T fr.D).put o.dst x') (.ops all l :: k)) st3
        | some (.dfr d, st2) => ih (.run ((Fr.mk fr.f fr.n T (d :: fr.D)).put o.dst (.v undef)) (.ops all l :: k)) st2
        | some (.pan x, st2) => some ⟨.fr ⟨fr.f, fr.n, T, fr.D⟩ (.pan x), st2⟩
        | none => none
    | .blk _ :: k => ih (.run fr k) st
    | .rnd n c :: k => match n with
      | 0 => none
      | n + 1 => ih (.run fr (.code c :: .rnd n c :: k)) st
    | .code c :: k => match c with
      | .skip => ih (.run fr k) st
      | .seq x y => ih (.run fr (.code x :: .code y :: k)) st
      | .block id c => ih (.run fr (.code c :: .blk id :: k)) st
      | .loop c => ih (.run fr (.rnd 1000000 c :: k)) st
      | .exit id => match SZ.unw id k with
        | some k' => ih (.run fr k') st
        | none => none
      | .region _ ops false => ih (.run fr (.ops ops ops.toList :: k)) st
      | .region _ ops true => match dr P ih fr ops st with
        | some (fr', st', none) => ih (.run fr' k) st'
        | some (fr', st', some x) => some ⟨.fr fr' (.pan x), st'⟩
        | none => none
      | .cond c x y => match rho fr.T c with
        | some v => match Qjv v st with
          | some (true, st') => ih (.run (Qht fr c true) (.code x :: k)) st'
          | some (false, st') => ih (.run (Qht fr c false) (.code y :: k)) st'
          | none => none
        | none => none
      | .ret => some ⟨.fr fr .ret, st⟩
      | .label _ => ih (.run fr k) st
      | .scope c => match Qh2 k with
        | true => whole (ih (.run fr (.code c :: k)) st)
        | false => none
      | _ => none
def goJ (P : Program) (kn : KnG) (dr : Dr) (n : Nat) : Job → St → Option Ou := Nat.rec (fun _ _ => none) (fun _ ih => QcG P kn dr ih) n
def KnOk (P : Program) (kn : Kn) : Prop := ∀ f args v cs, kn f args = some (v, cs) → bd (fun _ => False) v ∧ (Tru cs → ∀ B w, Calls P f (Qam B args).toArray w fun e w' => e = .returned (den B v) ∧ Below w.heap.size w w')
section
variable {P : Program} {w0 : World} {F : List RF} {B : Pl} {S : Nat → Prop} {m : Mm} {a : Act} {w : World}
theorem Qe8 {T : Tr SV} {K : Tr Bx} {g : ResultVar → Option Value} (hg : ∀ rv, g rv = ((Qef P T K [rv]).bind (·.head?)).map (den B)) : ∀ (l : List ResultVar) {ys : List SV}, Qef P T K l = some ys → l.mapM g = some (ys.map (den B))
  | [], ys, h => by simp [Qef] at h; subst h; rfl
  | .tmp t :: l, ys, h => by
    simp only [Qef] at h
    cases hx : T.get t with
    | none => rw [hx] at h; simp at h
    | some x =>
      cases hl : Qef P T K l with
      | none => rw [hx, hl] at h; simp at h
      | some l' =>
        rw [hx, hl] at h; simp only [Option.some.injEq] at h; subst h
        rw [List.mapM_cons, hg, Qe8 hg l hl]
        simp [Qef, hx]
  | .cell t ty :: l, ys, h => by
    simp only [Qef] at h
    split at h
    · rename_i i o hx
      cases hK : K.get i with
      | none => rw [hK] at h; simp at h
      | some k =>
        rw [hK] at h; simp only at h
        cases hv : ldE P ty k.cs o with
        | none => rw [hv] at h; simp at h
        | some v =>
          cases hl : Qef P T K l with
          | none => rw [hv, hl] at h; simp at h
          | some l' =>
            rw [hv, hl] at h; simp only [Option.some.injEq] at h; subst h
            rw [List.mapM_cons, hg, Qe8 hg l hl]
            simp [Qef, hx, hK, hv]
    · cases h
theorem Qlm (B : Pl) (ys : List SV) : den B (QhY ys) = if h : (ys.map (den B)).toArray.size = 1 then (ys.map (den B)).toArray[0] else .tuple (ys.map (den B)).toArray := by
  unfold QhY
  split
  · simp
  · rename_i hne
    rw [Qly, QaI]
    match ys with
    | [] => simp
    | [x] => exact absurd rfl (hne x)
    | x :: y :: l => simp
theorem QhU {T : Tr SV} {n : Nat} (R : Re w0 F B m.K.get S w) (A : Ra B T.get n S a) : ∀ {l : List ResultVar} {ys : List SV}, Qef P T m.K l = some ys → bdL S ys
  | [], ys, h => by simp [Qef] at h; subst h; simp [bdL]
  | .tmp t :: l, ys, h => by
    simp only [Qef] at h
    split at h
    · rename_i x l' hx hl
      simp only [Option.some.injEq] at h; subst h
      exact ⟨(A.tm t x hx).2, QhU R A hl⟩
    · cases h
  | .cell t ty :: l, ys, h => by
    simp only [Qef] at h
    split at h
    · rename_i i o hx
      split at h
      · rename_i k hK
        split at h
        · rename_i x l' hv hl
          simp only [Option.some.injEq] at h; subst h
          exact ⟨(R.ld hK hv).2, QhU R A hl⟩
        · cases h
      · cases h
    · cases h
theorem Qgi {T : Tr SV} {n : Nat} (R : Re w0 F B m.K.get S w) (A : Ra B T.get n S a) {fn : Func} {ys : List SV} (h : Qef P T m.K fn.results.toList = some ys) :
    (results fn a.tmps).run P w = .ok (den B (QhY ys)) w ∧ bd S (QhY ys) := by
  have hm : (fn.results.mapM (SZ.resOp a.tmps)).run P w = .ok (ys.map (den B)).toArray w := by
    rw [← Array.toArray_toList (xs := fn.results), List.mapM_toArray, Sem.run_map]
    rw [SZ.mapM_run (g := fun rv => ((Qef P T m.K [rv]).bind (·.head?)).map (den B)) fn.results.toList ?_ (Qe8 (fun _ => rfl) _ h)]
    · rfl
    · intro rv _ y hy
      cases rv with
      | tmp t =>
        simp only [Qef] at hy
        cases hx : T.get t with
        | none => rw [hx] at hy; simp at hy
        | some x =>
          rw [hx] at hy
          simp at hy
          subst hy
          have := (A.tm t x hx).1
          simp [SZ.resOp, Array.getD_eq_getD_getElem?, this]
      | cell t ty =>
        simp only [Qef] at hy
        split at hy
        · rename_i i o hx
          cases hK : m.K.get i with
          | none => rw [hK] at hy; simp at hy
          | some k =>
            rw [hK] at hy; simp only at hy
            cases hv : ldE P ty k.cs o with
            | none => rw [hv] at hy; simp at hy
            | some v =>
              rw [hv] at hy
              simp at hy
              subst hy
              have := (A.tm t _ hx).1
              have e : a.tmps.getD t undef = .pointer (some ⟨(B i).1, o, none⟩) := by simp [Array.getD_eq_getD_getElem?, this, den]
              simp only [SZ.resOp, e, asAddr, Sem.run_bind, Sem.run_pure, Result.andThen_ok]
              exact (R.ld hK hv).1
        · simp at hy
  refine ⟨?_, ?_⟩
  · rw [SZ.results_op, Sem.run_bind, hm]
    simp only [Result.andThen_ok, Sem.run_pure]
    rw [Qlm]
  · have := QhU R A h
    unfold QhY
    split
    · simpa [bdL] using this
    · exact mkTup_bd this
theorem T0_get : ∀ (l : List SV) (i t : Nat) {x : SV}, (T0 l i).get t = some x → i ≤ t ∧ l[t - i]? = some x
  | [], i, t, x, h => by rw [T0, Tr.get_leaf] at h; cases h
  | y :: l, i, t, x, h => by
    rw [T0] at h
    cases hb : QaE i with
    | false => rw [hb] at h; simp only at h; rw [Tr.get_leaf] at h; cases h
    | true =>
      rw [hb] at h
      simp only [Tr.get_set hb, QbW] at h
      by_cases e : t = i
      · subst e; simp at h; subst h; simp
      · rw [if_neg e] at h
        obtain ⟨h1, h2⟩ := T0_get l (i + 1) t h
        refine ⟨by omega, ?_⟩
        rw [show t - i = (t - (i + 1)) + 1 by omega]
        simpa using h2
theorem QlR {f : FuncId} {fn : Func} {args : List SV} (hb : bdL S args) : Rf B (fr0 f fn args) S { tmps := (Qam B args).toArray ++ Array.replicate (fn.ntmps - (Qam B args).toArray.size) undef, defers := [] } := by
  refine ⟨⟨by simp [fr0, Qae], fun t x h => ?_⟩, rfl, fun d hd => by cases hd⟩
  obtain ⟨h1, h2⟩ := T0_get args 0 t h
  rw [Nat.sub_zero] at h2
  have hl := (List.getElem?_eq_some_iff.1 h2).1
  have e := (List.getElem?_eq_some_iff.1 h2).2
  refine ⟨?_, QaK.1 hb x (List.mem_of_getElem? h2)⟩
  have hl' : t < (Qam B args).toArray.size := by simpa [Qae] using hl
  rw [Array.getElem?_append_left hl']
  simp [QaI, hl, e]
end
def DrOk (P : Program) (dr : Dr) : Prop := ∀ ih, Qbz P ih → ∀ fr ops st fr' st' px, dr P ih fr ops st = some (fr', st', px) → Sfx st st' ∧ fr'.f = fr.f ∧ (Tru st'.cnd → ∀ w0 F B S a w id (Q : Exit → Act → World → Prop),
  (∀ j, S j → j < st.m.nx) → Re w0 F B st.m.K.get S w → Rf B fr S a →
  (∀ B' a' w', Ag st.m.nx st'.m.nx B B' → st.m.nx ≤ st'.m.nx → Re w0 F B' st'.m.K.get (ext S st.m.nx st'.m.nx) w' → Rf B' fr' (ext S st.m.nx st'.m.nx) a' → match px with
    | none => Q .normal a' w'
    | some x => bd (ext S st.m.nx st'.m.nx) x → Q (.panic (chn B' false x)) a' w') → (Code.region id ops true).wp P Q a w)
section
variable {P : Program} {kn : KnG} {dr : Dr} {ih : Job → St → Option Ou} {w0 : World} {F : List RF} {B : Pl} {S : Nat → Prop} {a : Act} {w : World} {st : St} {o : Ou} {fr : Fr}
theorem QkW {fr1 : Fr} {k1 : List SZ.It} {st1 : St} {B1 : Pl} {a1 : Act} {w1 : World} {Q : Exit → Act → World → Prop} (h : Qkj P (.run fr1 k1) st1 o) (tr : Tru o.st.cnd) (hS : ∀ j, S j → j < st.m.nx) (hle : st.m.nx ≤ st1.m.nx) (hag : Ag st.m.nx st1.m.nx B B1)
    (R1 : Re w0 F B1 st1.m.K.get (ext S st.m.nx st1.m.nx) w1) (A1 : Rf B1 fr1 (ext S st.m.nx st1.m.nx) a1) (hf : QmE P st o w0 F B S Q) : SZ.post P k1 Q .normal a1 w1 := by
  refine h.2.2 tr w0 F B1 (ext S st.m.nx st1.m.nx) a1 w1 Q (QfW hS hle) R1 A1 ?_
  intro B' a' w' g1 g2 g3
  rw [QdL hle g2] at g3 ⊢
  exact hf B' a' w' (hag.trans g1 hle g2) (Nat.le_trans hle g2) g3
theorem QdU {fr1 : Fr} {k1 : List SZ.It} {st1 : St} {a1 : Act} {Q : Exit → Act → World → Prop} (h : Qkj P (.run fr1 k1) st1 o) (tr : Tru o.st.cnd) (hS : ∀ j, S j → j < st.m.nx) (hm : st1.m = st.m)
    (R1 : Re w0 F B st.m.K.get S w) (A1 : Rf B fr1 S a1) (hf : QmE P st o w0 F B S Q) : SZ.post P k1 Q .normal a1 w := by
  refine QkW (st := st) h tr hS (by rw [hm]; exact Nat.le_refl _) (Ag.refl _ _ _) ?_ ?_ hf
  · rw [hm, Qal]; exact R1
  · rw [hm, Qal]; exact A1
theorem castF_ok {c : Operand} {b : Bool} {v : SV} (A : Rf B fr S a) (hc : rho fr.T c = some v) (hv : den B v = .bool b) : Rf B (Qht fr c b) S a := by
  unfold Qht
  split
  · rename_i t
    have h1 := (A.ra.tm t v hc).1
    have := A.put (some t) (x := .v (.bool b)) (by simp [bd])
    simp only [den] at this
    rw [hv] at h1
    rw [Act.put_self h1] at this
    exact this
  · exact A
theorem ended_ok {fn : Func} {u : Md} {e : Option Ou} (h : Qif P fn u e = some o) : ∃ fr st, e = some ⟨.fr fr .ret, st⟩ ∧ fr.D = [] ∧ (∃ ys, Qef P fr.T st.m.K fn.results.toList = some ys) ∧ o = ⟨.md u, st⟩ := by
  unfold Qif at h
  split at h
  · rename_i fr st
    split at h
    · rename_i ys hD hr
      simp only [Option.some.injEq] at h
      exact ⟨fr, st, rfl, hD, ⟨ys, hr⟩, h.symm⟩
    · cases h
  · cases h
theorem Ql1 {fn : Func} {u : Md} {e : Option Ou} (h : Qjk P fn u e = some o) : ∃ fr st, fr.D = [] ∧ ((e = some ⟨.fr fr .ret, st⟩ ∧ (∃ ys, Qef P fr.T st.m.K fn.results.toList = some ys) ∧ o = ⟨.md u, st⟩) ∨
    ∃ x, e = some ⟨.fr fr (.pan x), st⟩ ∧ ((∃ y, u = .rcv y ∧ o = ⟨.md (.pan (Qh7 x y)), st⟩) ∨ (u = .ret ∧ o = ⟨.md (.pan x), st⟩))) := by
  unfold Qjk at h
  split at h
  · rename_i fr st
    split at h
    · rename_i ys hD hr
      simp only [Option.some.injEq] at h
      exact ⟨fr, st, hD, Or.inl ⟨rfl, ⟨ys, hr⟩, h.symm⟩⟩
    · cases h
  · rename_i fr x st
    split at h
    · rename_i y hD
      simp only [Option.some.injEq] at h
      exact ⟨fr, st, hD, Or.inr ⟨x, rfl, Or.inl ⟨y, rfl, h.symm⟩⟩⟩
    · rename_i hD
      simp only [Option.some.injEq] at h
      exact ⟨fr, st, hD, Or.inr ⟨x, rfl, Or.inr ⟨rfl, h.symm⟩⟩⟩
    · cases h
  · cases h
theorem QjC {T : Tr SV} {n : Nat} {a : Act} (A : Ra B T.get n S a) (d : Option Nat) : Ra B (putT n T d (.v undef)).get n S (a.put d undef) := by
  have := A.putT d (x := .v undef) (by simp [bd])
  simpa [den] using this
theorem loop_ok {c : Code} {k : List SZ.It} {Q : Exit → Act → World → Prop} (n : Nat) (hp : SZ.post P (.rnd n c :: k) Q .normal a w) : SZ.post P (.code (.loop c) :: k) Q .normal a w := wp_loop_rounds n hp
theorem whole_ok {e : Option Ou} (h : whole e = some o) : e = some o ∧ ∀ fr k s, o ≠ ⟨.mid fr k, s⟩ := by
  unfold whole at h
  split at h
  · cases h
  · rename_i hn
    exact ⟨h, fun fr k s e' => hn fr k s (by rw [h, e'])⟩
theorem QbJ {Q : Exit → Act → World → Prop} {l : Nat} {a : Act} {w : World} : ∀ k : List SZ.It, SZ.post P k Q (.goto l) a w → Q (.goto l) a w
  | [], h => h
  | .code c :: k, h => QbJ k h
  | .ops _ _ :: k, h => QbJ k h
  | .blk _ :: k, h => QbJ k h
  | .rnd _ _ :: k, h => QbJ k h
theorem QeS {N N' : Act → World → Prop} {Q Q' : Exit → Act → World → Prop} (hn : ∀ a w, N a w → N' a w) (hq : ∀ e a w, Q e a w → Q' e a w) : ∀ e a w, Exit.then N Q e a w → Exit.then N' Q' e a w := by
  intro e a w h
  cases e <;> first | exact hn _ _ h | exact hq _ _ _ h
theorem Qe5 {c : Code} {Q Q' : Exit → Act → World → Prop} (hq : ∀ e a w, Q e a w → Q' e a w) : ∀ n a w, Code.rounds P c Q n a w → Code.rounds P c Q' n a w
  | 0, a, w, h => h
  | n + 1, a, w, h => Go.wp_mono h (QeS (Qe5 hq n) hq)
theorem QcH {Q Q' : Exit → Act → World → Prop} (hq : ∀ e a w, Q e a w → Q' e a w) : ∀ k : List SZ.It, Qh2 k = true → ∀ e a w, SZ.post P k Q e a w → SZ.post P k Q' e a w
  | [], _, e, a, w, h => hq e a w h
  | .code c :: k, hk, e, a, w, h => QeS (fun _ _ h => Go.wp_mono h (QcH hq k hk)) (QcH hq k hk) e a w h
  | .ops _ _ :: k, hk, e, a, w, h => by simp [Qh2] at hk
  | .blk id :: k, hk, e, a, w, h => by
    have ih := QcH hq k hk
    cases e with
    | exit id' =>
      show Exit.inBlock id _ _ _ _
      have h' : Exit.inBlock id (SZ.post P k Q) (.exit id') a w := h
      simp only [Exit.inBlock] at h' ⊢
      split at h'
      · rename_i hi; rw [if_pos hi]; exact ih _ _ _ h'
      · rename_i hi; rw [if_neg hi]; exact ih _ _ _ h'
    | _ => exact ih _ _ _ h
  | .rnd n c :: k, hk, e, a, w, h => QeS (fun _ _ h => Qe5 (QcH hq k hk) n _ _ h) (QcH hq k hk) e a w h
theorem scope_ok {c : Code} {k : List SZ.It} (hk : Qh2 k = true) {Q : Exit → Act → World → Prop} {a : Act} {w : World} (h : SZ.post P (.code c :: k) (Exit.noGoto Q) .normal a w) : SZ.post P (.code (.scope c) :: k) Q .normal a w := by
  have h' : c.wp P (SZ.post P k (Exit.noGoto Q)) a w := h
  refine wp_scope_straight (Go.wp_mono h' ?_)
  intro e a w h
  have hm : ∀ e a w, SZ.post P k (Exit.noGoto Q) e a w → SZ.post P k Q e a w := QcH (fun e a w h => by cases e <;> first | exact h | exact h.elim) k hk
  cases e with
  | goto l => exact QbJ (Q := Exit.noGoto Q) k h
  | _ => exact hm _ _ _ h
theorem step_run (hdr : DrOk P dr) (hih : Qbz P ih) {k : List SZ.It} (h : QcG P kn dr ih (.run fr k) st = some o) : Qkj P (.run fr k) st o := by
  unfold QcG at h
  simp only at h
  have pass : ∀ {k k1 : List SZ.It}, ih (.run fr k1) st = some o → (∀ Q a w, SZ.post P k1 Q .normal a w → SZ.post P k Q .normal a w) → Qkj P (.run fr k) st o := by
    intro k k1 h1 hp
    have s1 := hih _ _ _ h1
    exact ⟨s1.1, s1.2.1, fun tr w0 F B S a w Q hS R A hf => hp _ _ _ (QdU s1 tr hS rfl R A hf)⟩
  have done : ∀ {k : List SZ.It}, o = ⟨.fr fr .ret, st⟩ → (∀ Q a w, Q .ret a w → Q .normal a w → SZ.post P k Q .normal a w) → Qkj P (.run fr k) st o := by
    rintro k rfl hp
    refine ⟨Sfx.refl _, rfl, fun tr w0 F B S a w Q hS R A hf => ?_⟩
    obtain ⟨h1, h2⟩ := hf B a w (Ag.refl _ _ _) (Nat.le_refl _) (by rw [Qal]; exact R) (by rw [Qal]; exact A)
    exact hp Q a w h1 h2
  match k, h with
  | [], h => simp only [Option.some.injEq] at h; exact done h.symm fun Q a w h1 h2 => h2
  | .ops all [] :: k, h => exact pass h fun Q a w hp => hp
  | .ops all (op :: l) :: k, h =>
    simp only at h
    cases hw : QfB fr.n fr.T all op st with
    | none => rw [hw] at h; cases h
    | some q =>
      obtain ⟨b, T, st1⟩ := q
      rw [hw] at h
      obtain ⟨hm1, hsf1, hwant⟩ := QiD hw
      cases b with
      | false =>
        simp only at h
        have s1 := hih _ _ _ h
        refine ⟨hsf1.trans s1.1, s1.2.1, fun tr w0 F B S a w Q hS R A hf => ?_⟩
        obtain ⟨A1, hwa⟩ := hwant (s1.1.tru tr) B S a A.ra
        show wpList P all (SZ.post P k Q) (op :: l) a w
        refine wpList_step fun K hK => ?_
        rw [hwa]
        simp only [Bool.false_eq_true, if_false]
        refine hK _ _ ?_
        have A2 : Rf B (Fr.mk fr.f fr.n T fr.D) S a := ⟨A1, A.df, A.db⟩
        have A3 := A2.put op.dst (x := .v undef) (by simp [bd])
        simp only [den] at A3
        exact QdU s1 tr hS hm1 R A3 hf
      | true =>
        simp only at h
        cases hr : opR P ih (rho T) st1 op with
        | none => rw [hr] at h; cases h
        | some q =>
          obtain ⟨r, st2⟩ := q
          rw [hr] at h
          have hok := Qb5 hih hr
          cases r with
          | val x =>
            simp only at h
            generalize hcast : Qj7 fr.f op.dst x st2 = qc at h
            obtain ⟨x', st3⟩ := qc
            simp only at h
            obtain ⟨c1, c2, c3, c4⟩ := castO_ok hcast
            have s1 := hih _ _ _ h
            refine ⟨((hsf1.trans hok.1).trans c2).trans s1.1, s1.2.1, fun tr w0 F B S a w Q hS R A hf => ?_⟩
            have tr3 := s1.1.tru tr
            have tr2 := c2.tru tr3
            obtain ⟨A1, hwa⟩ := hwant (hok.1.tru tr2) B S a A.ra
            have A2 : Rf B (Fr.mk fr.f fr.n T fr.D) S a := ⟨A1, A.df, A.db⟩
            show wpList P all (SZ.post P k Q) (op :: l) a w
            refine wpList_step fun K hK => ?_
            rw [hwa, if_pos rfl]
            refine hok.2 tr2 w0 F B S a w K (SZ.post P k Q) (by rw [hm1]; exact hS) (by rw [hm1]; exact R) (QgY A1) ?_
            intro B' w' g1 g2 g3 g4
            rw [hm1] at g1 g2 g3 g4
            refine hK _ _ ?_
            rw [← c3 tr3 B']
            have g4' := c4 _ g4
            rw [← c1] at g1 g2 g3 g4'
            have A3 := (A2.ag (g1.on hS) QbU).put op.dst g4'
            exact QkW (st := st) s1 tr hS g2 g1 g3 A3 hf
          | dfr d =>
            simp only at h
            have s1 := hih _ _ _ h
            refine ⟨(hsf1.trans hok.1).trans s1.1, s1.2.1, fun tr w0 F B S a w Q hS R A hf => ?_⟩
            have tr2 := s1.1.tru tr
            obtain ⟨A1, hwa⟩ := hwant (hok.1.tru tr2) B S a A.ra
            show wpList P all (SZ.post P k Q) (op :: l) a w
            refine wpList_step fun K hK => ?_
            rw [hwa, if_pos rfl]
            refine hok.2 tr2 w0 F B S a w K (SZ.post P k Q) (by rw [hm1]; exact hS) (by rw [hm1]; exact R) (QgY A1) ?_
            intro hm2 hd
            refine hK _ _ ?_
            have A2 : Rf B (Fr.mk fr.f fr.n T (d :: fr.D)) S { a with defers := Qf1 B d :: a.defers } := ⟨⟨A1.sz, A1.tm⟩, by simp [A.df], fun d' hd' => by
              rcases List.mem_cons.1 hd' with rfl | hd'
              · exact hd
              · exact A.db d' hd'⟩
            have A3 := A2.put op.dst (x := .v undef) (by simp [bd])
            simp only [den] at A3
            exact QdU s1 tr hS (hm2.trans hm1) R A3 hf
          | pan x =>
            simp only [Option.some.injEq] at h
            subst h
            refine ⟨hsf1.trans hok.1, rfl, fun tr w0 F B S a w Q hS R A hf => ?_⟩
            obtain ⟨A1, hwa⟩ := hwant (hok.1.tru tr) B S a A.ra
            have A2 : Rf B (Fr.mk fr.f fr.n T fr.D) S a := ⟨A1, A.df, A.db⟩
            show wpList P all (SZ.post P k Q) (op :: l) a w
            refine wpList_step fun K hK => ?_
            rw [hwa, if_pos rfl]
            refine hok.2 tr w0 F B S a w K (SZ.post P k Q) (by rw [hm1]; exact hS) (by rw [hm1]; exact R) (QgY A1) ?_
            intro B' w' g1 g2 g3 g4
            rw [hm1] at g1 g2 g3 g4
            refine SZ.panic_sound ?_ k
            exact hf B' a w' g1 g2 g3 (A2.ag (g1.on hS) QbU) g4
  | .blk id :: k, h => exact pass h fun Q a w hp => hp
  | .rnd n c :: k, h =>
    cases n with
    | zero => cases h
    | succ n => exact pass h fun Q a w hp => hp
  | .code c :: k, h =>
    match c, h with
    | .skip, h => exact pass h fun Q a w hp => wp_skip hp
    | .seq x y, h => exact pass h fun Q a w hp => wp_seq hp
    | .block id c, h => exact pass h fun Q a w hp => wp_block hp
    | .loop c, h => exact pass h fun Q a w hp => loop_ok _ hp
    | .exit id, h =>
      simp only at h
      cases hu : SZ.unw id k with
      | none => rw [hu] at h; cases h
      | some k' =>
        rw [hu] at h
        exact pass h fun Q a w hp => wp_exit (SZ.unw_sound k hu hp)
    | .region id ops false, h => exact pass h fun Q a w hp => wp_region_list hp
    | .region id ops true, h =>
      simp only at h
      cases hd : dr P ih fr ops st with
      | none => rw [hd] at h; cases h
      | some q =>
        obtain ⟨fr', st', px⟩ := q
        rw [hd] at h
        obtain ⟨d1, d2, d3⟩ := hdr ih hih _ _ _ _ _ _ hd
        cases px with
        | some x =>
          simp only [Option.some.injEq] at h
          subst h
          refine ⟨d1, by unfold QdN; exact d2, fun tr w0 F B S a w Q hS R A hf => ?_⟩
          exact d3 tr w0 F B S a w id (SZ.post P k Q) hS R A fun B' a' w' g1 g2 g3 g4 g5 => SZ.panic_sound (hf B' a' w' g1 g2 g3 g4 g5) k
        | none =>
        simp only at h
        have s1 := hih _ _ _ h
        refine ⟨d1.trans s1.1, by have hk : QdN fr' o := s1.2.1; unfold QdN at hk; rw [d2] at hk; exact hk, fun tr w0 F B S a w Q hS R A hf => ?_⟩
        exact d3 (s1.1.tru tr) w0 F B S a w id (SZ.post P k Q) hS R A fun B' a' w' g1 g2 g3 g4 => QkW (st := st) s1 tr hS g2 g1 g3 g4 hf
    | .cond c x y, h =>
      simp only at h
      cases hc : rho fr.T c with
      | none => rw [hc] at h; cases h
      | some v =>
        rw [hc] at h
        simp only at h
        have go : ∀ (b : Bool) (st' : St), Qjv v st = some (b, st') → ih (.run (Qht fr c b) (.code (if b then x else y) :: k)) st' = some o → Qkj P (.run fr (.code (.cond c x y) :: k)) st o := by
          intro b st' ha h
          obtain ⟨h1, h2, h3⟩ := QgL ha
          have s1 := hih _ _ _ h
          refine ⟨h2.trans s1.1, by have hk : QdN (Qht fr c b) o := s1.2.1; unfold QdN at hk; have e : (Qht fr c b).f = fr.f := by unfold Qht; split <;> rfl
                                    rw [e] at hk; exact hk, fun tr w0 F B S a w Q hS R A hf => ?_⟩
          have hv := h3 (s1.1.tru tr) B
          have he := (QgY A.ra c v hc).1
          exact wp_cond (he.trans hv) (QdU s1 tr hS h1 R (castF_ok A hc hv) hf)
        split at h
        · rename_i st' ha; exact go true st' ha h
        · rename_i st' ha; exact go false st' ha h
        · cases h
    | .ret, h => simp only [Option.some.injEq] at h; exact done h.symm fun Q a w h1 h2 => wp_ret (SZ.ret_sound h1 k)
    | .goto l, h => simp at h
    | .label l, h => exact pass h fun Q a w hp => wp_label hp
    | .rangeFunc _ _ _ _, h => simp at h
    | .scope c, h =>
      simp only at h
      cases hk : Qh2 k with
      | false => rw [hk] at h; cases h
      | true =>
        rw [hk] at h
        simp only at h
        obtain ⟨h, hmid⟩ := whole_ok h
        have s1 := hih _ _ _ h
        refine ⟨s1.1, s1.2.1, fun tr w0 F B S a w Q hS R A hf => ?_⟩
        have h5 : SZ.post P (.code c :: k) (Exit.noGoto Q) .normal a w := QdU s1 tr hS rfl R A fun B' a' w' g1 g2 g3 => by
          have h6 := hf B' a' w' g1 g2 g3
          revert h6
          obtain ⟨e, s⟩ := o
          cases e with
          | fr fr' u => cases u <;> exact fun h => h
          | mid fr' k' => exact absurd rfl (hmid fr' k' s)
          | _ => exact fun h => h
        exact scope_ok hk h5
    | .refuse _, h => simp at h
end
section
variable {P : Program} {kn : KnG} {dr : Dr} {ih : Job → St → Option Ou} {w0 : World} {F : List RF} {B : Pl} {S : Nat → Prop} {a : Act} {w : World} {st : St} {o : Ou} {fr : Fr}
def QfE (P : Program) (kn : KnG) : Prop := ∀ f args st o, kn f args st = some o → Qkj P (.call f args) st o
theorem gk_ok {P : Program} {kn : Kn} (hkn : KnOk P kn) : QfE P (gk kn) := by
  intro f args st o h
  unfold gk at h
  split at h
  · rename_i v cs hk0
    simp only [Option.some.injEq] at h
    subst h
    obtain ⟨h1, h2⟩ := hkn f args v cs hk0
    refine ⟨⟨⟨cs, rfl⟩, Fm.refl _⟩, trivial, fun tr w0 F B S w hS R hargs => (h2 (fun q hq => tr q (List.mem_append_left _ hq)) B w).mono ?_⟩
    rintro e w' ⟨rfl, hb⟩
    exact ⟨B, Ag.refl _ _ _, Nat.le_refl _, by rw [Qal]; exact R.below hb, rfl, QbZ (fun _ h => h.elim) h1⟩
  · cases h
theorem QkH (hkn : QfE P kn) (hih : Qbz P ih) {f : FuncId} {args : List SV} (h : QcG P kn dr ih (.call f args) st = some o) : Qkj P (.call f args) st o := by
  unfold QcG at h
  simp only at h
  cases hk0 : kn f args st with
  | some q =>
   rw [hk0] at h
   simp only [Option.some.injEq] at h
   subst h
   exact hkn f args st _ hk0
  | none =>
  rw [hk0] at h
  simp only at h
  cases hf : P.funcs[f]? with
  | none => rw [hf] at h; cases h
  | some fn =>
    rw [hf] at h
    simp only at h
    cases hb : fn.body with
    | none => rw [hb] at h; cases h
    | some c =>
      rw [hb] at h
      simp only at h
      split at h
      · rename_i fr u st' h1
        have s1 := hih _ _ _ h1
        have s2 := hih _ _ _ h
        refine ⟨s1.1.trans s2.1, trivial, fun tr w0 F B S w hS R hargs => ?_⟩
        refine calls_of_wp_defers hf hb ?_
        have hk : QdN (fr0 f fn args) ⟨.fr fr u, st'⟩ := s1.2.1
        have leave : ∀ B' a' w', fr.f = f → Ag st.m.nx st'.m.nx B B' → st.m.nx ≤ st'.m.nx → Re w0 F B' st'.m.K.get (ext S st.m.nx st'.m.nx) w' → Rf B' fr (ext S st.m.nx st'.m.nx) a' → bdM (ext S st.m.nx st'.m.nx) u → Leaves P fn a'.tmps (QmG st o w0 F B S) a'.defers (Qc4 B' u) w' := by
          intro B' a' w' hff g1 g2 g3 g4 g5
          refine s2.2.2 tr w0 F B' _ a' w' _ fn (by rw [hff]; exact hf) (QfW hS g2) g3 g4 g5 ?_
          intro B2 w2 e q1 q2 q3 q4
          rw [QdL g2 q2] at q3 q4
          exact ⟨B2, g1.trans q1 g2 q2, Nat.le_trans g2 q2, q3, q4⟩
        refine s1.2.2 (s2.1.tru tr) w0 F B S _ w _ hS R (QlR hargs) ?_
        intro B' a' w' g1 g2 g3
        cases u with
        | ret => exact fun g4 => ⟨leave B' a' w' hk g1 g2 g3 g4 trivial, leave B' a' w' hk g1 g2 g3 g4 trivial⟩
        | pan x => exact fun g4 g5 => leave B' a' w' hk g1 g2 g3 g4 g5
        | rcv x => trivial
      · cases h
theorem chn_tail (B : Pl) (l : List SV) : ((Qam B l).map fun v => ent v true).dropWhile (fun e => !e.goexit) = [] := by
  induction Qam B l with
  | nil => rfl
  | cons v l ih => simp only [List.map_cons, List.dropWhile, ent, Bool.not_false] at ih ⊢; exact ih
theorem QjJ (B : Pl) (u : Md) : settle (Qc4 B u) = Qc4 B (QcS u) := by
  cases u with
  | ret => rfl
  | pan x => rfl
  | rcv x =>
    have := chn_tail B (tlP x)
    simp only [Qc4, chn, settle, ent, QcS] at this ⊢
    rw [this]
theorem QjE (hih : Qbz P ih) {u : Md} (h : QcG P kn dr ih (.leave fr u) st = some o) : Qkj P (.leave fr u) st o := by
  unfold QcG at h
  simp only at h
  cases hD : fr.D with
  | nil =>
    rw [hD] at h
    cases u with
    | ret =>
      simp only at h
      cases hf : P.funcs[fr.f]? with
      | none => rw [hf] at h; cases h
      | some fn =>
        rw [hf] at h
        simp only at h
        cases hr : Qef P fr.T st.m.K fn.results.toList with
        | none => rw [hr] at h; cases h
        | some ys =>
          rw [hr] at h
          simp only [Option.some.injEq] at h
          subst h
          refine ⟨Sfx.refl _, trivial, fun tr w0 F B S a w R fn' hf' hS Rr A hu hR => ?_⟩
          rw [hf] at hf'; simp only [Option.some.injEq] at hf'; subst hf'
          rw [A.df, hD]
          obtain ⟨h1, h2⟩ := Qgi Rr A.ra hr
          exact ⟨_, h1, hR B w _ (Ag.refl _ _ _) (Nat.le_refl _) (by rw [Qal]; exact Rr) ⟨rfl, by rw [Qal]; exact h2⟩⟩
    | pan x =>
      simp only [Option.some.injEq] at h
      subst h
      refine ⟨Sfx.refl _, trivial, fun tr w0 F B S a w R fn' hf' hS Rr A hu hR => ?_⟩
      rw [A.df, hD]
      exact hR B w _ (Ag.refl _ _ _) (Nat.le_refl _) (by rw [Qal]; exact Rr) ⟨rfl, by rw [Qal]; exact hu⟩
    | rcv x => cases h
  | cons d ds =>
    rw [hD] at h
    simp only at h
    cases he : SZ.entersB P d.fn with
    | false => rw [he] at h; cases h
    | true =>
      rw [he] at h
      simp only at h
      split at h
      · rename_i u' st' h1
        have s1 := hih _ _ _ h1
        have s2 := hih _ _ _ h
        refine ⟨s1.1.trans s2.1, trivial, fun tr w0 F B S a w R fn hf hS Rr A hu hR => ?_⟩
        rw [A.df, hD]
        have hd : bdD S d := A.db d (by rw [hD]; simp)
        refine ⟨by cases u <;> simp [Qc4], .func d.fn, (Qam B d.caps).toArray, d.fn, (Qam B (d.args ++ d.caps)).toArray, rfl, ?_, ?_⟩
        · have e : (Qam B d.args).toArray ++ (Qam B d.caps).toArray = (Qam B (d.args ++ d.caps)).toArray := by rw [QaX]; simp
          show (callFunc d.fn ((Qam B d.args).toArray ++ (Qam B d.caps).toArray)).run P w = _
          rw [e]
          exact SZ.entersB_run he _ w
        · refine (s1.2.2 (s2.1.tru tr) w0 F B S w hS Rr (Qbi.2 hd) hu).mono ?_
          rintro e u2 w' ⟨B', g1, g2, g3, g4, g5⟩
          have A2 : Rf B' ⟨fr.f, fr.n, fr.T, ds⟩ (ext S st.m.nx st'.m.nx) { a with defers := ds.map (Qf1 B') } :=
            ⟨⟨A.ra.sz, (A.ra.ag (g1.on hS) QbU).tm⟩, rfl, fun d' hd' => by
              have := A.db d' (by rw [hD]; exact List.mem_cons_of_mem _ hd')
              exact ⟨QbE QbU this.1, QbE QbU this.2⟩⟩
          have hds : List.map (Qf1 B) ds = List.map (Qf1 B') ds := List.map_congr_left fun d' hd' => (Qik (g1.on hS) (A.db d' (by rw [hD]; exact List.mem_cons_of_mem _ hd'))).symm
          have key : Leaves P fn a.tmps R (List.map (Qf1 B) ds) (Qc4 B' (QcS u')) w' := by
            rw [hds]
            refine s2.2.2 tr w0 F B' _ { a with defers := ds.map (Qf1 B') } w' R fn hf (QfW hS g2) g3 A2 (by cases u' <;> first | trivial | exact g5) ?_
            intro B2 w2 e q1 q2 q3 q4
            rw [QdL g2 q2] at q3 q4
            exact hR B2 w2 e (g1.trans q1 g2 q2) (Nat.le_trans g2 q2) q3 q4
          rcases g4 with ⟨⟨v, rfl⟩, rfl⟩ | ⟨ch, rfl, hra, hse⟩
          · show Leaves P fn a.tmps R (List.map (Qf1 B) ds) (settle (Qc4 B' u')) w'
            rw [QjJ]
            exact key
          · show Leaves P fn a.tmps R (List.map (Qf1 B) ds) (raised u2 ch) w'
            rw [hra, ← hse]
            exact key
      · cases h
theorem Qen (hih : Qbz P ih) {n : Nat} {ops : Array Oper} : ∀ (l : List Nat) {T T' : Tr SV} {st st' : St} {u u' : Md}, Qii P ih n ops l T st u = some (T', st', u') → Sfx st st' ∧ (Tru st'.cnd → ∀ w0 F B S a w (c₀ : Frame) (cs : List Frame) (Q : Exit → Act → List Frame → World → Prop),
    (∀ j, S j → j < st.m.nx) → Re w0 F B st.m.K.get S w → Ra B T.get n S a → a.defers = [] → bdM S u →
    (∀ B' a' w', Ag st.m.nx st'.m.nx B B' → st.m.nx ≤ st'.m.nx → Re w0 F B' st'.m.K.get (ext S st.m.nx st'.m.nx) w' → Ra B' T'.get n (ext S st.m.nx st'.m.nx) a' → a'.defers = [] → bdM (ext S st.m.nx st'.m.nx) u' → Q .normal a' ({ c₀ with mode := Qc4 B' u' } :: cs) w') →
    wpOpsS P ops Q l a ({ c₀ with mode := Qc4 B u } :: cs) w)
  | [], T, T', st, st', u, u', h => by
    simp only [Qii, Option.some.injEq, Prod.mk.injEq] at h
    obtain ⟨rfl, rfl, rfl⟩ := h
    exact ⟨Sfx.refl _, fun tr w0 F B S a w c₀ cs Q hS R A hd hu hQ => hQ B a w (Ag.refl _ _ _) (Nat.le_refl _) (by rw [Qal]; exact R) (by rw [Qal]; exact A) hd (by rw [Qal]; exact hu)⟩
  | i :: l, T, T', st, st', u, u', h => by
    simp only [Qii] at h
    cases ho : ops[i]? with
    | none =>
      rw [ho] at h
      obtain ⟨h1, h2⟩ := Qen hih l h
      refine ⟨h1, fun tr w0 F B S a w c₀ cs Q hS R A hd hu hQ => ?_⟩
      simp only [wpOpsS, ho]
      exact h2 tr w0 F B S a w c₀ cs Q hS R A hd hu hQ
    | some op =>
      rw [ho] at h
      simp only at h
      cases hw : QfB n T ops op st with
      | none => rw [hw] at h; cases h
      | some q =>
        obtain ⟨b, T1, st1⟩ := q
        rw [hw] at h
        obtain ⟨hm1, hsf1, hwant⟩ := QiD hw
        cases b with
        | false =>
          simp only at h
          obtain ⟨h1, h2⟩ := Qen hih l h
          refine ⟨hsf1.trans h1, fun tr w0 F B S a w c₀ cs Q hS R A hd hu hQ => ?_⟩
          obtain ⟨A1, hwa⟩ := hwant (h1.tru tr) B S a A
          simp only [wpOpsS, ho]
          rw [hwa]
          simp only [Bool.false_eq_true, if_false]
          have := h2 tr w0 F B S (a.put op.dst undef) w c₀ cs Q
          rw [hm1] at this
          exact this hS R (QjC A1 op.dst) (by rw [← hd]; cases op.dst <;> rfl) hu hQ
        | true =>
          simp only at h
          split at h
          · rename_i args ats hop
            have run : ∀ (a : Act) (w : World), (execOp a.eval op).run P w = .ok .recover w := fun a w => by
              unfold execOp
              simp only [hop, resolve, Sem.run_bind, Sem.run_pure, Result.andThen_ok, invoke, builtin]
            split at h
            · rename_i x
              obtain ⟨h1, h2⟩ := Qen hih l h
              refine ⟨hsf1.trans h1, fun tr w0 F B S a w c₀ cs Q hS R A hd hu hQ => ?_⟩
              obtain ⟨A1, hwa⟩ := hwant (h1.tru tr) B S a A
              simp only [wpOpsS, ho]
              rw [hwa, if_pos rfl, run]
              simp only [recoverD, Qc4, chn, ent]
              have := h2 tr w0 F B S (a.put op.dst (den B (hdP x))) w c₀ cs Q
              rw [hm1] at this
              exact this hS R (A1.putT op.dst (Qj_ hu)) (by rw [← hd]; cases op.dst <;> rfl) hu hQ
            · rename_i hne
              obtain ⟨h1, h2⟩ := Qen hih l h
              refine ⟨hsf1.trans h1, fun tr w0 F B S a w c₀ cs Q hS R A hd hu hQ => ?_⟩
              obtain ⟨A1, hwa⟩ := hwant (h1.tru tr) B S a A
              simp only [wpOpsS, ho]
              rw [hwa, if_pos rfl, run]
              have hrec : recoverD ({ c₀ with mode := Qc4 B u } :: cs) = none := by
                cases u with
                | ret => rfl
                | pan x => exact absurd rfl (hne x)
                | rcv x => rfl
              simp only [hrec]
              have := h2 tr w0 F B S (a.put op.dst .nilIface) w c₀ cs Q
              rw [hm1] at this
              have A2 := A1.putT op.dst (x := .v .nilIface) (by simp [bd])
              simp only [den] at A2
              exact this hS R A2 (by rw [← hd]; cases op.dst <;> rfl) hu hQ
          · split at h
            · rename_i x st2 hr
              have hok := Qb5 hih hr
              obtain ⟨h1, h2⟩ := Qen hih l h
              refine ⟨(hsf1.trans hok.1).trans h1, fun tr w0 F B S a w c₀ cs Q hS R A hd hu hQ => ?_⟩
              have tr2 := h1.tru tr
              obtain ⟨A1, hwa⟩ := hwant (hok.1.tru tr2) B S a A
              have hwp := hok.2 tr2 w0 F B S a w (fun a' w' => wpOpsS P ops Q l a' ({ c₀ with mode := Qc4 B u } :: cs) w') (fun e a' w' => Q e a' ({ c₀ with mode := Qc4 B u } :: cs) w') (by rw [hm1]; exact hS) (by rw [hm1]; exact R) (QgY A1) (by
                intro B' w' g1 g2 g3 g4
                rw [hm1] at g1 g2 g3 g4
                have := h2 tr w0 F B' (ext S st.m.nx st2.m.nx) (a.put op.dst (den B' x)) w' c₀ cs Q (QfW hS g2) g3 ((A1.ag (g1.on hS) QbU).putT op.dst g4) (by rw [← hd]; cases op.dst <;> rfl) (by cases u <;> first | trivial | exact QbZ QbU hu)
                have e : Qc4 B' u = Qc4 B u := Qij (g1.on hS) hu
                rw [e] at this
                refine this ?_
                intro B2 a2 w2 q1 q2 q3 q4 q5 q6
                rw [QdL g2 q2] at q3 q4 q6
                exact hQ B2 a2 w2 (g1.trans q1 g2 q2) (Nat.le_trans g2 q2) q3 q4 q5 q6)
              simp only [wpOpsS, ho]
              rw [hwa, if_pos rfl]
              unfold Oper.wp at hwp
              split
              · rename_i w' hrun
                rw [hrun] at hwp
                exact hwp.elim
              · exact hwp
            · cases h
theorem QjF (hih : Qbz P ih) {f : FuncId} {args : List SV} {u : Md} (h : QcG P kn dr ih (.dcall f args u) st = some o) : Qkj P (.dcall f args u) st o := by
  unfold QcG at h
  simp only at h
  cases hf : P.funcs[f]? with
  | none => rw [hf] at h; cases h
  | some fn =>
    rw [hf] at h
    simp only at h
    cases hb : fn.body with
    | none => rw [hb] at h; cases h
    | some c =>
      rw [hb] at h
      simp only at h
      have plain : Qif P fn u (ih (.run (fr0 f fn args) [.code c]) st) = some o → Qkj P (.dcall f args u) st o := by
        intro h
        obtain ⟨fr, st2, h1, hD, ⟨ys, hys⟩, rfl⟩ := ended_ok h
        have s1 := hih _ _ _ h1
        refine ⟨s1.1, trivial, fun tr w0 F B S w hS R hargs hu => ?_⟩
        have hc : c.wp P (bodyPost P fn fun e w' => ∃ B', Ag st.m.nx st2.m.nx B B' ∧ st.m.nx ≤ st2.m.nx ∧ Re w0 F B' st2.m.K.get (ext S st.m.nx st2.m.nx) w' ∧ ∃ v, e = .returned v) { tmps := (Qam B args).toArray ++ Array.replicate (fn.ntmps - (Qam B args).toArray.size) undef, defers := [] } w := by
          refine s1.2.2 tr w0 F B S _ w (bodyPost P fn _) hS R (QlR hargs) ?_
          intro B' a' w' g1 g2 g3 g4
          obtain ⟨h1, h2⟩ := Qgi g3 g4.ra hys
          have hfin : a'.defers = [] ∧ ∃ v, (results fn a'.tmps).run P w' = .ok v w' ∧ (∃ B', Ag st.m.nx st2.m.nx B B' ∧ st.m.nx ≤ st2.m.nx ∧ Re w0 F B' st2.m.K.get (ext S st.m.nx st2.m.nx) w' ∧ ∃ v', Ending.returned v = .returned v') := ⟨by rw [g4.df, hD]; rfl, _, h1, ⟨B', g1, g2, g3, _, rfl⟩⟩
          exact ⟨hfin, hfin⟩
        refine (callsD_of_wp hf hb (u := Qc4 B u) hc).mono ?_
        rintro e u' w' ⟨rfl, B', g1, g2, g3, v, rfl⟩
        exact ⟨B', g1, g2, g3, Or.inl ⟨⟨v, rfl⟩, (Qij (g1.on hS) hu).symm⟩, Qju QbU hu⟩
      split at h
      · rename_i id ops rest
        cases hr : Qja ops with
        | false => rw [hr] at h; exact plain h
        | true =>
          rw [hr] at h
          simp only at h
          split at h
          · rename_i T st1 u1 hd
            obtain ⟨d1, d2⟩ := Qen hih _ hd
            obtain ⟨fr, st2, hD, hcase⟩ := Ql1 h
            have he : ∃ en, ih (.run ⟨f, (fr0 f fn args).n, T, []⟩ [.code rest]) st1 = some ⟨.fr fr en, st2⟩ ∧ o.st = st2 := by
              rcases hcase with ⟨h1, _, rfl⟩ | ⟨x, h1, ⟨y, _, rfl⟩ | ⟨_, rfl⟩⟩ <;> exact ⟨_, h1, rfl⟩
            obtain ⟨en, h1, hst⟩ := he
            have s1 := hih _ _ _ h1
            refine ⟨by rw [hst]; exact d1.trans s1.1, trivial, fun tr w0 F B S w hS R hargs hu => ?_⟩
            rw [hst] at tr
            refine callsD_of_wpS hf hb fun c₀ cs hm => ?_
            refine wpS_seq (wpS_region ?_)
            have hA := QlR (B := B) (f := f) (fn := fn) hargs
            have e0 : c₀ = { c₀ with mode := Qc4 B u } := by rw [← hm]
            rw [e0]
            refine d2 (s1.1.tru tr) w0 F B S _ w c₀ cs _ hS R hA.ra hA.df hu ?_
            intro B' a' w' g1 g2 g3 g4 g5 g6
            show rest.wpS P _ a' _ w'
            refine wpS_of_wp ?_
            have A2 : Rf B' ⟨f, (fr0 f fn args).n, T, []⟩ (ext S st.m.nx st1.m.nx) a' := ⟨g4, by rw [g5]; rfl, fun d hd => by cases hd⟩
            refine s1.2.2 tr w0 F B' _ a' w' _ (QfW hS g2) g3 A2 ?_
            intro B2 a2 w2 q1 q2 q3
            have hsub : ∀ j, ext S st.m.nx st1.m.nx j → ext S st.m.nx st2.m.nx j := fun j hj => by rw [← QdL g2 q2]; exact Or.inl hj
            have hu2 : Qc4 B' u1 = Qc4 B2 u1 := (Qij (q1.on (QfW hS g2)) g6).symm
            have hb2 : bdM (ext S st.m.nx st2.m.nx) u1 := Qju hsub g6
            have q3' := q3
            rw [QdL g2 q2] at q3'
            rcases hcase with ⟨h1', ⟨ys, hys⟩, rfl⟩ | ⟨x, h1', hx⟩
            · rw [h1] at h1'
              simp only [Option.some.injEq, Ou.mk.injEq, En.fr.injEq, true_and, and_true] at h1'
              subst h1'
              intro q4
              obtain ⟨h1, h2⟩ := Qgi q3 q4.ra hys
              have : a2.defers = [] ∧ ∃ u', ({ c₀ with mode := Qc4 B' u1 } :: cs) = { c₀ with mode := u' } :: cs ∧ ∃ v, (results fn a2.tmps).run P w2 = .ok v w2 ∧ (∃ B', Ag st.m.nx st2.m.nx B B' ∧ st.m.nx ≤ st2.m.nx ∧ Re w0 F B' st2.m.K.get (ext S st.m.nx st2.m.nx) w2 ∧ (((∃ v', Ending.returned v = .returned v') ∧ u' = Qc4 B' u1 ∨ ∃ ch, Ending.returned v = .panicked ch ∧ raised u' ch = Qc4 B' u1 ∧ QcS u1 = u1) ∧ bdM (ext S st.m.nx st2.m.nx) u1)) :=
                ⟨by rw [q4.df, hD]; rfl, Qc4 B' u1, rfl, _, h1, B2, g1.trans q1 g2 q2, Nat.le_trans g2 q2, q3', Or.inl ⟨⟨_, rfl⟩, hu2⟩, hb2⟩
              exact ⟨this, this⟩
            · rw [h1] at h1'
              simp only [Option.some.injEq, Ou.mk.injEq, En.fr.injEq, true_and, and_true] at h1'
              subst h1'
              intro q4 q5
              rw [QdL g2 q2] at q5
              have fin : ∀ o2 : Md, raised (Qc4 B2 u1) (chn B2 false x) = Qc4 B2 o2 → QcS o2 = o2 → bdM (ext S st.m.nx st2.m.nx) o2 → a2.defers = [] ∧ ∃ u', ({ c₀ with mode := Qc4 B' u1 } :: cs) = { c₀ with mode := u' } :: cs ∧ (∃ B', Ag st.m.nx st2.m.nx B B' ∧ st.m.nx ≤ st2.m.nx ∧ Re w0 F B' st2.m.K.get (ext S st.m.nx st2.m.nx) w2 ∧ (((∃ v', Ending.panicked (chn B2 false x) = .returned v') ∧ u' = Qc4 B' o2 ∨ ∃ ch, Ending.panicked (chn B2 false x) = .panicked ch ∧ raised u' ch = Qc4 B' o2 ∧ QcS o2 = o2) ∧ bdM (ext S st.m.nx st2.m.nx) o2)) := by
                intro o2 h1 h2 h3
                exact ⟨by rw [q4.df, hD]; rfl, Qc4 B' u1, rfl, B2, g1.trans q1 g2 q2, Nat.le_trans g2 q2, q3', Or.inr ⟨_, rfl, by rw [hu2]; exact h1, h2⟩, h3⟩
              rcases hx with ⟨y, rfl, rfl⟩ | ⟨rfl, rfl⟩
              · exact fin (.pan (Qh7 x y)) (by simp only [Qc4, raised]; rw [chn_join]) rfl (joinP_bd q5 hb2)
              · exact fin (.pan x) rfl rfl q5
          · cases h
      · exact plain h
theorem QeV (hkn : QfE P kn) (hdr : DrOk P dr) (hih : Qbz P ih) : Qbz P (QcG P kn dr ih) := by
  intro j st o h
  cases j with
  | call f args => exact QkH hkn hih h
  | run fr k => exact step_run hdr hih h
  | leave fr u => exact QjE hih h
  | dcall f args u => exact QjF hih h
def midJ (P : Program) (kn : KnG) (dr : Dr) (big : Job → St → Option Ou) (m : Nat) : Job → St → Option Ou :=
  Nat.rec (motive := fun _ => Job → St → Option Ou) (fun j st => match j with
    | .run fr k => some ⟨.mid fr k, st⟩
    | j => big j st) (fun _ ih j st => match j with
    | .run fr k => QcG P kn dr ih (.run fr k) st
    | j => big j st) m
theorem QjX (hkn : QfE P kn) (hdr : DrOk P dr) {big : Job → St → Option Ou} (hbig : Qbz P big) : ∀ m, Qbz P (midJ P kn dr big m)
  | 0 => fun j st o h => by
    cases j with
    | run fr k =>
      obtain rfl : (⟨.mid fr k, st⟩ : Ou) = o := Option.some.inj h
      refine ⟨Sfx.refl _, rfl, fun tr w0 F B S a w Q hS R A hf => ?_⟩
      have := hf B a w (Ag.refl _ _ _) (Nat.le_refl _) (by rw [Qal]; exact R)
      simp only [Qal] at this
      exact this A
    | call f args => exact hbig _ _ _ h
    | leave fr u => exact hbig _ _ _ h
    | dcall f args u => exact hbig _ _ _ h
  | m + 1 => fun j st o h => by
    cases j with
    | run fr k => exact QeV hkn hdr (QjX hkn hdr hbig m) _ _ _ h
    | call f args => exact hbig _ _ _ h
    | leave fr u => exact hbig _ _ _ h
    | dcall f args u => exact hbig _ _ _ h
theorem Qhh (hkn : QfE P kn) (hdr : DrOk P dr) : ∀ n, Qbz P (goJ P kn dr n)
  | 0 => fun j st o h => by cases h
  | n + 1 => QeV hkn hdr (Qhh hkn hdr n)
theorem QlY (hkn : QfE P kn) (hdr : DrOk P dr) (n : Nat) {f : FuncId} {args : List SV} {orc : List Value} {x : SV} {m : Mm} {orc' : List Value} {cnd : List (Value × Value)} {w : World}
    (h : goJ P kn dr n (.call f args) ⟨⟨.leaf, 0, []⟩, orc, []⟩ = some ⟨.ret x, ⟨m, orc', cnd⟩⟩) (hb : bdL (fun _ => False) args) (hc : Tru cnd) (hfc : FcAt w) :
    Calls P f (Qam (fun _ => (0, 0)) args).toArray w fun e w' => ∃ B, e = .returned (den B x) ∧ Re w [] B m.K.get (fun j => j < m.nx) w' ∧ Below w.heap.size w w' := by
  have s := Qhh hkn hdr n _ _ _ h
  refine (s.2.2 hc w [] (fun _ => (0, 0)) (fun _ => False) w (fun _ h => h.elim) ⟨fun i k h => by simp [Tr.get_leaf] at h, fun i j ki kj h => by simp [Tr.get_leaf] at h, fun i k h => by simp [Tr.get_leaf] at h, fun f hf => by simp at hf, ⟨rfl, rfl, rfl, Nat.le_refl _, fun _ _ _ => rfl⟩, hfc⟩ hb).mono ?_
  rintro e w' ⟨B, g1, g2, g3, g4, g5⟩
  refine ⟨B, g4, ?_, ⟨g3.gr.1.os, g3.gr.1.tape, g3.gr.1.output, g3.gr.1.size, fun k hk => g3.gr.1.block k hk (by simp)⟩⟩
  have e : ext (fun _ => False) 0 m.nx = fun j => j < m.nx := by funext j; apply propext; simp [ext]
  simp only at g3
  rw [e] at g3
  exact g3
def knNone : Kn := fun _ _ => none
theorem Qhb {P : Program} : KnOk P knNone := fun _ _ _ _ h => by cases h
end
noncomputable def ver {α : Type} (tch : Nat → Nat → Prop) (V : Nat → Nat → Option α) (X : Nat → Prop) : Nat → Nat → Option α
  | 0, j => V 0 j
  | m + 1, j => open Classical in if X m ∧ tch m j then V (m + 1) j else ver tch V X m j
section
variable {α : Type} {tch : Nat → Nat → Prop} {V : Nat → Nat → Option α} {pr : Nat → Nat → Prop} {X : Nat → Prop} {N : Nat}
theorem Qf6 (hV : ∀ m j, m < N → ¬tch m j → V (m + 1) j = V m j) {j : Nat} : ∀ m, m ≤ N → (∀ q, q < m → tch q j → X q) → ver tch V X m j = V m j
  | 0, _, _ => rfl
  | m + 1, hm, h => by
    rw [ver]
    by_cases ht : tch m j
    · rw [if_pos ⟨h m (by omega) ht, ht⟩]
    · rw [if_neg (fun e => ht e.2), Qf6 hV m (by omega) (fun q hq => h q (by omega)), hV m j (by omega) ht]
theorem QdQ {j i : Nat} : ∀ m, i ≤ m → (∀ q, i ≤ q → q < m → X q → ¬tch q j) → ver tch V X m j = ver tch V X i j
  | 0, hm, h => by have : i = 0 := by omega
                   subst this; rfl
  | m + 1, hm, h => by
    by_cases e : i = m + 1
    · subst e; rfl
    · rw [ver, if_neg (fun e' => h m (by omega) (by omega) e'.1 e'.2), QdQ m (by omega) (fun q hq hq' => h q hq (by omega))]
theorem Qkw (hV : ∀ m j, m < N → ¬tch m j → V (m + 1) j = V m j) (hpr : ∀ k i, pr k i → k < i) (hX : ∀ i, i < N → X i → ∀ k, pr k i → X k) {i j : Nat} (hi : i < N) (hni : ¬X i) (hp : ∀ k, pr k i → X k)
    (ho : ∀ m, m < N → tch m j → m = i ∨ pr m i ∨ pr i m) : ver tch V X N j = V i j := by
  rw [QdQ (i := i) N (by omega) ?_, Qf6 hV i (by omega) ?_]
  · intro q hq ht
    rcases ho q (by omega) ht with h | h | h
    · omega
    · exact hp q h
    · have := hpr _ _ h; omega
  · intro q hq hq' hXq ht
    rcases ho q hq' ht with h | h | h
    · subst h; exact hni hXq
    · have := hpr _ _ h; omega
    · exact hni (hX q hq' hXq i h)
theorem Qkx (hpr : ∀ k i, pr k i → k < i) (hX : ∀ i, i < N → X i → ∀ k, pr k i → X k) {i j : Nat} (hi : i < N) (hni : ¬X i) (hT : ∀ i m j, i < m → m < N → tch i j → tch m j → pr i m) :
    ver tch V (fun k => X k ∨ k = i) N j = open Classical in if tch i j then V (i + 1) j else ver tch V X N j := by
  have lo : ∀ m, m ≤ i → ver tch V (fun k => X k ∨ k = i) m j = ver tch V X m j := by
    intro m
    induction m with
    | zero => intro _; rfl
    | succ m ih =>
      intro hm
      have hne : m ≠ i := by omega
      rw [ver, ver, ih (by omega)]
      have e1 : (X m ∨ m = i) ∧ tch m j ↔ X m ∧ tch m j := by simp [hne]
      by_cases h : X m ∧ tch m j
      · rw [if_pos (e1.2 h), if_pos h]
      · rw [if_neg (fun q => h (e1.1 q)), if_neg h]
  have hi1 : ∀ m, i < m → m ≤ N → ver tch V (fun k => X k ∨ k = i) m j = open Classical in if tch i j then V (i + 1) j else ver tch V X m j := by
    intro m
    induction m with
    | zero => intro h; omega
    | succ m ih =>
      intro hm hmN
      by_cases e : m = i
      · subst e
        rw [ver, ver, lo m (Nat.le_refl _)]
        by_cases ht : tch m j
        · simp [ht]
        · simp [ht]
      · have hlt : i < m := by omega
        rw [ver, ver, ih hlt (by omega)]
        have e1 : (X m ∨ m = i) ∧ tch m j ↔ X m ∧ tch m j := by simp [e]
        by_cases h : X m ∧ tch m j
        · rw [if_pos (e1.2 h), if_pos h]
          by_cases ht : tch i j
          · exact absurd (hX m (by omega) h.1 i (hT i m j hlt (by omega) ht h.2)) hni
          · rw [if_neg ht]
        · rw [if_neg (fun q => h (e1.1 q)), if_neg h]
  exact hi1 N (by omega) (Nat.le_refl _)
end
structure Cert (P : Program) (ops : Array Oper) (w0 : World) (F : List RF) (S0 : Nat → Prop) (n : Nat) (Q : Exit → Act → World → Prop) where
  nx : Nat → Nat
  V : Nat → Nat → Option Bx
  T : Nat → Nat → Option SV
  x : Nat → SV
  pr : Nat → Nat → Prop
  tch : Nat → Nat → Prop
  Ki : Nat → Nat → Option Bx
  Ti : Nat → Nat → Option SV
  nx_le : ∀ i, i < ops.size → nx i ≤ nx (i + 1)
  s0 : ∀ j, S0 j → j < nx 0
  pr_lt : ∀ k i, pr k i → k < i
  pr_tr : ∀ k m i, pr k m → pr m i → pr k i
  edge : ∀ (i : Nat) (o : Oper), ops[i]? = some o → ∀ k, pr k i → ∃ e ∈ o.after, Region.binds .any e = true ∧ (k = e.on ∨ pr k e.on)
  edge_lt : ∀ (i : Nat) (o : Oper), ops[i]? = some o → ∀ e ∈ o.after, Region.binds .any e = true → e.on < i
  hV : ∀ m j, m < ops.size → ¬tch m j → V (m + 1) j = V m j
  hT : ∀ i m j, i < m → m < ops.size → tch i j → tch m j → pr i m
  made : ∀ i j, i < ops.size → nx i ≤ j → j < nx (i + 1) → tch i j
  dst_lt : ∀ (i : Nat) (o : Oper) (d : Nat), ops[i]? = some o → o.dst = some d → d < n
  hTt : ∀ (m : Nat) (o : Oper) (t : Nat), ops[m]? = some o → T (m + 1) t = if o.dst = some t then some (x m) else T m t
  dst_one : ∀ (i m : Nat) (o p : Oper) (d : Nat), ops[i]? = some o → ops[m]? = some p → o.dst = some d → p.dst = some d → i = m
  ki : ∀ i j b, i < ops.size → Ki i j = some b → V i j = some b ∧ (S0 j ∨ ∃ k, pr k i ∧ nx k ≤ j ∧ j < nx (k + 1)) ∧ ∀ m, m < ops.size → tch m j → m = i ∨ pr m i ∨ pr i m
  ti : ∀ i t v, i < ops.size → Ti i t = some v → T i t = some v ∧ ∀ (m : Nat) (o : Oper), ops[m]? = some o → o.dst = some t → m = i ∨ pr m i ∨ pr i m
  G : Pl → Act → Prop
  dd : Nat → Prop
  eff : ∀ (i : Nat) (o : Oper) (B : Pl) (a : Act) (w : World) (F' : List RF) (K : Act → World → Prop), ops[i]? = some o → ¬dd i → (∀ k, pr k i → ¬dd k) → (∀ f ∈ F, f ∈ F') → Re w0 F' B (Ki i) (fun j => S0 j ∨ ∃ k, pr k i ∧ nx k ≤ j ∧ j < nx (k + 1)) w →
    (∀ t v, Ti i t = some v → a.tmps[t]? = some (den B v) ∧ bd (fun j => S0 j ∨ ∃ k, pr k i ∧ nx k ≤ j ∧ j < nx (k + 1)) v) →
    (∀ B' w', Ag (nx i) (nx (i + 1)) B B' → Re w0 F' B' (fun j => open Classical in if tch i j then V (i + 1) j else Ki i j) (ext (fun j => S0 j ∨ ∃ k, pr k i ∧ nx k ≤ j ∧ j < nx (k + 1)) (nx i) (nx (i + 1))) w' →
      bd (ext (fun j => S0 j ∨ ∃ k, pr k i ∧ nx k ≤ j ∧ j < nx (k + 1)) (nx i) (nx (i + 1))) (x i) → K (a.put o.dst (den B' (x i))) w') → wpOp P ops Q i K a w
  effd : ∀ (i : Nat) (o : Oper) (B : Pl) (a : Act) (w : World) (F' : List RF) (K : Act → World → Prop), ops[i]? = some o → dd i → (∀ k, pr k i → ¬dd k) → (∀ f ∈ F, f ∈ F') → Re w0 F' B (Ki i) (fun j => S0 j ∨ ∃ k, pr k i ∧ nx k ≤ j ∧ j < nx (k + 1)) w →
    (∀ t v, Ti i t = some v → a.tmps[t]? = some (den B v) ∧ bd (fun j => S0 j ∨ ∃ k, pr k i ∧ nx k ≤ j ∧ j < nx (k + 1)) v) → G B a → wpOp P ops Q i K a w
namespace Cert
variable {P : Program} {ops : Array Oper} {w0 : World} {F : List RF} {S0 : Nat → Prop} {n : Nat} {Q : Exit → Act → World → Prop} (C : Cert P ops w0 F S0 n Q)
def Sv (i : Nat) : Nat → Prop := fun j => S0 j ∨ ∃ k, C.pr k i ∧ C.nx k ≤ j ∧ j < C.nx (k + 1)
def Sx (X : Nat → Prop) : Nat → Prop := fun j => S0 j ∨ ∃ k, k < ops.size ∧ X k ∧ C.nx k ≤ j ∧ j < C.nx (k + 1)
def dt {ops : Array Oper} (m t : Nat) : Prop := ∃ o, ops[m]? = some o ∧ o.dst = some t
noncomputable def KX (X : Nat → Prop) : Nat → Option Bx := ver C.tch C.V X ops.size
noncomputable def TX (X : Nat → Prop) : Nat → Option SV := ver (dt (ops := ops)) C.T X ops.size
structure Inv (B0 : Pl) (X : Nat → Prop) (D : List Deferred) (B : Pl) (a : Act) (w : World) : Prop where
  ag : Ag (C.nx 0) (C.nx ops.size) B0 B
  cl : ∀ i, i < ops.size → X i → ∀ k, C.pr k i → X k
  xb : ∀ k, k < ops.size → X k → bd (ext (C.Sv k) (C.nx k) (C.nx (k + 1))) (C.x k)
  vb : ∀ k j b, k < ops.size → X k → C.tch k j → C.V (k + 1) j = some b → ext (C.Sv k) (C.nx k) (C.nx (k + 1)) j ∧ bdK (ext (C.Sv k) (C.nx k) (C.nx (k + 1))) b
  re : Re w0 F B (C.KX X) (C.Sx X) w
  ra : Ra B (C.TX X) n (C.Sx X) a
  df : a.defers = D
  nd : ∀ k, k < ops.size → X k → ¬C.dd k
theorem nx_mono {i k : Nat} (h : i ≤ k) (hk : k ≤ ops.size) : C.nx i ≤ C.nx k := by
  induction k with
  | zero => have : i = 0 := by omega
            subst this; exact Nat.le_refl _
  | succ k ih =>
    by_cases e : i = k + 1
    · subst e; exact Nat.le_refl _
    · exact Nat.le_trans (ih (by omega) (by omega)) (C.nx_le k (by omega))
theorem sv_up {k i : Nat} (h : C.pr k i) : ∀ j, ext (C.Sv k) (C.nx k) (C.nx (k + 1)) j → C.Sv i j := by
  rintro j (h1 | h1)
  · rcases h1 with h1 | ⟨m, h1, h2⟩
    · exact Or.inl h1
    · exact Or.inr ⟨m, C.pr_tr m k i h1 h, h2⟩
  · exact Or.inr ⟨k, h, h1⟩
theorem sv_sx {X : Nat → Prop} {i : Nat} (hi : i < ops.size) (h : ∀ k, C.pr k i → X k) : ∀ j, C.Sv i j → C.Sx X j := by
  rintro j (h1 | ⟨k, h1, h2⟩)
  · exact Or.inl h1
  · exact Or.inr ⟨k, Nat.lt_trans (C.pr_lt k i h1) hi, h k h1, h2⟩
theorem sx_out {X : Nat → Prop} {i : Nat} (hi : i < ops.size) (hni : ¬X i) : ∀ j, C.Sx X j → j < C.nx i ∨ C.nx (i + 1) ≤ j := by
  rintro j (h | ⟨k, hk, h1, h2, h3⟩)
  · exact Or.inl (Nat.lt_of_lt_of_le (C.s0 j h) (C.nx_mono (Nat.zero_le _) (by omega)))
  · by_cases e : k < i
    · exact Or.inl (Nat.lt_of_lt_of_le h3 (C.nx_mono (by omega) (by omega)))
    · have : k ≠ i := fun e => hni (e ▸ h1)
      exact Or.inr (Nat.le_trans (C.nx_mono (by omega) (by omega)) h2)
theorem see_bd {B0 : Pl} {X : Nat → Prop} {D : List Deferred} {B : Pl} {a : Act} {w : World} (I : C.Inv B0 X D B a w) (h0 : ∀ j b, C.V 0 j = some b → S0 j ∧ bdK S0 b) {i j : Nat} {b : Bx} (hi : i < ops.size) (hp : ∀ k, C.pr k i → X k) :
    ∀ m, m ≤ i → (∀ q, q < m → C.tch q j → C.pr q i) → C.V m j = some b → bdK (C.Sv i) b
  | 0, _, _, h => Qce (fun _ h => Or.inl h) (h0 j b h).2
  | m + 1, hm, hq, h => by
    by_cases ht : C.tch m j
    · have hpm := hq m (by omega) ht
      exact Qce (C.sv_up hpm) (I.vb m j b (by omega) (hp m hpm) ht h).2
    · rw [C.hV m j (by omega) ht] at h
      exact see_bd I h0 hi hp m (by omega) (fun q hq' => hq q (by omega)) h
theorem see_bdT {B0 : Pl} {X : Nat → Prop} {D : List Deferred} {B : Pl} {a : Act} {w : World} (I : C.Inv B0 X D B a w) (h0 : ∀ t v, C.T 0 t = some v → bd S0 v) {i t : Nat} {v : SV} (hi : i < ops.size) (hp : ∀ k, C.pr k i → X k) :
    ∀ m, m ≤ i → (∀ q, q < m → dt (ops := ops) q t → C.pr q i) → C.T m t = some v → bd (C.Sv i) v
  | 0, _, _, h => QbZ (fun _ h => Or.inl h) (h0 t v h)
  | m + 1, hm, hq, h => by
    obtain ⟨o, ho⟩ : ∃ o, ops[m]? = some o := ⟨_, Array.getElem?_eq_getElem (by omega)⟩
    rw [C.hTt m o t ho] at h
    by_cases ht : o.dst = some t
    · rw [if_pos ht] at h
      simp only [Option.some.injEq] at h
      subst h
      have hpm := hq m (by omega) ⟨o, ho, ht⟩
      exact QbZ (C.sv_up hpm) (I.xb m (by omega) (hp m hpm))
    · rw [if_neg ht] at h
      exact see_bdT I h0 hi hp m (by omega) (fun q hq' => hq q (by omega)) h
noncomputable def rest (X : Nat → Prop) (B : Pl) (i : Nat) : RF :=
  ⟨fun b => ∃ j k, C.KX X j = some k ∧ C.Ki i j = none ∧ (B j).1 = b, fun w => ∀ j k, C.KX X j = some k → C.Ki i j = none → ∃ r, Qe4 (B j).2 k r ∧ w.heap[(B j).1]? = some (Qcd B k r),
    fun w h b ⟨j, k, h1, h2, h3⟩ => by
      obtain ⟨r, _, hr⟩ := h j k h1 h2
      rw [h3] at hr
      exact (Array.getElem?_eq_some_iff.1 hr).1,
    fun w w' h hb j k h1 h2 => by
      obtain ⟨r, hr1, hr2⟩ := h j k h1 h2
      exact ⟨r, hr1, by rw [hb _ ⟨j, k, h1, h2, rfl⟩]; exact hr2⟩⟩
theorem step {B0 : Pl} {X : Nat → Prop} {D : List Deferred} {B : Pl} {a : Act} {w : World} (I : C.Inv B0 X D B a w) (h0 : ∀ j b, C.V 0 j = some b → S0 j ∧ bdK S0 b) (h0T : ∀ t v, C.T 0 t = some v → bd S0 v) {i : Nat} {o : Oper} (ho : ops[i]? = some o)
    (hni : ¬X i) (hp : ∀ k, C.pr k i → X k) (hG : C.G B a) {K : Act → World → Prop} (hK : ∀ B' a' w', C.Inv B0 (fun k => X k ∨ k = i) D B' a' w' → K a' w') : wpOp P ops Q i K a w := by
  have hi : i < ops.size := (Array.getElem?_eq_some_iff.1 ho).1
  have see : ∀ j b, C.Ki i j = some b → C.KX X j = some b := fun j b h => by
    obtain ⟨h1, _, h3⟩ := C.ki i j b hi h
    rw [← h1]
    exact Qkw (pr := C.pr) C.hV C.pr_lt I.cl hi hni hp h3
  have seeT : ∀ t v, C.Ti i t = some v → C.TX X t = some v := fun t v h => by
    obtain ⟨h1, h3⟩ := C.ti i t v hi h
    rw [← h1]
    refine Qkw (pr := C.pr) (fun m j hm hn => ?_) C.pr_lt I.cl hi hni hp (fun m hm ⟨o', ho', hd⟩ => h3 m o' ho' hd)
    obtain ⟨o', ho'⟩ : ∃ o', ops[m]? = some o' := ⟨_, Array.getElem?_eq_getElem hm⟩
    rw [C.hTt m o' j ho', if_neg (fun e => hn ⟨o', ho', e⟩)]
  have hord : ∀ q, q < i → (q = i ∨ C.pr q i ∨ C.pr i q) → C.pr q i := fun q hq h => by
    rcases h with h | h | h
    · omega
    · exact h
    · have := C.pr_lt _ _ h; omega
  have Rin : Re w0 (C.rest X B i :: F) B (C.Ki i) (C.Sv i) w := by
    refine ⟨fun j b h => ?_, fun p q kp kq h1 h2 => I.re.nd p q kp kq (see _ _ h1) (see _ _ h2), fun j b h => I.re.lo j b (see _ _ h), fun f hf => ?_, I.re.gr⟩
    · obtain ⟨h1, h2, h3⟩ := C.ki i j b hi h
      obtain ⟨_, _, r, g1, g2⟩ := I.re.bx j b (see _ _ h)
      exact ⟨h2, C.see_bd I h0 hi hp i (Nat.le_refl _) (fun q hq ht => hord q hq (h3 q (by omega) ht)) h1, r, g1, g2⟩
    · rcases List.mem_cons.1 hf with rfl | hf
      · refine ⟨fun j k h1 h2 => ?_, fun j k h => ?_⟩
        · obtain ⟨_, _, r, g1, g2⟩ := I.re.bx j k h1
          exact ⟨r, g1, g2⟩
        · rintro ⟨j', k', h1, h2, h3⟩
          have := I.re.nd _ _ _ _ h1 (see _ _ h) h3
          rw [this, h] at h2
          cases h2
      · exact ⟨(I.re.fs f hf).1, fun j k h => (I.re.fs f hf).2 j k (see _ _ h)⟩
  have hsl : ∀ t v, C.Ti i t = some v → a.tmps[t]? = some (den B v) ∧ bd (C.Sv i) v := fun t v h => by
    obtain ⟨h1, h3⟩ := C.ti i t v hi h
    exact ⟨(I.ra.tm t v (seeT t v h)).1, C.see_bdT I h0T hi hp i (Nat.le_refl _) (fun q hq ⟨o', ho', hd⟩ => hord q hq (h3 q o' ho' hd)) h1⟩
  have hnd : ∀ k, C.pr k i → ¬C.dd k := fun k hk => I.nd k (Nat.lt_trans (C.pr_lt k i hk) hi) (hp k hk)
  by_cases hdi : C.dd i
  · exact C.effd i o B a w (C.rest X B i :: F) K ho hdi hnd (fun f hf => List.mem_cons_of_mem _ hf) Rin hsl hG
  refine C.eff i o B a w (C.rest X B i :: F) K ho hdi hnd (fun f hf => List.mem_cons_of_mem _ hf) Rin hsl ?_
  · intro B' w' hag R' hx
    have hout : ∀ j, C.Sx X j → B' j = B j := fun j hj => hag j (C.sx_out hi hni j hj)
    have hsub : ∀ j, C.Sx X j → C.Sx (fun k => X k ∨ k = i) j := by
      rintro j (h | ⟨k, hk, h1, h2⟩)
      · exact Or.inl h
      · exact Or.inr ⟨k, hk, Or.inl h1, h2⟩
    have hsubi : ∀ j, ext (C.Sv i) (C.nx i) (C.nx (i + 1)) j → C.Sx (fun k => X k ∨ k = i) j := by
      rintro j (h | h)
      · exact hsub j (C.sv_sx hi hp j h)
      · exact Or.inr ⟨i, hi, Or.inr rfl, h⟩
    have hKX : ∀ j, C.KX (fun k => X k ∨ k = i) j = open Classical in if C.tch i j then C.V (i + 1) j else C.KX X j := fun j => Qkx (pr := C.pr) C.pr_lt I.cl hi hni C.hT
    have hTX : ∀ t, C.TX (fun k => X k ∨ k = i) t = if o.dst = some t then some (C.x i) else C.TX X t := fun t => by
      have := Qkx (pr := C.pr) (tch := dt (ops := ops)) (V := C.T) (X := X) (N := ops.size) (i := i) (j := t) C.pr_lt I.cl hi hni (fun i m j him hm ⟨o1, h1, h2⟩ ⟨o2, h3, h4⟩ => by
        have := C.dst_one i m o1 o2 j h1 h3 h2 h4; omega)
      rw [TX, this]
      by_cases e : o.dst = some t
      · rw [if_pos ⟨o, ho, e⟩, if_pos e, C.hTt i o t ho, if_pos e]
      · rw [if_neg (fun ⟨o', h1, h2⟩ => by rw [ho] at h1; simp only [Option.some.injEq] at h1; subst h1; exact e h2), if_neg e]; rfl
    -- where a name lies
    have parts : ∀ j b, C.KX (fun k => X k ∨ k = i) j = some b → (open Classical in (if C.tch i j then C.V (i + 1) j else C.Ki i j)) = some b ∨ (C.KX X j = some b ∧ C.Ki i j = none ∧ ¬C.tch i j) := fun j b h => by
      rw [hKX] at h
      by_cases ht : C.tch i j
      · rw [if_pos ht] at h ⊢; exact Or.inl h
      · rw [if_neg ht] at h ⊢
        cases hk : C.Ki i j with
        | none => exact Or.inr ⟨h, rfl, ht⟩
        | some b' => have := see _ _ hk; rw [h] at this; exact Or.inl this.symm
    have hrest := (R'.fs _ (List.mem_cons_self ..))
    have hB2 : ∀ j b, C.KX X j = some b → B' j = B j := fun j b h => hout j (I.re.bx j b h).1
    refine hK B' _ w' ⟨fun j hj => (hag j (by have := C.nx_mono (Nat.zero_le i) (by omega); have := C.nx_mono (by omega : i + 1 ≤ ops.size) (Nat.le_refl _); omega)).trans (I.ag j hj), fun k hk hXk q hq => ?_, fun k hk hXk => ?_, fun k j b hk hXk ht hv => ?_, ⟨fun j b h => ?_, fun p q kp kq h1 h2 he => ?_, fun j b h => ?_, fun f hf => ?_, R'.gr⟩, ⟨?_, fun t v h => ?_⟩, ?_, fun k hk hXk => ?_⟩
    · rcases hXk with h | rfl
      · exact Or.inl (I.cl k hk h q hq)
      · exact Or.inl (hp q hq)
    · rcases hXk with h | rfl
      · exact I.xb k hk h
      · exact hx
    · rcases hXk with h | rfl
      · exact I.vb k j b hk h ht hv
      · have := R'.bx j b (by simp only [if_pos ht]; exact hv)
        exact ⟨this.1, this.2.1⟩
    · rcases parts j b h with h1 | ⟨h1, h2, h3⟩
      · obtain ⟨g1, g2, r, g3, g4⟩ := R'.bx j b h1
        exact ⟨hsubi j g1, Qce hsubi g2, r, g3, g4⟩
      · obtain ⟨g1, g2, _⟩ := I.re.bx j b h1
        obtain ⟨r, g3, g4⟩ := hrest.1 j b h1 h2
        exact ⟨hsub j g1, Qce hsub g2, r, by rw [hout j g1]; exact g3, by rw [hout j g1, QdX hout g2]; exact g4⟩
    · rcases parts p kp h1 with h1 | ⟨h1, h1', _⟩ <;> rcases parts q kq h2 with h2 | ⟨h2, h2', _⟩
      · exact R'.nd p q kp kq h1 h2 he
      · exact absurd ⟨q, kq, h2, h2', by rw [he, hB2 q kq h2]⟩ (hrest.2 p kp h1)
      · exact absurd ⟨p, kp, h1, h1', by rw [← he, hB2 p kp h1]⟩ (hrest.2 q kq h2)
      · rw [hB2 p kp h1, hB2 q kq h2] at he
        exact I.re.nd p q kp kq h1 h2 he
    · rcases parts j b h with h1 | ⟨h1, h2, _⟩
      · exact R'.lo j b h1
      · rw [hB2 j b h1]; exact I.re.lo j b h1
    · refine ⟨(R'.fs f (List.mem_cons_of_mem _ hf)).1, fun j b h => ?_⟩
      rcases parts j b h with h1 | ⟨h1, h2, _⟩
      · exact (R'.fs f (List.mem_cons_of_mem _ hf)).2 j b h1
      · rw [hB2 j b h1]; exact (I.re.fs f hf).2 j b h1
    · cases o.dst <;> simp [Act.put, I.ra.sz]
    · rw [hTX] at h
      by_cases e : o.dst = some t
      · rw [if_pos e] at h
        simp only [Option.some.injEq] at h
        subst h
        have hlt := C.dst_lt i o t ho e
        exact ⟨by rw [e]; simp [Act.put, I.ra.sz, hlt], QbZ hsubi hx⟩
      · rw [if_neg e] at h
        obtain ⟨g1, g2⟩ := I.ra.tm t v h
        refine ⟨?_, QbZ hsub g2⟩
        rw [Qf0 hout g2]
        cases hd : o.dst with
        | none => exact g1
        | some d =>
          have : d ≠ t := fun q => e (by rw [hd, q])
          simp only [Act.put]
          rw [Array.getElem?_setIfInBounds_ne this]
          exact g1
    · rw [← I.df]; cases o.dst <;> rfl
    · rcases hXk with h | rfl
      · exact I.nd k hk h
      · exact hdi
theorem any {B0 : Pl} {D : List Deferred} (h0 : ∀ j b, C.V 0 j = some b → S0 j ∧ bdK S0 b) (h0T : ∀ t v, C.T 0 t = some v → bd S0 v) (hG : ∀ X B a w, C.Inv B0 X D B a w → C.G B a) (hQ : ∀ B a w X, (∀ i, i < ops.size → X i) → C.Inv B0 X D B a w → Q .normal a w) :
    ∀ (fuel : Nat) (listed : Array Bool) (B : Pl) (a : Act) (w : World), listed.size = ops.size → ops.size ≤ fuel + listed.toList.countP id → C.Inv B0 (fun k => listed.getD k false = true) D B a w → wpAny P .any ops Q fuel listed a w := by
  have all : ∀ listed : Array Bool, listed.size = ops.size → Region.ready .any ops listed = [] → ∀ i, i < ops.size → listed.getD i false = true := by
    intro listed hs hr i
    induction i using Nat.strongRecOn with
    | _ i ih =>
      intro hi
      cases hl : listed.getD i false with
      | true => rfl
      | false =>
        obtain ⟨o, ho⟩ : ∃ o, ops[i]? = some o := ⟨_, Array.getElem?_eq_getElem hi⟩
        have : i ∈ Region.ready .any ops listed := mem_ready.2 ⟨by
          simp only [Array.getD_eq_getD_getElem?] at hl ⊢
          rw [Array.getElem?_eq_getElem (by omega)] at hl ⊢
          exact hl, o, ho, fun e he hb => ih e.on (C.edge_lt i o ho e he hb) (by have := C.edge_lt i o ho e he hb; omega)⟩
        rw [hr] at this
        cases this
  intro fuel
  induction fuel with
  | zero =>
    intro listed B a w hs hc I
    have hall : ∀ i, i < ops.size → listed.getD i false = true := by
      intro i hi
      have hle := List.countP_le_length (p := id) (l := listed.toList)
      rw [Array.length_toList] at hle
      have heq : listed.toList.countP id = listed.toList.length := by rw [Array.length_toList]; omega
      have := List.countP_eq_length.1 heq
      simp only [Array.getD_eq_getD_getElem?]
      rw [Array.getElem?_eq_getElem (by omega)]
      exact this _ (by simp)
    refine ⟨?_, hQ B a w _ hall I⟩
    apply List.eq_nil_iff_forall_not_mem.2
    intro j hj
    obtain ⟨h1, o, h2, _⟩ := mem_ready.1 hj
    have := hall j (Array.getElem?_eq_some_iff.1 h2).1
    have hj' : j < listed.size := by rw [hs]; exact (Array.getElem?_eq_some_iff.1 h2).1
    simp only [Array.getD_eq_getD_getElem?] at h1 this
    rw [Array.getElem?_eq_getElem hj'] at h1 this
    simp at h1 this
    rw [h1] at this
    cases this
  | succ fuel ih =>
    intro listed B a w hs hc I
    refine ⟨fun hr => hQ B a w _ (all listed hs hr) I, fun i hi => ?_⟩
    obtain ⟨h1, o, ho, he⟩ := mem_ready.1 hi
    have hil : i < listed.size := by rw [hs]; exact (Array.getElem?_eq_some_iff.1 ho).1
    have hlf : listed[i] = false := by
      simp only [Array.getD_eq_getD_getElem?] at h1
      rw [Array.getElem?_eq_getElem hil] at h1
      simpa using h1
    refine C.step I h0 h0T ho ?_ ?_ (hG _ _ _ _ I) ?_
    · simp only [Array.getD_eq_getD_getElem?]
      rw [Array.getElem?_eq_getElem hil]
      simp [hlf]
    · intro k hk
      obtain ⟨e, he1, he2, he3⟩ := C.edge i o ho k hk
      rcases he3 with rfl | he3
      · exact he e he1 he2
      · exact I.cl e.on (by have := C.edge_lt i o ho e he1 he2; have := (Array.getElem?_eq_some_iff.1 ho).1; omega) (he e he1 he2) k he3
    · intro B' a' w' I'
      refine ih (listed.setIfInBounds i true) B' a' w' (by simp [hs]) ?_ ?_
      · have hcs := List.countP_set (p := id) (l := listed.toList) (i := i) (a := true) (by simpa using hil)
        have hle : listed.toList.countP id < listed.toList.length := by
          rcases Nat.lt_or_ge (listed.toList.countP id) listed.toList.length with h | h
          · exact h
          · have heq : listed.toList.countP id = listed.toList.length := Nat.le_antisymm (List.countP_le_length) h
            have := List.countP_eq_length.1 heq listed[i] (by simp)
            rw [hlf] at this
            cases this
        simp only [Array.toList_setIfInBounds]
        rw [hcs]
        have e1 : (if id listed.toList[i] = true then 1 else 0) = 0 := by simp [hlf]
        have e2 : (if id true = true then 1 else 0) = 1 := rfl
        rw [e1, e2]
        omega
      · have e : (fun k => (listed.setIfInBounds i true).getD k false = true) = fun k => listed.getD k false = true ∨ k = i := by
          funext k
          apply propext
          simp only [Array.getD_eq_getD_getElem?]
          by_cases hk : i = k
          · subst hk
            rw [Array.getElem?_setIfInBounds_self]
            simp [hil]
          · rw [Array.getElem?_setIfInBounds_ne hk]
            exact ⟨Or.inl, fun h => h.elim id (fun h => absurd h.symm hk)⟩
        rw [e]
        exact I'
end Cert
inductive Kd where
  | pure
  | one (a : Nat)
  | new
  | chain (mk : List (Nat × Nat))
structure Ds where
  T : Tr SV
  st : St
  cl : List (Nat × List Nat)
  nl : List (Nat × Nat)
  ol : List (Nat × Nat × Nat)
  rl : List (Nat × Nat)
  x : SV
  wl : List Nat
  kd : Kd
  pd : Option (Nat × SV × Mm)
def Qdf (pm : Tr Nat) (i : Nat) : List Edge → Option Nat
  | [] => some 0
  | e :: l => match Region.binds .any e with
    | false => Qdf pm i l
    | true => match Nat.blt e.on i, pm.get e.on, Qdf pm i l with
      | true, some q, some r => some ((r ||| q) ||| (1 <<< e.on))
      | _, _, _ => none
def Qgr : List Oper → Nat → Tr Nat → Tr Nat
  | [], _, t => t
  | o :: l, i, t => Qgr l (i + 1) (t.set i (Qdf t i o.after.toList))
def mkWr : List Oper → Nat → Tr Nat → Tr Nat
  | [], _, t => t
  | o :: l, i, t => mkWr l (i + 1) (match o.dst with
    | some d => t.set d (some i)
    | none => t)
def QfD (n : Nat) (wr : Tr Nat) (i : Nat) : Option Nat → Bool
  | none => true
  | some d => match wr.get d with
    | some k => Nat.beq k i && Nat.blt d n && QaE d
    | none => false
def Qed (T : Tr SV) (d : Option Nat) (x : SV) : Tr SV :=
  match d with
  | none => T
  | some d => T.set d (some x)
def QaQ (pm : Tr Nat) (i k : Nat) : Bool :=
  match pm.get i with
  | some p => p.testBit k
  | none => false
def ordB (pm : Tr Nat) (i k : Nat) : Bool := Nat.beq k i || QaQ pm i k || QaQ pm k i
def QfI (T : Tr SV) (wr pm : Tr Nat) (i : Nat) : Rho
  | .tmp t => match wr.get t with
    | none => T.get t
    | some k => match ordB pm i k with
      | true => T.get t
      | false => none
  | x => rho T x
def gE (ops : Array Oper) (ρ : Rho) (o : Oper) (st : St) : Option (Bool × St) :=
  match o.guard with
  | none => some (true, st)
  | some (j, want) => match ops[j]? with
    | some oj => match oj.dst with
      | some d => match ρ (.tmp d) with
        | some (.v (.tuple _)) => some (false, st)
        | some v => match Qjv v st with
          | some (b, st') => some (b == want, st')
          | none => none
        | none => none
      | none => none
    | none => none
def Qd0 : List (Nat × Nat) → Tr Bx → Tr Bx
  | [], K => K
  | q :: l, K => (Qd0 l K).set q.2 none
def QbG (K0 : Tr Bx) : List (Nat × Nat) → Tr Bx → Tr Bx
  | [], K => K
  | q :: l, K => (QbG K0 l K).set q.2 (K0.get q.2)
def QkN (nx0 : Nat) (pm : Tr Nat) (i : Nat) (ol : List (Nat × Nat × Nat)) (a : Nat) : Bool :=
  Nat.blt a nx0 || ol.any fun q => QaQ pm i q.1 && Nat.ble q.2.1 a && Nat.blt a q.2.2
def QdD (pm : Tr Nat) (i : Nat) : List (Nat × List Nat) → Bool
  | [] => true
  | c :: _ => QaQ pm i c.1
def Qg8 (P : Program) (ih : Job → St → Option Ou) (ρ : Rho) (pm : Tr Nat) (nx0 i : Nat) (s : Ds) (o : Oper) (st1 : St) : Option Ds :=
  match opE P ρ ⟨.leaf, st1.m.nx, []⟩ o with
  | some (x, m') => match Nat.beq m'.nx st1.m.nx with
    | true => some ⟨Qed s.T o.dst x, st1, s.cl, s.nl, s.ol, s.rl, x, [], .pure, s.pd⟩
    | false => match m'.K.get st1.m.nx, QaE st1.m.nx && Nat.beq m'.nx (st1.m.nx + 1) with
      | some k, true => some ⟨Qed s.T o.dst x, ⟨⟨st1.m.K.set st1.m.nx (some k), st1.m.nx + 1, st1.m.lg⟩, st1.orc, st1.cnd⟩, s.cl, (i, st1.m.nx) :: s.nl, (i, st1.m.nx, st1.m.nx + 1) :: s.ol, s.rl, x, [], .new, s.pd⟩
      | _, _ => none
  | none => match o.op with
    | .load ty y => match ρ y with
      | some (.p a off) => match st1.m.K.get a with
        | some k => match ldE P ty k.cs off, QkN nx0 pm i s.ol a && s.cl.all fun c => QaQ pm i c.1 || !(c.2.contains a) with
          | some x, true => some ⟨Qed s.T o.dst x, st1, s.cl, s.nl, s.ol, (i, a) :: s.rl, x, [], .one a, s.pd⟩
          | _, _ => none
        | none => none
      | _ => none
    | _ => match QdD pm i s.cl with
      | true => match opR P ih ρ ⟨⟨Qd0 (s.nl.filter fun q => !QaQ pm i q.1) st1.m.K, st1.m.nx, []⟩, st1.orc, st1.cnd⟩ o with
        | some (.val x, st2) => match (s.rl.all fun r => QaQ pm i r.1 || !(st2.m.lg.contains r.2)) && (s.nl.filter fun q => !QaQ pm i q.1).all fun q => QaE q.2 with
          | true => some ⟨Qed s.T o.dst x, ⟨⟨QbG st1.m.K (s.nl.filter fun q => !QaQ pm i q.1) st2.m.K, st2.m.nx, st2.m.lg ++ st1.m.lg⟩, st2.orc, st2.cnd⟩, (i, st2.m.lg) :: s.cl, s.nl, (i, st1.m.nx, st2.m.nx) :: s.ol, s.rl, x, st2.m.lg, .chain (s.nl.filter fun q => !QaQ pm i q.1), s.pd⟩
          | false => none
        | some (.pan x, st2) => match s.pd, (s.rl.all fun r => QaQ pm i r.1 || !(st2.m.lg.contains r.2)) && (s.nl.filter fun q => !QaQ pm i q.1).all fun q => QaE q.2 with
          | none, true => some ⟨Qed s.T o.dst (.v undef), ⟨⟨QbG st1.m.K (s.nl.filter fun q => !QaQ pm i q.1) st2.m.K, st2.m.nx, st2.m.lg ++ st1.m.lg⟩, st2.orc, st2.cnd⟩, (i, st2.m.lg) :: s.cl, s.nl, (i, st1.m.nx, st2.m.nx) :: s.ol, s.rl, .v undef, st2.m.lg, .chain (s.nl.filter fun q => !QaQ pm i q.1), some (i, x, st2.m)⟩
          | _, _ => none
        | _ => none
      | false => none
def Qlw (P : Program) (ih : Job → St → Option Ou) (ρ : Rho) (pm : Tr Nat) (nx0 i : Nat) (s : Ds) (o : Oper) (st1 : St) : Option Ds :=
  match Qki P ρ o with
  | some (x, ps) => some ⟨Qed s.T o.dst x, ⟨st1.m, st1.orc, ps ++ st1.cnd⟩, s.cl, s.nl, s.ol, s.rl, x, [], .pure, s.pd⟩
  | none => Qg8 P ih ρ pm nx0 i s o st1
def deadB (pm : Tr Nat) (i : Nat) : Option (Nat × SV × Mm) → Bool
  | none => false
  | some q => QaQ pm i q.1
def QjG (P : Program) (ih : Job → St → Option Ou) (ops : Array Oper) (pm wr : Tr Nat) (nx0 n i : Nat) (s : Ds) : Option Ds :=
  match ops[i]? with
  | none => none
  | some o => match Qdf pm i o.after.toList, pm.get i with
    | some p, some p' => match Nat.beq p p' && QfD n wr i o.dst with
      | true => match deadB pm i s.pd with
        | true => some ⟨Qed s.T o.dst (.v undef), s.st, s.cl, s.nl, s.ol, s.rl, .v undef, [], .pure, s.pd⟩
        | false => match gE ops (QfI s.T wr pm i) o s.st with
          | some (false, st1) => some ⟨Qed s.T o.dst (.v undef), st1, s.cl, s.nl, s.ol, s.rl, .v undef, [], .pure, s.pd⟩
          | some (true, st1) => Qlw P ih (QfI s.T wr pm i) pm nx0 i s o st1
          | none => none
      | false => none
    | _, _ => none
def QjK (P : Program) (ih : Job → St → Option Ou) (ops : Array Oper) (pm wr : Tr Nat) (nx0 n : Nat) (s0 : Ds) : Nat → Option Ds
  | 0 => some s0
  | i + 1 => match QjK P ih ops pm wr nx0 n s0 i with
    | some s => QjG P ih ops pm wr nx0 n i s
    | none => none
def ds0 (fr : Fr) (st : St) : Ds := ⟨fr.T, st, [], [], [], [], .v undef, [], .pure, none⟩
def clrT : List Oper → Tr SV → Tr SV
  | [], T => T
  | o :: l, T => match o.dst with
    | none => clrT l T
    | some d => match QaE d with
      | true => (clrT l T).set d none
      | false => .leaf
def endD (fr : Fr) (ops : Array Oper) (s : Ds) : Fr × St × Option SV :=
  match s.pd with
  | none => (⟨fr.f, fr.n, s.T, fr.D⟩, s.st, none)
  | some q => (⟨fr.f, fr.n, clrT ops.toList fr.T, fr.D⟩, ⟨⟨q.2.2.K, s.st.m.nx, s.st.m.lg⟩, s.st.orc, s.st.cnd⟩, some q.2.1)
def drE : Dr := fun P ih fr ops st => match P.follows .mixedOrders with
  | true => match QjK P ih ops (Qgr ops.toList 0 .leaf) (mkWr ops.toList 0 .leaf) st.m.nx fr.n (ds0 fr st) ops.size with
    | some s => some (endD fr ops s)
    | none => none
  | false => none
section
variable {P : Program} {ih : Job → St → Option Ou} {ops : Array Oper} {pm wr : Tr Nat} {nx0 n : Nat}
theorem Qb7 : ∀ (mk : List (Nat × Nat)) (K : Tr Bx) (j : Nat), (mk.all fun q => QaE q.2) = true → (Qd0 mk K).get j = if j ∈ mk.map (·.2) then none else K.get j
  | [], K, j, _ => by simp [Qd0]
  | q :: l, K, j, h => by
    simp only [List.all_cons, Bool.and_eq_true] at h
    simp only [Qd0, Tr.get_set h.1, QbW, Qb7 l K j h.2, List.map_cons, List.mem_cons]
    by_cases e : j = q.2
    · rw [if_pos e, if_pos (Or.inl e)]
    · by_cases h2 : j ∈ l.map (·.2)
      · rw [if_neg e, if_pos h2, if_pos (Or.inr h2)]
      · rw [if_neg e, if_neg h2, if_neg (fun h => h.elim e h2)]
theorem Qcm (K0 : Tr Bx) : ∀ (mk : List (Nat × Nat)) (K : Tr Bx) (j : Nat), (mk.all fun q => QaE q.2) = true → (QbG K0 mk K).get j = if j ∈ mk.map (·.2) then K0.get j else K.get j
  | [], K, j, _ => by simp [QbG]
  | q :: l, K, j, h => by
    simp only [List.all_cons, Bool.and_eq_true] at h
    simp only [QbG, Tr.get_set h.1, QbW, Qcm K0 l K j h.2, List.map_cons, List.mem_cons]
    by_cases e : j = q.2
    · rw [if_pos e, if_pos (Or.inl e), e]
    · by_cases h2 : j ∈ l.map (·.2)
      · rw [if_neg e, if_pos h2, if_pos (Or.inr h2)]
      · rw [if_neg e, if_neg h2, if_neg (fun h => h.elim e h2)]
theorem testBit_or (r q k e : Nat) : ((r ||| q) ||| (1 <<< e)).testBit k = true ↔ r.testBit k = true ∨ q.testBit k = true ∨ k = e := by
  rw [Nat.testBit_or, Nat.testBit_or, Nat.one_shiftLeft, Nat.testBit_two_pow]
  simp only [Bool.or_eq_true, decide_eq_true_eq]
  constructor
  · rintro ((h | h) | h)
    · exact Or.inl h
    · exact Or.inr (Or.inl h)
    · exact Or.inr (Or.inr h.symm)
  · rintro (h | h | h)
    · exact Or.inl (Or.inl h)
    · exact Or.inl (Or.inr h)
    · exact Or.inr h.symm
theorem Qfe {i : Nat} : ∀ (l : List Edge) {p : Nat}, Qdf pm i l = some p → (∀ k, p.testBit k = true ↔ ∃ e ∈ l, Region.binds .any e = true ∧ (k = e.on ∨ QaQ pm e.on k = true)) ∧ ∀ e ∈ l, Region.binds .any e = true → e.on < i
  | [], p, h => by simp [Qdf] at h; subst h; simp
  | e :: l, p, h => by
    simp only [Qdf] at h
    cases hb : Region.binds .any e with
    | false =>
      rw [hb] at h
      obtain ⟨h1, h2⟩ := Qfe l h
      refine ⟨fun k => ?_, fun e' he' hb' => ?_⟩
      · rw [h1]
        constructor
        · rintro ⟨e', g1, g2⟩; exact ⟨e', List.mem_cons_of_mem _ g1, g2⟩
        · rintro ⟨e', g1, g2, g3⟩
          rcases List.mem_cons.1 g1 with rfl | g1
          · rw [hb] at g2; cases g2
          · exact ⟨e', g1, g2, g3⟩
      · rcases List.mem_cons.1 he' with rfl | he'
        · rw [hb] at hb'; cases hb'
        · exact h2 e' he' hb'
    | true =>
      rw [hb] at h
      simp only at h
      split at h
      · rename_i q r hlt hq hr
        simp only [Option.some.injEq] at h
        subst h
        obtain ⟨h1, h2⟩ := Qfe l hr
        refine ⟨fun k => ?_, fun e' he' hb' => ?_⟩
        · rw [testBit_or, h1]
          constructor
          · rintro (⟨e', g1, g2⟩ | g | g)
            · exact ⟨e', List.mem_cons_of_mem _ g1, g2⟩
            · exact ⟨e, by simp, hb, Or.inr (by unfold QaQ; rw [hq]; exact g)⟩
            · exact ⟨e, by simp, hb, Or.inl g⟩
          · rintro ⟨e', g1, g2, g3⟩
            rcases List.mem_cons.1 g1 with rfl | g1
            · rcases g3 with g3 | g3
              · exact Or.inr (Or.inr g3)
              · unfold QaQ at g3; rw [hq] at g3; exact Or.inr (Or.inl g3)
            · exact Or.inl ⟨e', g1, g2, g3⟩
        · rcases List.mem_cons.1 he' with rfl | he'
          · rw [Nat.blt, Nat.ble_eq] at hlt; exact hlt
          · exact h2 e' he' hb'
      · cases h
inductive Oc (P : Program) (ih : Job → St → Option Ou) (ρ : Rho) (pm : Tr Nat) (nx0 i : Nat) (s : Ds) (o : Oper) (st1 : St) : Bool → Ds → Prop where
  | skip : Oc P ih ρ pm nx0 i s o st1 false ⟨Qed s.T o.dst (.v undef), st1, s.cl, s.nl, s.ol, s.rl, .v undef, [], .pure, s.pd⟩
  | pure (x : SV) (m' : Mm) : opE P ρ ⟨.leaf, st1.m.nx, []⟩ o = some (x, m') → m'.nx = st1.m.nx → Oc P ih ρ pm nx0 i s o st1 true ⟨Qed s.T o.dst x, st1, s.cl, s.nl, s.ol, s.rl, x, [], .pure, s.pd⟩
  | ask (x : SV) (ps : List (Value × Value)) : Qki P ρ o = some (x, ps) → Oc P ih ρ pm nx0 i s o st1 true ⟨Qed s.T o.dst x, ⟨st1.m, st1.orc, ps ++ st1.cnd⟩, s.cl, s.nl, s.ol, s.rl, x, [], .pure, s.pd⟩
  | new (x : SV) (m' : Mm) (k : Bx) : opE P ρ ⟨.leaf, st1.m.nx, []⟩ o = some (x, m') → m'.nx = st1.m.nx + 1 → m'.K.get st1.m.nx = some k → QaE st1.m.nx = true →
      Oc P ih ρ pm nx0 i s o st1 true ⟨Qed s.T o.dst x, ⟨⟨st1.m.K.set st1.m.nx (some k), st1.m.nx + 1, st1.m.lg⟩, st1.orc, st1.cnd⟩, s.cl, (i, st1.m.nx) :: s.nl, (i, st1.m.nx, st1.m.nx + 1) :: s.ol, s.rl, x, [], .new, s.pd⟩
  | one (ty : TypeId) (y : Operand) (a off : Nat) (k : Bx) (x : SV) : o.op = .load ty y → ρ y = some (.p a off) → st1.m.K.get a = some k → ldE P ty k.cs off = some x → QkN nx0 pm i s.ol a = true →
      (s.cl.all fun c => QaQ pm i c.1 || !(c.2.contains a)) = true → Oc P ih ρ pm nx0 i s o st1 true ⟨Qed s.T o.dst x, st1, s.cl, s.nl, s.ol, (i, a) :: s.rl, x, [], .one a, s.pd⟩
  | chain (x : SV) (st2 : St) (mk : List (Nat × Nat)) : mk = (s.nl.filter fun q => !QaQ pm i q.1) → QdD pm i s.cl = true → opR P ih ρ ⟨⟨Qd0 mk st1.m.K, st1.m.nx, []⟩, st1.orc, st1.cnd⟩ o = some (.val x, st2) →
      (s.rl.all fun r => QaQ pm i r.1 || !(st2.m.lg.contains r.2)) = true → (mk.all fun q => QaE q.2) = true →
      Oc P ih ρ pm nx0 i s o st1 true ⟨Qed s.T o.dst x, ⟨⟨QbG st1.m.K mk st2.m.K, st2.m.nx, st2.m.lg ++ st1.m.lg⟩, st2.orc, st2.cnd⟩, (i, st2.m.lg) :: s.cl, s.nl, (i, st1.m.nx, st2.m.nx) :: s.ol, s.rl, x, st2.m.lg, .chain mk, s.pd⟩
  | pan (x : SV) (st2 : St) (mk : List (Nat × Nat)) : s.pd = none → mk = (s.nl.filter fun q => !QaQ pm i q.1) → QdD pm i s.cl = true → opR P ih ρ ⟨⟨Qd0 mk st1.m.K, st1.m.nx, []⟩, st1.orc, st1.cnd⟩ o = some (.pan x, st2) →
      (s.rl.all fun r => QaQ pm i r.1 || !(st2.m.lg.contains r.2)) = true → (mk.all fun q => QaE q.2) = true →
      Oc P ih ρ pm nx0 i s o st1 true ⟨Qed s.T o.dst (.v undef), ⟨⟨QbG st1.m.K mk st2.m.K, st2.m.nx, st2.m.lg ++ st1.m.lg⟩, st2.orc, st2.cnd⟩, (i, st2.m.lg) :: s.cl, s.nl, (i, st1.m.nx, st2.m.nx) :: s.ol, s.rl, .v undef, st2.m.lg, .chain mk, some (i, x, st2.m)⟩
theorem Qlv {ρ : Rho} {i : Nat} {s s' : Ds} {o : Oper} {st1 : St} (h : Qg8 P ih ρ pm nx0 i s o st1 = some s') : Oc P ih ρ pm nx0 i s o st1 true s' := by
  unfold Qg8 at h
  split at h
  · rename_i x m' he
    split at h
    · rename_i hb
      simp only [Option.some.injEq] at h
      subst h
      exact .pure x m' he (Nat.eq_of_beq_eq_true hb)
    · split at h
      · rename_i k hk hb
        simp only [Bool.and_eq_true] at hb
        simp only [Option.some.injEq] at h
        subst h
        exact .new x m' k he (Nat.eq_of_beq_eq_true hb.2) hk hb.1
      · cases h
  · have ch : (match QdD pm i s.cl with
      | true => match opR P ih ρ ⟨⟨Qd0 (s.nl.filter fun q => !QaQ pm i q.1) st1.m.K, st1.m.nx, []⟩, st1.orc, st1.cnd⟩ o with
        | some (.val x, st2) => match (s.rl.all fun r => QaQ pm i r.1 || !(st2.m.lg.contains r.2)) && (s.nl.filter fun q => !QaQ pm i q.1).all fun q => QaE q.2 with
          | true => some (⟨Qed s.T o.dst x, ⟨⟨QbG st1.m.K (s.nl.filter fun q => !QaQ pm i q.1) st2.m.K, st2.m.nx, st2.m.lg ++ st1.m.lg⟩, st2.orc, st2.cnd⟩, (i, st2.m.lg) :: s.cl, s.nl, (i, st1.m.nx, st2.m.nx) :: s.ol, s.rl, x, st2.m.lg, .chain (s.nl.filter fun q => !QaQ pm i q.1), s.pd⟩ : Ds)
          | false => none
        | some (.pan x, st2) => match s.pd, (s.rl.all fun r => QaQ pm i r.1 || !(st2.m.lg.contains r.2)) && (s.nl.filter fun q => !QaQ pm i q.1).all fun q => QaE q.2 with
          | none, true => some (⟨Qed s.T o.dst (.v undef), ⟨⟨QbG st1.m.K (s.nl.filter fun q => !QaQ pm i q.1) st2.m.K, st2.m.nx, st2.m.lg ++ st1.m.lg⟩, st2.orc, st2.cnd⟩, (i, st2.m.lg) :: s.cl, s.nl, (i, st1.m.nx, st2.m.nx) :: s.ol, s.rl, .v undef, st2.m.lg, .chain (s.nl.filter fun q => !QaQ pm i q.1), some (i, x, st2.m)⟩ : Ds)
          | _, _ => none
        | _ => none
      | false => none) = some s' → Oc P ih ρ pm nx0 i s o st1 true s' := by
      intro h
      split at h
      · rename_i hc
        split at h
        · rename_i x st2 hr
          split at h
          · rename_i hb
            simp only [Bool.and_eq_true] at hb
            simp only [Option.some.injEq] at h
            subst h
            exact .chain x st2 _ rfl hc hr hb.1 hb.2
          · cases h
        · rename_i x st2 hr
          split at h
          · rename_i hp hb
            simp only [Bool.and_eq_true] at hb
            simp only [Option.some.injEq] at h
            subst h
            exact .pan x st2 _ hp rfl hc hr hb.1 hb.2
          · cases h
        · cases h
      · cases h
    split at h
    · rename_i ty y ho
      split at h
      · rename_i a off hy
        split at h
        · rename_i k hk
          split at h
          · rename_i x hl hb
            simp only [Bool.and_eq_true] at hb
            simp only [Option.some.injEq] at h
            subst h
            exact .one ty y a off k x ho hy hk hl hb.1 hb.2
          · cases h
        · cases h
      · cases h
    · exact ch h
theorem nextD_oc {ρ : Rho} {i : Nat} {s s' : Ds} {o : Oper} {st1 : St} (h : Qlw P ih ρ pm nx0 i s o st1 = some s') : Oc P ih ρ pm nx0 i s o st1 true s' := by
  unfold Qlw at h
  split at h
  · rename_i x ps hq
    simp only [Option.some.injEq] at h
    subst h
    exact .ask x ps hq
  · exact Qlv h
def Gq (ops : Array Oper) (pm wr : Tr Nat) (i : Nat) (s : Ds) (o : Oper) (b : Bool) (st1 : St) : Prop := gE ops (QfI s.T wr pm i) o s.st = some (b, st1) ∨ (deadB pm i s.pd = true ∧ b = false ∧ st1 = s.st)
theorem stepD_oc {i : Nat} {s s' : Ds} (h : QjG P ih ops pm wr nx0 n i s = some s') : ∃ o p b st1, ops[i]? = some o ∧ Qdf pm i o.after.toList = some p ∧ pm.get i = some p ∧ QfD n wr i o.dst = true ∧ Gq ops pm wr i s o b st1 ∧
    Oc P ih (QfI s.T wr pm i) pm nx0 i s o st1 b s' := by
  unfold QjG at h
  split at h
  · cases h
  · rename_i o ho
    split at h
    · rename_i p p' hp hp'
      split at h
      · rename_i hb
        simp only [Bool.and_eq_true] at hb
        have e := Nat.eq_of_beq_eq_true hb.1
        subst e
        split at h
        · rename_i hdd
          simp only [Option.some.injEq] at h
          subst h
          exact ⟨o, p, false, s.st, ho, hp, hp', hb.2, Or.inr ⟨hdd, rfl, rfl⟩, .skip⟩
        split at h
        · rename_i st1 hg
          simp only [Option.some.injEq] at h
          subst h
          exact ⟨o, p, false, st1, ho, hp, hp', hb.2, Or.inl hg, .skip⟩
        · rename_i st1 hg
          exact ⟨o, p, true, st1, ho, hp, hp', hb.2, Or.inl hg, nextD_oc h⟩
        · cases h
      · cases h
    · cases h
theorem gE_ok {ρ : Rho} {o : Oper} {st st1 : St} {b : Bool} (h : gE ops ρ o st = some (b, st1)) : st1.m = st.m ∧ (∃ l, st1.cnd = l ++ st.cnd) ∧ (Tru st1.cnd → ∀ B S a, QbF B S a ρ → (∀ t v, ρ (.tmp t) = some v → a.tmps[t]? = some (den B v)) → Region.wanted o (yielded ops a.tmps) = b) := by
  unfold gE at h
  unfold Region.wanted
  cases hg : o.guard with
  | none =>
    rw [hg] at h
    simp only [Option.some.injEq, Prod.mk.injEq] at h
    obtain ⟨rfl, rfl⟩ := h
    exact ⟨rfl, ⟨[], rfl⟩, fun _ _ _ _ _ _ => rfl⟩
  | some jw =>
    obtain ⟨j, want⟩ := jw
    rw [hg] at h
    simp only at h ⊢
    cases ho : ops[j]? with
    | none => rw [ho] at h; cases h
    | some oj =>
      rw [ho] at h
      simp only at h
      cases hd : oj.dst with
      | none => rw [hd] at h; cases h
      | some d =>
        rw [hd] at h
        simp only at h
        split at h
        · rename_i vs hr
          simp only [Option.some.injEq, Prod.mk.injEq] at h
          obtain ⟨rfl, rfl⟩ := h
          refine ⟨rfl, ⟨[], rfl⟩, fun t B S a _ hs => ?_⟩
          have := hs d _ hr
          simp only [yielded, ho, hd, Option.bind_some, this, den]
          cases want <;> rfl
        · rename_i v hne hr
          cases hq : Qjv v st with
          | none => rw [hq] at h; cases h
          | some q =>
            obtain ⟨c, st2⟩ := q
            rw [hq] at h
            simp only [Option.some.injEq, Prod.mk.injEq] at h
            obtain ⟨rfl, rfl⟩ := h
            obtain ⟨h1, h2, h3⟩ := QgL hq
            refine ⟨h1, h2.1, fun t B S a _ hs => ?_⟩
            have := hs d v hr
            rw [h3 t B] at this
            simp only [yielded, ho, hd, Option.bind_some, this]
            cases c <;> cases want <;> rfl
        · cases h
theorem gq_ok {i : Nat} {s : Ds} {o : Oper} {b : Bool} {st1 : St} (h : Gq ops pm wr i s o b st1) : st1.m = s.st.m ∧ ∃ l, st1.cnd = l ++ s.st.cnd := by
  rcases h with h | ⟨_, _, rfl⟩
  · obtain ⟨h1, h2, _⟩ := gE_ok h
    exact ⟨h1, h2⟩
  · exact ⟨rfl, [], rfl⟩
end
structure Sq (P : Program) (ih : Job → St → Option Ou) (ops : Array Oper) (pm wr : Tr Nat) (nx0 n : Nat) (s0 : Ds) where
  sq : Nat → Ds
  zero : sq 0 = s0
  step : ∀ i, i < ops.size → QjG P ih ops pm wr nx0 n i (sq i) = some (sq (i + 1))
  n0 : nx0 = s0.st.m.nx
  e1 : s0.cl = []
  e2 : s0.nl = []
  e3 : s0.ol = []
  e4 : s0.rl = []
  e5 : s0.pd = none
theorem sq_of {P : Program} {ih : Job → St → Option Ou} {ops : Array Oper} {pm wr : Tr Nat} {nx0 n : Nat} {s0 sN : Ds} (h : QjK P ih ops pm wr nx0 n s0 ops.size = some sN) (n0 : nx0 = s0.st.m.nx) (e1 : s0.cl = []) (e2 : s0.nl = []) (e3 : s0.ol = []) (e4 : s0.rl = []) (e5 : s0.pd = none) :
    ∃ C : Sq P ih ops pm wr nx0 n s0, C.sq ops.size = sN := by
  have all : ∀ m, m ≤ ops.size → ∃ s, QjK P ih ops pm wr nx0 n s0 m = some s := by
    intro m
    induction hk : ops.size - m generalizing m with
    | zero => intro hm; have : m = ops.size := by omega
              subst this; exact ⟨_, h⟩
    | succ k ih' =>
      intro hm
      obtain ⟨s, hs⟩ := ih' (m + 1) (by omega) (by omega)
      rw [QjK] at hs
      cases hq : QjK P ih ops pm wr nx0 n s0 m with
      | none => rw [hq] at hs; cases hs
      | some s1 => exact ⟨s1, rfl⟩
  refine ⟨⟨fun m => (QjK P ih ops pm wr nx0 n s0 m).getD s0, rfl, fun i hi => ?_, n0, e1, e2, e3, e4, e5⟩, by simp [h]⟩
  obtain ⟨s, hs⟩ := all i (by omega)
  obtain ⟨s', hs'⟩ := all (i + 1) (by omega)
  have := hs'
  rw [QjK, hs] at this
  simp only [hs, hs', Option.getD_some]
  exact this
namespace Sq
variable {P : Program} {ih : Job → St → Option Ou} {ops : Array Oper} {pm wr : Tr Nat} {nx0 n : Nat} {s0 : Ds} (C : Sq P ih ops pm wr nx0 n s0)
def nx (i : Nat) : Nat := (C.sq i).st.m.nx
def V (i : Nat) : Nat → Option Bx := (C.sq i).st.m.K.get
def T (i : Nat) : Nat → Option SV := (C.sq i).T.get
def x (i : Nat) : SV := (C.sq (i + 1)).x
def wl (i : Nat) : List Nat := (C.sq (i + 1)).wl
def kd (i : Nat) : Kd := (C.sq (i + 1)).kd
def tch (i j : Nat) : Prop := (C.nx i ≤ j ∧ j < C.nx (i + 1)) ∨ j ∈ C.wl i
def pr {ops : Array Oper} {pm : Tr Nat} (k i : Nat) : Prop := i < ops.size ∧ QaQ pm i k = true
def Ki (i j : Nat) : Option Bx :=
  match C.kd i with
  | .pure => none
  | .new => none
  | .one a => if j = a then C.V i j else none
  | .chain ms => if j ∈ ms.map (·.2) then none else C.V i j
def Ti (i t : Nat) : Option SV := QfI (C.sq i).T wr pm i (.tmp t)
theorem oc {i : Nat} (hi : i < ops.size) : ∃ o p b st1, ops[i]? = some o ∧ Qdf pm i o.after.toList = some p ∧ pm.get i = some p ∧ QfD n wr i o.dst = true ∧ Gq ops pm wr i (C.sq i) o b st1 ∧
    Oc P ih (QfI (C.sq i).T wr pm i) pm nx0 i (C.sq i) o st1 b (C.sq (i + 1)) := stepD_oc (C.step i hi)
include C in
theorem mask {i : Nat} (hi : i < ops.size) : ∃ o, ops[i]? = some o ∧ (∀ k, QaQ pm i k = true ↔ ∃ e ∈ o.after, Region.binds .any e = true ∧ (k = e.on ∨ QaQ pm e.on k = true)) ∧ ∀ e ∈ o.after, Region.binds .any e = true → e.on < i := by
  obtain ⟨o, p, b, st1, ho, hp, hp', _⟩ := C.oc hi
  obtain ⟨h1, h2⟩ := Qfe _ hp
  refine ⟨o, ho, fun k => ?_, fun e he => h2 e (by simpa using he)⟩
  have := h1 k
  unfold QaQ at this ⊢
  rw [hp']
  simpa using this
include C in
theorem pr_lt : ∀ (i k : Nat), pr (ops := ops) (pm := pm) k i → k < i := by
  intro i
  induction i using Nat.strongRecOn with
  | _ i ih' =>
    rintro k ⟨hi, hb⟩
    obtain ⟨o, ho, h1, h2⟩ := C.mask hi
    obtain ⟨e, he, hbn, hk⟩ := (h1 k).1 hb
    have := h2 e he hbn
    rcases hk with rfl | hk
    · exact this
    · exact Nat.lt_trans (ih' e.on this k ⟨by omega, hk⟩) this
include C in
theorem pr_tr : ∀ (i m k : Nat), pr (ops := ops) (pm := pm) k m → pr (ops := ops) (pm := pm) m i → pr (ops := ops) (pm := pm) k i := by
  intro i
  induction i using Nat.strongRecOn with
  | _ i ih' =>
    rintro m k hk ⟨hi, hb⟩
    obtain ⟨o, ho, h1, h2⟩ := C.mask hi
    obtain ⟨e, he, hbn, hm⟩ := (h1 m).1 hb
    have hlt := h2 e he hbn
    refine ⟨hi, (h1 k).2 ⟨e, he, hbn, ?_⟩⟩
    rcases hm with rfl | hm
    · exact Or.inr hk.2
    · exact Or.inr (ih' e.on hlt m k hk ⟨by omega, hm⟩).2
structure Quiet (i : Nat) : Prop where
  nx : C.nx (i + 1) = C.nx i
  V : C.V (i + 1) = C.V i
  wl : C.wl i = []
  nl : (C.sq (i + 1)).nl = (C.sq i).nl
  cl : (C.sq (i + 1)).cl = (C.sq i).cl
  ol : (C.sq (i + 1)).ol = (C.sq i).ol
  lg : (C.sq (i + 1)).st.m.lg = (C.sq i).st.m.lg
structure IsNew (i : Nat) (k : Bx) : Prop where
  nx : C.nx (i + 1) = C.nx i + 1
  V : C.V (i + 1) = QbW (C.V i) (C.nx i) (some k)
  wl : C.wl i = []
  nl : (C.sq (i + 1)).nl = (i, C.nx i) :: (C.sq i).nl
  cl : (C.sq (i + 1)).cl = (C.sq i).cl
  ol : (C.sq (i + 1)).ol = (i, C.nx i, C.nx (i + 1)) :: (C.sq i).ol
  rl : (C.sq (i + 1)).rl = (C.sq i).rl
  lg : (C.sq (i + 1)).st.m.lg = (C.sq i).st.m.lg
structure IsChain (i : Nat) (ms : List (Nat × Nat)) (K2 : Nat → Option Bx) : Prop where
  mse : ms = (C.sq i).nl.filter fun q => !QaQ pm i q.1
  cb : QdD pm i (C.sq i).cl = true
  nx : C.nx i ≤ C.nx (i + 1)
  V : ∀ j, C.V (i + 1) j = if j ∈ ms.map (·.2) then C.V i j else K2 j
  K2 : ∀ j, j < C.nx i ∨ C.nx (i + 1) ≤ j → j ∉ C.wl i → K2 j = if j ∈ ms.map (·.2) then none else C.V i j
  wl : ∀ j ∈ C.wl i, (∃ k, (if j ∈ ms.map (·.2) then none else C.V i j) = some k) ∨ (C.nx i ≤ j ∧ j < C.nx (i + 1))
  nl : (C.sq (i + 1)).nl = (C.sq i).nl
  cl : (C.sq (i + 1)).cl = (i, C.wl i) :: (C.sq i).cl
  ol : (C.sq (i + 1)).ol = (i, C.nx i, C.nx (i + 1)) :: (C.sq i).ol
  rl : (C.sq (i + 1)).rl = (C.sq i).rl
  ra : ((C.sq i).rl.all fun r => QaQ pm i r.1 || !((C.wl i).contains r.2)) = true
  lg : (C.sq (i + 1)).st.m.lg = C.wl i ++ (C.sq i).st.m.lg
theorem facts (hih : Qbz P ih) {i : Nat} (hi : i < ops.size) :
    (C.kd i = .pure ∧ C.Quiet i ∧ (C.sq (i + 1)).rl = (C.sq i).rl) ∨
    (∃ a, C.kd i = .one a ∧ C.Quiet i ∧ (C.sq (i + 1)).rl = (i, a) :: (C.sq i).rl ∧ (∃ k, C.V i a = some k) ∧ QkN nx0 pm i (C.sq i).ol a = true ∧ ((C.sq i).cl.all fun c => QaQ pm i c.1 || !(c.2.contains a)) = true) ∨
    (∃ k, C.kd i = .new ∧ C.IsNew i k) ∨ (∃ ms K2, C.kd i = .chain ms ∧ C.IsChain i ms K2) := by
  obtain ⟨o, p, b, st1, ho, hp, hp', hd, hg, h⟩ := C.oc hi
  obtain ⟨hm, _⟩ := gq_ok hg
  generalize hs : C.sq (i + 1) = s' at h
  cases h with
  | skip =>
    refine Or.inl ⟨by simp [kd, hs], ⟨by simp [nx, hs, hm], by simp [V, hs, hm], by simp [wl, hs], by simp [hs], by simp [hs], by simp [hs], by simp [hs, hm]⟩, by simp [hs]⟩
  | pure x m' h1 h2 =>
    refine Or.inl ⟨by simp [kd, hs], ⟨by simp [nx, hs, hm], by simp [V, hs, hm], by simp [wl, hs], by simp [hs], by simp [hs], by simp [hs], by simp [hs, hm]⟩, by simp [hs]⟩
  | ask x ps h1 =>
    refine Or.inl ⟨by simp [kd, hs], ⟨by simp [nx, hs, hm], by simp [V, hs, hm], by simp [wl, hs], by simp [hs], by simp [hs], by simp [hs], by simp [hs, hm]⟩, by simp [hs]⟩
  | new x m' k h1 h2 h3 h4 =>
    refine Or.inr (Or.inr (Or.inl ⟨k, by simp [kd, hs], ⟨by simp [nx, hs, hm], ?_, by simp [wl, hs], by simp [hs, nx, hm], by simp [hs], by simp [hs, nx, hm], by simp [hs], by simp [hs, hm]⟩⟩))
    simp only [V, hs, nx]
    rw [← hm]
    exact Tr.get_set h4
  | one ty y a off k x h1 h2 h3 h4 h5 h6 =>
    refine Or.inr (Or.inl ⟨a, by simp [kd, hs], ⟨by simp [nx, hs, hm], by simp [V, hs, hm], by simp [wl, hs], by simp [hs], by simp [hs], by simp [hs], by simp [hs, hm]⟩, by simp [hs], ⟨k, by simp only [V]; rw [← hm]; exact h3⟩, h5, h6⟩)
  | chain x st2 ms h1 h2 h3 h4 h5 =>
    obtain ⟨⟨_, hfm⟩, _⟩ := Qb5 hih h3
    obtain ⟨f1, l, f2, f3, f4⟩ := hfm
    simp only [List.append_nil] at f2
    subst f2
    refine Or.inr (Or.inr (Or.inr ⟨ms, st2.m.K.get, by simp [kd, hs], ⟨h1, h2, by simp only [nx, hs, ← hm]; exact f1, fun j => ?_, fun j hj hn => ?_, fun j hj => ?_, by simp [hs], by simp [hs, wl], by simp [hs, nx, hm], by simp [hs], by simp only [wl, hs]; exact h4, by simp [hs, wl, hm]⟩⟩))
    · simp only [V, hs, ← hm]
      exact Qcm st1.m.K ms st2.m.K j h5
    · simp only [nx, hs, wl, ← hm] at hj hn
      have := f3 j hj hn
      rw [this]
      simp only [V, ← hm]
      exact Qb7 ms st1.m.K j h5
    · simp only [wl, hs] at hj
      rcases f4 j hj with ⟨k, hk⟩ | hk
      · refine Or.inl ⟨k, ?_⟩
        simp only [V, ← hm]
        rw [← Qb7 ms st1.m.K j h5]
        exact hk
      · exact Or.inr (by simp only [nx, hs, ← hm]; exact hk)
  | pan x st2 ms h0 h1 h2 h3 h4 h5 =>
    obtain ⟨⟨_, hfm⟩, _⟩ := Qb5 hih h3
    obtain ⟨f1, l, f2, f3, f4⟩ := hfm
    simp only [List.append_nil] at f2
    subst f2
    refine Or.inr (Or.inr (Or.inr ⟨ms, st2.m.K.get, by simp [kd, hs], ⟨h1, h2, by simp only [nx, hs, ← hm]; exact f1, fun j => ?_, fun j hj hn => ?_, fun j hj => ?_, by simp [hs], by simp [hs, wl], by simp [hs, nx, hm], by simp [hs], by simp only [wl, hs]; exact h4, by simp [hs, wl, hm]⟩⟩))
    · simp only [V, hs, ← hm]
      exact Qcm st1.m.K ms st2.m.K j h5
    · simp only [nx, hs, wl, ← hm] at hj hn
      have := f3 j hj hn
      rw [this]
      simp only [V, ← hm]
      exact Qb7 ms st1.m.K j h5
    · simp only [wl, hs] at hj
      rcases f4 j hj with ⟨k, hk⟩ | hk
      · refine Or.inl ⟨k, ?_⟩
        simp only [V, ← hm]
        rw [← Qb7 ms st1.m.K j h5]
        exact hk
      · exact Or.inr (by simp only [nx, hs, ← hm]; exact hk)
variable (hih : Qbz P ih)
include hih
theorem nx_le {i : Nat} (hi : i < ops.size) : C.nx i ≤ C.nx (i + 1) := by
  rcases C.facts hih hi with ⟨_, q, _⟩ | ⟨a, _, q, _⟩ | ⟨k, _, q⟩ | ⟨ms, K2, _, q⟩
  · rw [q.nx]; exact Nat.le_refl _
  · rw [q.nx]; exact Nat.le_refl _
  · rw [q.nx]; omega
  · exact q.nx
theorem nx_mono {i k : Nat} (h : i ≤ k) (hk : k ≤ ops.size) : C.nx i ≤ C.nx k := by
  induction k with
  | zero => have : i = 0 := by omega
            subst this; exact Nat.le_refl _
  | succ k ih' =>
    by_cases e : i = k + 1
    · subst e; exact Nat.le_refl _
    · exact Nat.le_trans (ih' (by omega) (by omega)) (C.nx_le hih (by omega))
theorem hV {m j : Nat} (hm : m < ops.size) (ht : ¬C.tch m j) : C.V (m + 1) j = C.V m j := by
  have ht1 : ¬(C.nx m ≤ j ∧ j < C.nx (m + 1)) := fun h => ht (Or.inl h)
  have ht2 : j ∉ C.wl m := fun h => ht (Or.inr h)
  rcases C.facts hih hm with ⟨_, q, _⟩ | ⟨a, _, q, _⟩ | ⟨k, _, q⟩ | ⟨ms, K2, _, q⟩
  · rw [q.V]
  · rw [q.V]
  · rw [q.V, QbW, if_neg]
    intro e
    rw [q.nx] at ht1
    omega
  · rw [q.V]
    by_cases hj : j ∈ ms.map (·.2)
    · rw [if_pos hj]
    · rw [if_neg hj, q.K2 j (by omega) ht2, if_neg hj]
theorem lists : ∀ i, i ≤ ops.size → (∀ q ∈ (C.sq i).nl, q.1 < i ∧ q.2 = C.nx q.1 ∧ C.nx (q.1 + 1) = C.nx q.1 + 1 ∧ C.kd q.1 = .new) ∧ (∀ k, k < i → C.kd k = .new → (k, C.nx k) ∈ (C.sq i).nl) ∧
    (∀ k ms, k < i → C.kd k = .chain ms → (k, C.wl k) ∈ (C.sq i).cl) ∧ (match (C.sq i).cl with
      | [] => ∀ k ms, k < i → C.kd k ≠ .chain ms
      | c :: _ => c.1 < i ∧ (∃ ms, C.kd c.1 = .chain ms) ∧ ∀ k ms, c.1 < k → k < i → C.kd k ≠ .chain ms) ∧
    (∀ q ∈ (C.sq i).ol, q.1 < i ∧ q.2.1 = C.nx q.1 ∧ q.2.2 = C.nx (q.1 + 1)) ∧ (∀ k a, k < i → C.kd k = .one a → (k, a) ∈ (C.sq i).rl) := by
  intro i
  induction i with
  | zero =>
    intro _
    rw [C.zero, C.e1, C.e2, C.e3, C.e4]
    exact ⟨fun q h => (by cases h), fun k h => (by omega), fun k ms h => (by omega), fun k ms h => (by omega), fun q h => (by cases h), fun k a h => (by omega)⟩
  | succ i ih' =>
    intro hi
    obtain ⟨h1, h2, h3, h4, h5, h6⟩ := ih' (by omega)
    have up : ∀ {k : Nat} {Q : Prop}, k < i + 1 → (k = i → Q) → (k < i → Q) → Q := fun hk h g => by
      rcases Nat.lt_or_ge _ i with h' | h'
      · exact g h'
      · exact h (by omega)
    rcases C.facts hih (show i < ops.size by omega) with ⟨hk, q, qr⟩ | ⟨a, hk, q, qr, _⟩ | ⟨k, hk, q⟩ | ⟨ms, K2, hk, q⟩
    · rw [q.nl, q.cl, q.ol, qr]
      refine ⟨fun q hq => by obtain ⟨g1, g2⟩ := h1 q hq; exact ⟨by omega, g2⟩, fun k hk' hn => up hk' (fun e => by subst e; rw [hk] at hn; cases hn) (fun h => h2 k h hn), fun k ms hk' hn => up hk' (fun e => by subst e; rw [hk] at hn; cases hn) (fun h => h3 k ms h hn), ?_, fun q hq => by obtain ⟨g1, g2⟩ := h5 q hq; exact ⟨by omega, g2⟩, fun k a hk' hn => up hk' (fun e => by subst e; rw [hk] at hn; cases hn) (fun h => h6 k a h hn)⟩
      split
      · rename_i e; rw [e] at h4
        exact fun k ms hk' hn => up hk' (fun e => by subst e; rw [hk] at hn; cases hn) (fun h => h4 k ms h hn)
      · rename_i e; rw [e] at h4
        obtain ⟨g1, g2, g3⟩ := h4
        exact ⟨by omega, g2, fun k ms hc hk' hn => up hk' (fun e => by subst e; rw [hk] at hn; cases hn) (fun h => g3 k ms hc h hn)⟩
    · rw [q.nl, q.cl, q.ol, qr]
      refine ⟨fun q hq => by obtain ⟨g1, g2⟩ := h1 q hq; exact ⟨by omega, g2⟩, fun k hk' hn => up hk' (fun e => by subst e; rw [hk] at hn; cases hn) (fun h => h2 k h hn), fun k ms hk' hn => up hk' (fun e => by subst e; rw [hk] at hn; cases hn) (fun h => h3 k ms h hn), ?_, fun q hq => by obtain ⟨g1, g2⟩ := h5 q hq; exact ⟨by omega, g2⟩, fun k a' hk' hn => up hk' (fun e => by subst e; rw [hk] at hn; cases hn; simp) (fun h => List.mem_cons_of_mem _ (h6 k a' h hn))⟩
      split
      · rename_i e; rw [e] at h4
        exact fun k ms hk' hn => up hk' (fun e => by subst e; rw [hk] at hn; cases hn) (fun h => h4 k ms h hn)
      · rename_i e; rw [e] at h4
        obtain ⟨g1, g2, g3⟩ := h4
        exact ⟨by omega, g2, fun k ms hc hk' hn => up hk' (fun e => by subst e; rw [hk] at hn; cases hn) (fun h => g3 k ms hc h hn)⟩
    · rw [q.nl, q.cl, q.ol, q.rl]
      refine ⟨fun q' hq => ?_, fun k hk' hn => up hk' (fun e => by subst e; simp) (fun h => List.mem_cons_of_mem _ (h2 k h hn)), fun k ms hk' hn => up hk' (fun e => by subst e; rw [hk] at hn; cases hn) (fun h => h3 k ms h hn), ?_, fun q' hq => ?_, fun k a hk' hn => up hk' (fun e => by subst e; rw [hk] at hn; cases hn) (fun h => h6 k a h hn)⟩
      · rcases List.mem_cons.1 hq with rfl | hq
        · exact ⟨by simp, rfl, q.nx, hk⟩
        · obtain ⟨g1, g2⟩ := h1 q' hq; exact ⟨by omega, g2⟩
      · split
        · rename_i e; rw [e] at h4
          exact fun k ms hk' hn => up hk' (fun e => by subst e; rw [hk] at hn; cases hn) (fun h => h4 k ms h hn)
        · rename_i e; rw [e] at h4
          obtain ⟨g1, g2, g3⟩ := h4
          exact ⟨by omega, g2, fun k ms hc hk' hn => up hk' (fun e => by subst e; rw [hk] at hn; cases hn) (fun h => g3 k ms hc h hn)⟩
      · rcases List.mem_cons.1 hq with rfl | hq
        · exact ⟨by simp, rfl, rfl⟩
        · obtain ⟨g1, g2⟩ := h5 q' hq; exact ⟨by omega, g2⟩
    · rw [q.nl, q.cl, q.ol, q.rl]
      refine ⟨fun q hq => by obtain ⟨g1, g2⟩ := h1 q hq; exact ⟨by omega, g2⟩, fun k hk' hn => up hk' (fun e => by subst e; rw [hk] at hn; cases hn) (fun h => h2 k h hn), fun k ms hk' hn => up hk' (fun e => by subst e; simp) (fun h => List.mem_cons_of_mem _ (h3 k ms h hn)), ?_, fun q' hq => ?_, fun k a hk' hn => up hk' (fun e => by subst e; rw [hk] at hn; cases hn) (fun h => h6 k a h hn)⟩
      · exact ⟨by simp, ⟨ms, hk⟩, fun k ms hc hk' => by simp at hc; omega⟩
      · rcases List.mem_cons.1 hq with rfl | hq
        · exact ⟨by simp, rfl, rfl⟩
        · obtain ⟨g1, g2⟩ := h5 q' hq; exact ⟨by omega, g2⟩
theorem chains : ∀ (m : Nat), m < ops.size → ∀ ms, C.kd m = .chain ms → ∀ k ms', k < m → C.kd k = .chain ms' → pr (ops := ops) (pm := pm) k m := by
  intro m
  induction m using Nat.strongRecOn with
  | _ m ih' =>
    intro hm ms hk k ms' hkm hk'
    obtain ⟨_, _, _, h4, _⟩ := C.lists hih m (by omega)
    rcases C.facts hih hm with ⟨h, _⟩ | ⟨a, h, _⟩ | ⟨b, h, _⟩ | ⟨ms2, K2, h, q⟩
    · rw [hk] at h; cases h
    · rw [hk] at h; cases h
    · rw [hk] at h; cases h
    · have hcb := q.cb
      unfold QdD at hcb
      split at h4
      · exact absurd hk' (h4 k ms' hkm)
      · rename_i c l e
        rw [e] at hcb
        simp only at hcb
        obtain ⟨g1, ⟨ms3, g2⟩, g3⟩ := h4
        rcases Nat.lt_trichotomy k c.1 with hlt | heq | hgt
        · exact C.pr_tr m c.1 k (ih' c.1 g1 (by omega) ms3 g2 k ms' hlt hk') ⟨hm, hcb⟩
        · rw [heq]; exact ⟨hm, hcb⟩
        · exact absurd hk' (g3 k ms' hgt hkm)
end Sq
namespace Sq
variable {P : Program} {ih : Job → St → Option Ou} {ops : Array Oper} {pm wr : Tr Nat} {nx0 n : Nat} {s0 : Ds} (C : Sq P ih ops pm wr nx0 n s0) (hih : Qbz P ih)
include hih
section
variable (h0 : ∀ j b, C.V 0 j = some b → j < C.nx 0)
include h0
theorem dom : ∀ i, i ≤ ops.size → ∀ j b, C.V i j = some b → j < C.nx i := by
  intro i
  induction i with
  | zero => exact fun _ => h0
  | succ i ih' =>
    intro hi j b h
    have hi' : i < ops.size := by omega
    have IH := ih' (by omega)
    rcases C.facts hih hi' with ⟨_, q, _⟩ | ⟨a, _, q, _⟩ | ⟨k, _, q⟩ | ⟨ms, K2, _, q⟩
    · rw [q.V] at h; rw [q.nx]; exact IH j b h
    · rw [q.V] at h; rw [q.nx]; exact IH j b h
    · rw [q.V, QbW] at h
      rw [q.nx]
      by_cases e : j = C.nx i
      · omega
      · rw [if_neg e] at h; have := IH j b h; omega
    · rw [q.V] at h
      by_cases hj : j ∈ ms.map (·.2)
      · rw [if_pos hj] at h; exact Nat.lt_of_lt_of_le (IH j b h) q.nx
      · rw [if_neg hj] at h
        rcases Nat.lt_or_ge j (C.nx (i + 1)) with hlt | hge
        · exact hlt
        · exfalso
          by_cases hw : j ∈ C.wl i
          · rcases q.wl j hw with ⟨k, hk⟩ | hr
            · rw [if_neg hj] at hk
              have := IH j k hk
              have := q.nx
              omega
            · omega
          · rw [q.K2 j (Or.inr hge) hw, if_neg hj] at h
            have := IH j b h
            have := q.nx
            omega
theorem cls {i j : Nat} (hi : i < ops.size) (ht : C.tch i j) : (C.kd i = .new ∧ j = C.nx i ∧ C.nx (i + 1) = C.nx i + 1) ∨ (∃ ms, C.kd i = .chain ms ∧ ((C.nx i ≤ j ∧ j < C.nx (i + 1)) ∨ (j ∈ C.wl i ∧ j < C.nx i ∧ (∃ b, C.V i j = some b) ∧ j ∉ ms.map (·.2)))) := by
  rcases C.facts hih hi with ⟨_, q, _⟩ | ⟨a, _, q, _⟩ | ⟨k, hk, q⟩ | ⟨ms, K2, hk, q⟩
  · rcases ht with h | h
    · rw [q.nx] at h; omega
    · rw [q.wl] at h; cases h
  · rcases ht with h | h
    · rw [q.nx] at h; omega
    · rw [q.wl] at h; cases h
  · rcases ht with h | h
    · rw [q.nx] at h; exact Or.inl ⟨hk, by omega, q.nx⟩
    · rw [q.wl] at h; cases h
  · refine Or.inr ⟨ms, hk, ?_⟩
    rcases ht with h | h
    · exact Or.inl h
    · rcases q.wl j h with ⟨b, hb⟩ | hr
      · by_cases hj : j ∈ ms.map (·.2)
        · rw [if_pos hj] at hb; cases hb
        · rw [if_neg hj] at hb
          exact Or.inr ⟨h, C.dom hih h0 i (by omega) j b hb, ⟨b, hb⟩, hj⟩
      · exact Or.inl hr
theorem tch_lt {i j : Nat} (hi : i < ops.size) (ht : C.tch i j) : j < C.nx (i + 1) := by
  rcases C.cls hih h0 hi ht with ⟨_, h, h'⟩ | ⟨ms, _, h | h⟩
  · omega
  · exact h.2
  · have := C.nx_le hih hi; omega
end
theorem new_seen {i m : Nat} {ms : List (Nat × Nat)} {K2 : Nat → Option Bx} (hm : m < ops.size) (q : C.IsChain m ms K2) (hlt : i < m) (hk : C.kd i = .new) (hj : C.nx i ∉ ms.map (·.2)) : pr (ops := ops) (pm := pm) i m := by
  refine ⟨hm, ?_⟩
  cases hb : QaQ pm m i with
  | true => rfl
  | false =>
    exfalso
    apply hj
    rw [q.mse]
    have := (C.lists hih m (by omega)).2.1 i hlt hk
    exact List.mem_map.2 ⟨(i, C.nx i), List.mem_filter.2 ⟨this, by simp [hb]⟩, rfl⟩
theorem hT (h0 : ∀ j b, C.V 0 j = some b → j < C.nx 0) {i m j : Nat} (hlt : i < m) (hm : m < ops.size) (h1 : C.tch i j) (h2 : C.tch m j) : pr (ops := ops) (pm := pm) i m := by
  have hj := C.tch_lt hih h0 (by omega : i < ops.size) h1
  have hmono := C.nx_mono hih (by omega : i + 1 ≤ m) (by omega)
  rcases C.cls hih h0 hm h2 with ⟨_, h, _⟩ | ⟨ms, hk, h | ⟨hw, _, _, hnm⟩⟩
  · omega
  · omega
  · rcases C.facts hih hm with ⟨g, _⟩ | ⟨a, g, _⟩ | ⟨b, g, _⟩ | ⟨ms2, K2, g, q⟩
    · rw [hk] at g; cases g
    · rw [hk] at g; cases g
    · rw [hk] at g; cases g
    · rw [hk] at g; cases g
      rcases C.cls hih h0 (by omega : i < ops.size) h1 with ⟨hk', e, _⟩ | ⟨ms', hk', _⟩
      · subst e
        exact C.new_seen hih hm q hlt hk' hnm
      · exact C.chains hih m hm ms hk i ms' hlt hk'
theorem owner {j : Nat} (h1 : C.nx 0 ≤ j) : ∀ i, i ≤ ops.size → j < C.nx i → ∃ k, k < i ∧ C.nx k ≤ j ∧ j < C.nx (k + 1)
  | 0, _, h => by omega
  | i + 1, hi, h => by
    rcases Nat.lt_or_ge j (C.nx i) with hlt | hge
    · obtain ⟨k, g1, g2⟩ := owner h1 i (by omega) hlt
      exact ⟨k, by omega, g2⟩
    · exact ⟨i, by omega, hge, h⟩
theorem same_range {j k m : Nat} (hk : k < ops.size) (hm : m < ops.size) (h1 : C.nx k ≤ j ∧ j < C.nx (k + 1)) (h2 : C.nx m ≤ j ∧ j < C.nx (m + 1)) : k = m := by
  rcases Nat.lt_trichotomy k m with h | h | h
  · have := C.nx_mono hih (by omega : k + 1 ≤ m) (by omega); omega
  · exact h
  · have := C.nx_mono hih (by omega : m + 1 ≤ k) (by omega); omega
theorem base (h0 : ∀ j b, C.V 0 j = some b → j < C.nx 0) {j : Nat} (hj : j < C.nx 0) : ∀ i, i ≤ ops.size → ∀ b, C.V i j = some b → ∃ b', C.V 0 j = some b'
  | 0, _, b, h => ⟨b, h⟩
  | i + 1, hi, b, h => by
    have hi' : i < ops.size := by omega
    by_cases ht : C.tch i j
    · have hmono := C.nx_mono hih (Nat.zero_le i) (by omega)
      rcases C.cls hih h0 hi' ht with ⟨_, e, _⟩ | ⟨ms, _, g | ⟨_, _, ⟨b', hb'⟩, _⟩⟩
      · omega
      · omega
      · exact base h0 hj i (by omega) b' hb'
    · rw [C.hV hih hi' ht] at h
      exact base h0 hj i (by omega) b h
theorem ki_ok (h0 : ∀ j b, C.V 0 j = some b → j < C.nx 0) {S0 : Nat → Prop} (hS0 : ∀ j b, C.V 0 j = some b → S0 j) {i j : Nat} {b : Bx} (hi : i < ops.size) (h : C.Ki i j = some b) :
    C.V i j = some b ∧ (S0 j ∨ ∃ k, pr (ops := ops) (pm := pm) k i ∧ C.nx k ≤ j ∧ j < C.nx (k + 1)) ∧ ∀ m, m < ops.size → C.tch m j → m = i ∨ pr (ops := ops) (pm := pm) m i ∨ pr (ops := ops) (pm := pm) i m := by
  have later : ∀ {m}, C.V i j = some b → i < m → m < ops.size → C.tch m j → ∃ ms K2, C.kd m = .chain ms ∧ C.IsChain m ms K2 ∧ j ∈ C.wl m := by
    intro m hv hlt hm ht
    have hj := C.dom hih h0 i (by omega) j b hv
    have hmono := C.nx_mono hih (by omega : i ≤ m) (by omega)
    rcases C.cls hih h0 hm ht with ⟨_, e, _⟩ | ⟨ms, hk, g | ⟨g, _⟩⟩
    · omega
    · omega
    · rcases C.facts hih hm with ⟨g', _⟩ | ⟨a, g', _⟩ | ⟨b, g', _⟩ | ⟨ms2, K2, g', q⟩
      · rw [hk] at g'; cases g'
      · rw [hk] at g'; cases g'
      · rw [hk] at g'; cases g'
      · exact ⟨ms2, K2, g', q, g⟩
  rcases C.facts hih hi with ⟨hk, q, _⟩ | ⟨a, hk, q, _, _, hseen, hall⟩ | ⟨k, hk, q⟩ | ⟨ms, K2, hk, q⟩
  · unfold Ki at h; rw [hk] at h; cases h
  · unfold Ki at h
    rw [hk] at h
    simp only at h
    by_cases e : j = a
    · subst e
      rw [if_pos rfl] at h
      have hj := C.dom hih h0 i (by omega) j b h
      obtain ⟨_, _, l3, _, l5, _⟩ := C.lists hih i (by omega)
      have hs : j < nx0 ∨ ∃ q ∈ (C.sq i).ol, QaQ pm i q.1 = true ∧ q.2.1 ≤ j ∧ j < q.2.2 := by
        unfold QkN at hseen
        simp only [Bool.or_eq_true, List.any_eq_true, Bool.and_eq_true] at hseen
        rcases hseen with h1 | ⟨q, h1, ⟨h2, h3⟩, h4⟩
        · rw [Nat.blt, Nat.ble_eq] at h1; exact Or.inl h1
        · rw [Nat.blt, Nat.ble_eq] at h4; exact Or.inr ⟨q, h1, h2, by simpa using h3, h4⟩
      have hn0 : C.nx 0 = nx0 := by unfold nx; rw [C.zero, C.n0]
      have own : ∀ m, m < ops.size → C.nx m ≤ j → j < C.nx (m + 1) → pr (ops := ops) (pm := pm) m i := by
        intro m hm h1 h2
        rcases hs with h3 | ⟨q', h3, h4, h5, h6⟩
        · have := C.nx_mono hih (Nat.zero_le m) (by omega); omega
        · obtain ⟨g1, g2, g3⟩ := l5 q' h3
          have := C.same_range hih (by omega) hm ⟨g2 ▸ h5, g3 ▸ h6⟩ ⟨h1, h2⟩
          exact ⟨hi, by rw [← this]; exact h4⟩
      refine ⟨h, ?_, fun m hm ht => ?_⟩
      · rcases hs with h3 | ⟨q', h3, h4, h5, h6⟩
        · obtain ⟨b', hb'⟩ := C.base hih h0 (by omega) i (by omega) b h
          exact Or.inl (hS0 j b' hb')
        · obtain ⟨g1, g2, g3⟩ := l5 q' h3
          exact Or.inr ⟨q'.1, ⟨hi, h4⟩, g2 ▸ h5, g3 ▸ h6⟩
      · rcases Nat.lt_trichotomy m i with hlt | rfl | hgt
        · right; left
          rcases C.cls hih h0 hm ht with ⟨_, e, e'⟩ | ⟨ms, hk', g | ⟨g, _⟩⟩
          · exact own m hm (by omega) (by omega)
          · exact own m hm g.1 g.2
          · have hc := l3 m ms hlt hk'
            have := (List.all_eq_true.1 hall) _ hc
            simp only [Bool.or_eq_true, Bool.not_eq_true'] at this
            rcases this with this | this
            · exact ⟨hi, this⟩
            · rw [List.contains_iff_mem.2 g] at this; cases this
        · exact Or.inl rfl
        · right; right
          obtain ⟨ms, K2, hk', q', g⟩ := later h hgt hm ht
          obtain ⟨_, _, _, _, _, l6⟩ := C.lists hih m (by omega)
          have hr := l6 i j hgt hk
          have := (List.all_eq_true.1 q'.ra) _ hr
          simp only [Bool.or_eq_true, Bool.not_eq_true'] at this
          rcases this with this | this
          · exact ⟨hm, this⟩
          · rw [List.contains_iff_mem.2 g] at this; cases this
    · rw [if_neg e] at h; cases h
  · unfold Ki at h; rw [hk] at h; cases h
  · unfold Ki at h
    rw [hk] at h
    simp only at h
    by_cases e : j ∈ ms.map (·.2)
    · rw [if_pos e] at h; cases h
    · rw [if_neg e] at h
      have hj := C.dom hih h0 i (by omega) j b h
      have before : ∀ m, m < i → C.tch m j → pr (ops := ops) (pm := pm) m i := by
        intro m hlt ht
        rcases C.cls hih h0 (by omega) ht with ⟨hk', e', _⟩ | ⟨ms', hk', _⟩
        · subst e'; exact C.new_seen hih hi q hlt hk' e
        · exact C.chains hih i hi ms hk m ms' hlt hk'
      refine ⟨h, ?_, fun m hm ht => ?_⟩
      · rcases Nat.lt_or_ge j (C.nx 0) with hlt | hge
        · obtain ⟨b', hb'⟩ := C.base hih h0 hlt i (by omega) b h
          exact Or.inl (hS0 j b' hb')
        · obtain ⟨k, hk1, hk2⟩ := C.owner hih hge i (by omega) hj
          exact Or.inr ⟨k, before k hk1 (Or.inl hk2), hk2⟩
      · rcases Nat.lt_trichotomy m i with hlt | rfl | hgt
        · exact Or.inr (Or.inl (before m hlt ht))
        · exact Or.inl rfl
        · obtain ⟨ms', K2', hk', q', g⟩ := later h hgt hm ht
          exact Or.inr (Or.inr (C.chains hih m hm ms' hk' i ms hgt hk))
end Sq
end Go.Proofs.Ytfhmdlihnidjoaa.EX
