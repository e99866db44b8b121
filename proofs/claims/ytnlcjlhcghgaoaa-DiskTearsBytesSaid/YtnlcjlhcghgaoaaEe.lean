
/-
  Runs by computation: append.
-/
import Derived.Test.YtnlcjlhcghgaoaaEd
import Derived.Deep.Upon
import Derived.Lib.AppendStr
namespace Go.Proofs.Ytnlcjlhcghgaoaa.EX
open Go Go.RowKit
set_option linter.unusedVariables false
set_option linter.unusedSimpArgs false
set_option linter.unusedSectionVars false
set_option maxRecDepth 10000
variable [FC]

def Mm.move (m : Mm) (i : Nat) (k : Bx) : Mm := ⟨(m.K.set i none).set m.nx (some k), m.nx + 1, i :: m.lg⟩
def Mm.newR (m : Mm) (k : Bx) : Mm := ⟨m.K.set m.nx (some k), m.nx + 1, m.lg⟩
structure ApI where
  e : TypeId
  i : TypeInfo
  z : Value
def apInfo (P : Program) (t t' : TypeId) : Option ApI :=
  match Nat.beq t t', P.underlying t with
  | true, some (.slice e) => match P.info? e with
    | some i => match i.zero with
      | some z => match Nat.beq z.cells.size i.size && Nat.blt 0 i.size && Nat.ble i.bytes 100000 with
        | true => some ⟨e, i, z⟩
        | false => none
      | none => none
    | none => none
  | _, _ => none
/-- The cells that are appended, and how many elements. -/
def apSrc (m : Mm) (size : Nat) (y : SV) : Option (Nat × List SV) :=
  match y with
  | .s j o l _ => match m.K.get j with
    | some k => match Nat.beq ((k.cs.drop o).take (l * size)).length (l * size) && Nat.blt 0 l && Nat.ble l 100000 && ((k.cs.drop o).take (l * size)).all oneE with
      | true => some (l, (k.cs.drop o).take (l * size))
      | false => none
    | none => none
  | .r j o l _ => match m.K.get j with
    | some k => match Nat.beq ((k.cs.drop o).take (l * size)).length (l * size) && Nat.blt 0 l && Nat.ble l 100000 && ((k.cs.drop o).take (l * size)).all oneE with
      | true => some (l, (k.cs.drop o).take (l * size))
      | false => none
    | none => none
  | .q j o l _ => match Nat.beq (((FC.cs j).drop o).take (l * size)).length (l * size) && Nat.blt 0 l && Nat.ble l 100000 && (((FC.cs j).drop o).take (l * size)).all oneE with
    | true => some (l, ((FC.cs j).drop o).take (l * size))
    | false => none
  | _ => none
def apG (P : Program) (ρ : Rho) (m : Mm) (o : Oper) : Option (SV × Mm) :=
  match o.op with
  | .call ⟨.builtin .append, ⟨[x, y]⟩, ⟨[t, t']⟩⟩ => match apInfo P t t', ρ x, ρ y, tinyB m.nx with
    | some I, some u, some v, true => match apSrc m I.i.size v with
      | some (n, news) => match u with
        | .v (.slice none 0 0) => some (.r m.nx 0 n n, m.newR ⟨I.e, news, I.i.size, false, []⟩)
        | .s i o l c => match m.K.get i with
          | some k => match Nat.blt c (l + n) && Nat.ble l 100000 && Nat.beq ((k.cs.drop o).take (l * I.i.size)).length (l * I.i.size) with
            | true => some (.r m.nx 0 (l + n) (l + n), m.newR ⟨I.e, (k.cs.drop o).take (l * I.i.size) ++ news, I.i.size, false, []⟩)
            | false => none
          | none => none
        | .r i 0 l x => match m.K.get i, tinyB i with
          | some k, true => match Nat.beq l x && Nat.ble l 100000 && Nat.beq k.cs.length (l * I.i.size) && Nat.beq k.sz I.i.size && Nat.beq k.ty I.e && nilB k.es with
            | true => some (.r m.nx 0 (l + n) (l + n), m.move i ⟨I.e, k.cs ++ news, I.i.size, false, []⟩)
            | false => none
          | _, _ => none
        | _ => none
      | none => none
    | _, _, _, _ => none
  | _ => none
section
variable {P : Program} {w0 : World} {F : List RF} {B : Pl} {K : Nat → Option Bx} {nx : Nat} {S : Nat → Prop} {m m' : Mm} {a : Act} {w : World} {ρ : Rho} {o : Oper} {x : SV}
/-- A row moves on under a new name, in its block. -/
theorem Re.moved (R : Re w0 F B K S w) {i : Nat} {k k' : Bx} (hk : K i = some k) {w' : World} {c : Nat} {rest : List Value} (hg : w.grownBy w' (some (B i).1)) (hkb : bdK S k') (hr : rowOk c k' rest) (hS : ∀ j, S j → j < nx)
    (hh : w'.heap[(B i).1]? = some (objOf B k' rest)) :
    Re w0 F (setPl B nx ((B i).1, c)) (setF (setF K i none) nx (some k')) (ext S nx (nx + 1)) w' ∧ Ag nx (nx + 1) B (setPl B nx ((B i).1, c)) := by
  have hag' : Ag nx (nx + 1) B (setPl B nx ((B i).1, c)) := fun j hj => by unfold setPl; rw [if_neg (by omega)]
  have hag : ∀ j, S j → setPl B nx ((B i).1, c) j = B j := hag'.on hS
  have hold : ∀ j k', K j = some k' → S j := fun j k' h => (R.bx j k' h).1
  have hne : ∀ j k', K j = some k' → j ≠ i → (B j).1 ≠ (B i).1 := fun j k' h hj he => hj (R.nd j i _ _ h hk he)
  refine ⟨⟨fun j kj h => ?_, fun p q kp kq hp hq he => ?_, fun j kj h => ?_, fun f hf => ?_, ?_⟩, hag'⟩
  · unfold setF at h
    by_cases e : j = nx
    · subst e; simp at h; subst h
      refine ⟨Or.inr ⟨Nat.le_refl _, by omega⟩, bdK_mono ext_sub hkb, rest, by simpa [setPl] using hr, ?_⟩
      rw [objOf_ag hag hkb]
      simpa [setPl] using hh
    · rw [if_neg e] at h
      by_cases e2 : j = i
      · rw [if_pos e2] at h; cases h
      · rw [if_neg e2] at h
        obtain ⟨h1, h2, rest', h4, h3⟩ := R.bx j kj h
        refine ⟨Or.inl h1, bdK_mono ext_sub h2, rest', by rw [hag j h1]; exact h4, ?_⟩
        rw [objOf_ag hag h2, hag j h1, hg.block _ (R.lt h) (fun e => hne j _ h e2 (Option.some.inj e))]
        exact h3
  · have key : ∀ j kj, setF (setF K i none) nx (some k') j = some kj → (j = nx ∧ ((setPl B nx ((B i).1, c)) j).1 = (B i).1) ∨ (j ≠ i ∧ ∃ kj, K j = some kj ∧ ((setPl B nx ((B i).1, c)) j).1 = (B j).1) := fun j kj h => by
      unfold setF at h
      by_cases e : j = nx
      · subst e; exact Or.inl ⟨rfl, by simp [setPl]⟩
      · rw [if_neg e] at h
        by_cases e2 : j = i
        · rw [if_pos e2] at h; cases h
        · rw [if_neg e2] at h
          exact Or.inr ⟨e2, _, h, by rw [hag j (hold _ _ h)]⟩
    rcases key p kp hp with ⟨rfl, hp1⟩ | ⟨hp1, _, hp2, hp3⟩ <;> rcases key q kq hq with ⟨rfl, hq1⟩ | ⟨hq1, _, hq2, hq3⟩
    · rfl
    · rw [hp1, hq3] at he; exact absurd he.symm (hne _ _ hq2 hq1)
    · rw [hq1, hp3] at he; exact absurd he (hne _ _ hp2 hp1)
    · rw [hp3, hq3] at he; exact R.nd _ _ _ _ hp2 hq2 he
  · unfold setF at h
    by_cases e : j = nx
    · subst e; simp only [setPl, if_true]; exact R.lo i k hk
    · rw [if_neg e] at h
      by_cases e2 : j = i
      · rw [if_pos e2] at h; cases h
      · rw [if_neg e2] at h
        rw [hag j (hold _ _ h)]; exact R.lo j kj h
  · obtain ⟨h1, h2⟩ := R.fs f hf
    refine ⟨f.st w w' h1 (fun b hb => hg.block b (f.lt w h1 b hb) (fun e => h2 i k hk (Option.some.inj e ▸ hb))), fun j kj h => ?_⟩
    unfold setF at h
    by_cases e : j = nx
    · subst e; simp only [setPl, if_true]; exact h2 i k hk
    · rw [if_neg e] at h
      by_cases e2 : j = i
      · rw [if_pos e2] at h; cases h
      · rw [if_neg e2] at h
        rw [hag j (hold _ _ h)]; exact h2 j kj h
  · have g := R.gr.1
    refine ⟨⟨hg.os.trans g.os, hg.tape.trans g.tape, hg.output.trans g.output, Nat.le_trans g.size hg.size, fun b hb hne' => ?_⟩, R.gr.2⟩
    rw [hg.block b (Nat.lt_of_lt_of_le hb g.size) (fun e => by have := R.lo i k hk; have := Option.some.inj e; omega)]
    exact g.block b hb hne'
/-- A name is forgotten. -/
theorem Re.drop (R : Re w0 F B K S w) (i : Nat) : Re w0 F B (setF K i none) S w := by
  have hs : ∀ j k, setF K i none j = some k → K j = some k := fun j k h => by
    unfold setF at h
    by_cases e : j = i
    · rw [if_pos e] at h; cases h
    · rw [if_neg e] at h; exact h
  exact ⟨fun j k h => R.bx j k (hs j k h), fun p q kp kq hp hq => R.nd p q kp kq (hs _ _ hp) (hs _ _ hq), fun j k h => R.lo j k (hs j k h), fun f hf => ⟨(R.fs f hf).1, fun j k h => (R.fs f hf).2 j k (hs j k h)⟩, R.gr⟩
theorem take_cells (R : Re w0 F B K S w) {i : Nat} {k : Bx} (h : K i = some k) (off n : Nat) : ∀ j u, (denL B ((k.cs.drop off).take n))[j]? = some u → w.cell? ((⟨(B i).1, off, none⟩ : Addr).add j) = some u := by
  intro j u hj
  rw [denL_map, List.getElem?_map] at hj
  cases hq : ((k.cs.drop off).take n)[j]? with
  | none => rw [hq] at hj; cases hj
  | some y =>
    rw [hq] at hj
    simp only [Option.map_some, Option.some.injEq] at hj
    subst hj
    rw [addr_add]
    refine R.cell h ?_
    rw [List.getElem?_take] at hq
    split at hq
    · rw [List.getElem?_drop] at hq; exact hq
    · cases hq
theorem given_cells (hf : FcAt w) {i : Nat} (off n : Nat) : ∀ j u, (denL B (((FC.cs i).drop off).take n))[j]? = some u → w.cell? ((⟨FC.b i, FC.o i + off, none⟩ : Addr).add j) = some u := by
  intro j u hj
  rw [denL_map, List.getElem?_map] at hj
  cases hq : (((FC.cs i).drop off).take n)[j]? with
  | none => rw [hq] at hj; cases hj
  | some y =>
    rw [hq] at hj
    simp only [Option.map_some, Option.some.injEq] at hj
    subst hj
    rw [addr_add, Nat.add_assoc]
    refine (hf.cell (S := fun _ => True) ?_ B).1
    rw [List.getElem?_take] at hq
    split at hq
    · rw [List.getElem?_drop] at hq; exact hq
    · cases hq
theorem apSrc_ok (R : Re w0 F B m.K.get S w) {size : Nat} {y : SV} {n : Nat} {news : List SV} (h : apSrc m size y = some (n, news)) :
    ∃ ad c, den B y = .slice (some ad) n c ∧ (denL B news).length = n * size ∧ (∀ j u, (denL B news)[j]? = some u → w.cell? (ad.add j) = some u) ∧ (∀ u ∈ denL B news, u.oneCell' = true) ∧ bdL S news ∧ 0 < n ∧ n ≤ 100000 := by
  have key : ∀ j off l k, m.K.get j = some k → (match Nat.beq ((k.cs.drop off).take (l * size)).length (l * size) && Nat.blt 0 l && Nat.ble l 100000 && ((k.cs.drop off).take (l * size)).all oneE with
      | true => some (l, (k.cs.drop off).take (l * size))
      | false => none) = some (n, news) → l = n ∧ (denL B news).length = n * size ∧ (∀ q u, (denL B news)[q]? = some u → w.cell? ((⟨(B j).1, off, none⟩ : Addr).add q) = some u) ∧ (∀ u ∈ denL B news, u.oneCell' = true) ∧ bdL S news ∧ 0 < n ∧ n ≤ 100000 := by
    intro j off l k hk h
    cases hc : (Nat.beq ((k.cs.drop off).take (l * size)).length (l * size) && Nat.blt 0 l && Nat.ble l 100000 && ((k.cs.drop off).take (l * size)).all oneE) with
    | false => rw [hc] at h; cases h
    | true =>
      rw [hc] at h
      simp only [Option.some.injEq, Prod.mk.injEq] at h
      obtain ⟨rfl, rfl⟩ := h
      simp only [Bool.and_eq_true, List.all_eq_true] at hc
      obtain ⟨⟨⟨h1, h2⟩, h3⟩, h4⟩ := hc
      refine ⟨rfl, by rw [denL_length]; exact Nat.eq_of_beq_eq_true h1, take_cells R hk off _, fun u hu => ?_, ?_, by rw [Nat.blt, Nat.ble_eq] at h2; exact h2, by simpa using h3⟩
      · rw [denL_map] at hu
        obtain ⟨z, hz, rfl⟩ := List.mem_map.1 hu
        exact oneE_den B (h4 z hz)
      · exact bdL_iff.2 fun x hx => bdL_iff.1 (R.bx j k hk).2.1.1 x (List.mem_of_mem_drop (List.mem_of_mem_take hx))
  unfold apSrc at h
  split at h
  · rename_i j off l c
    cases hk : m.K.get j with
    | none => rw [hk] at h; cases h
    | some k =>
      rw [hk] at h
      obtain ⟨rfl, h1, h2, h3, h4, h5, h6⟩ := key j off l k hk h
      exact ⟨_, _, by simp only [den]; rfl, h1, h2, h3, h4, h5, h6⟩
  · rename_i j off l c
    cases hk : m.K.get j with
    | none => rw [hk] at h; cases h
    | some k =>
      rw [hk] at h
      obtain ⟨rfl, h1, h2, h3, h4, h5, h6⟩ := key j off l k hk h
      exact ⟨_, _, by simp only [den]; rfl, h1, h2, h3, h4, h5, h6⟩
  · rename_i j off l c
    cases hc : (Nat.beq (((FC.cs j).drop off).take (l * size)).length (l * size) && Nat.blt 0 l && Nat.ble l 100000 && (((FC.cs j).drop off).take (l * size)).all oneE) with
    | false => rw [hc] at h; cases h
    | true =>
      rw [hc] at h
      simp only [Option.some.injEq, Prod.mk.injEq] at h
      obtain ⟨rfl, rfl⟩ := h
      simp only [Bool.and_eq_true, List.all_eq_true] at hc
      obtain ⟨⟨⟨h1, h2⟩, h3⟩, h4⟩ := hc
      refine ⟨_, _, by simp only [den]; rfl, by rw [denL_length]; exact Nat.eq_of_beq_eq_true h1, given_cells R.fc off _, fun u hu => ?_, ?_, by rw [Nat.blt, Nat.ble_eq] at h2; exact h2, by simpa using h3⟩
      · rw [denL_map] at hu
        obtain ⟨z, hz, rfl⟩ := List.mem_map.1 hu
        exact oneE_den B (h4 z hz)
      · refine bdL_iff.2 fun x hx => ?_
        obtain ⟨q, hq⟩ := List.getElem?_of_mem (List.mem_of_mem_drop (List.mem_of_mem_take hx))
        exact (R.fc.cell hq B).2
  · cases h
theorem ap_op {x y : Operand} {t : TypeId} {v src r : Value} {w' : World} (ho : o.op = .call ⟨.builtin .append, ⟨[x, y]⟩, ⟨[t, t]⟩⟩) (hx : a.eval x = v) (hy : a.eval y = src)
    (hr : (Builtin.append_ #[t, t] o.type #[v, src]).run P w = .ok r w') : (execOp a.eval o).run P w = .ok (.value r) w' := by
  unfold execOp
  simp only [ho, resolve, invoke, builtin, Sem.run_bind, Sem.run_pure, Result.andThen_ok, List.map_toArray, List.map_cons, List.map_nil, hx, hy, hr]
theorem drew_re (R : Re w0 F B K S w) : Re w0 F B K S w.drew := R.below ⟨rfl, rfl, rfl, Nat.le_refl _, fun _ _ => rfl⟩
theorem apInfo_ok {t t' : TypeId} {I : ApI} (h : apInfo P t t' = some I) : t = t' ∧ P.underlying t = some (.slice I.e) ∧ P.info? I.e = some I.i ∧ I.i.zero = some I.z ∧ I.z.cells.size = I.i.size ∧ 0 < I.i.size ∧ I.i.bytes ≤ 100000 := by
  unfold apInfo at h
  cases hb : Nat.beq t t' with
  | false => rw [hb] at h; simp at h
  | true =>
    rw [hb] at h
    cases hu : P.underlying t with
    | none => rw [hu] at h; simp at h
    | some d =>
      rw [hu] at h
      cases d <;> (try (cases h; done))
      rename_i e
      simp only at h
      cases hi : P.info? e with
      | none => rw [hi] at h; cases h
      | some i =>
        rw [hi] at h
        simp only at h
        cases hz : i.zero with
        | none => rw [hz] at h; cases h
        | some z =>
          rw [hz] at h
          simp only at h
          cases hc : (Nat.beq z.cells.size i.size && Nat.blt 0 i.size && Nat.ble i.bytes 100000) with
          | false => rw [hc] at h; cases h
          | true =>
            rw [hc] at h
            simp only [Option.some.injEq] at h
            subst h
            simp only [Bool.and_eq_true] at hc
            obtain ⟨⟨h1, h2⟩, h3⟩ := hc
            exact ⟨Nat.eq_of_beq_eq_true hb, rfl, hi, hz, Nat.eq_of_beq_eq_true h1, by rw [Nat.blt, Nat.ble_eq] at h2; exact h2, by simpa using h3⟩
theorem ok_grown {I : ApI} {cs : List SV} {need old : Nat} {olds : Array Value} (hS : ∀ j, S j → j < m.nx) (R : Re w0 F B m.K.get S w) (ht : tinyB m.nx = true) (hz : I.z.cells.size = I.i.size) (hcs : bdL S cs) (hlen : cs.length = need * I.i.size) (hneed : need ≤ maxLen)
    (hds : olds.toList = denL B cs)
    (h : (execOp a.eval o).run P w = .ok (.value (.slice (some ⟨w.heap.size, 0, none⟩) need (grownCap w need old I.e))) (w.drew.alloc (.cells (olds ++ Builtin.zeroCells I.z.cells (grownCap w need old I.e - need)) I.e))) :
    OpOk P w0 F B S m.nx o a w (.r m.nx 0 need need) (m.newR ⟨I.e, cs, I.i.size, false, []⟩) := by
  have hge := grownCap_ge w need old I.e
  have hcm : grownCap w need old I.e ≤ maxLen := grownCap_le_maxLen w need old I.e hneed
  have hrl : (Builtin.zeroCells I.z.cells (grownCap w need old I.e - need)).toList.length = (grownCap w need old I.e - need) * I.i.size := by
    rw [Array.length_toList, size_zeroCells, hz]
  obtain ⟨h1, h2⟩ := (drew_re R).new ⟨I.e, cs, I.i.size, false, []⟩ (Builtin.zeroCells I.z.cells (grownCap w need old I.e - need)).toList (grownCap w need old I.e - need) ⟨hcs, fun e => by cases e⟩ ⟨hrl, Or.inr (by
    simp only [hlen, ← Nat.add_mul]; exact Nat.mul_le_mul_right _ (by omega))⟩ hS
  have ha : (denL B cs ++ (Builtin.zeroCells I.z.cells (grownCap w need old I.e - need)).toList).toArray = olds ++ Builtin.zeroCells I.z.cells (grownCap w need old I.e - need) := by
    apply Array.ext'; simp [hds]
  simp only [objOf, fzOf, ha] at h1
  refine ⟨_, _, _, h, Or.inl ?_, h2, by simp [Mm.newR], ?_, by simp [bd, Mm.newR, ext]⟩
  · simp only [den, setPl, if_true]
    congr 2
    omega
  · unfold Mm.newR
    simp only [Tr.get_set ht]
    exact h1
set_option maxHeartbeats 1000000 in
theorem apG_sound (hS : ∀ j, S j → j < m.nx) (R : Re w0 F B m.K.get S w) (hρ : RhoOk B S a ρ) (h : apG P ρ m o = some (x, m')) : OpOk P w0 F B S m.nx o a w x m' := by
  unfold apG at h
  split at h
  · rename_i x' y t t' ho
    split at h
    · rename_i I u v hI hx hy ht
      obtain ⟨rfl, hu, hi, hz, hzs, hsz, hby⟩ := apInfo_ok hI
      obtain ⟨e1, b1⟩ := hρ _ _ hx
      obtain ⟨e2, b2⟩ := hρ _ _ hy
      split at h
      · rename_i n news hs
        obtain ⟨ad, c, hd, hl, hn, h1, hnb, hn0, hn1⟩ := apSrc_ok R hs
        rw [hd] at e2
        have hml : (100000 : Nat) + 100000 ≤ maxLen := by unfold maxLen; omega
        have hbytes : ∀ q, q ≤ 100000 → (q + n) * I.i.bytes ≤ 140737488355328 := fun q hq => Nat.le_trans (Nat.mul_le_mul (by omega : q + n ≤ 200000) hby) (by omega)
        split at h
        · simp only [Option.some.injEq, Prod.mk.injEq] at h
          obtain ⟨rfl, rfl⟩ := h
          have hb0 := hbytes 0 (by omega)
          rw [Nat.zero_add] at hb0
          have hr := run_append_nil (P := P) w t o.type I.e I.i I.z hu hi hz ad n c (denL B news) hl hn hn0 (by omega) (by omega)
          refine ok_grown hS (olds := (denL B news).toArray) (old := 0) R ht hzs hnb (by rw [← denL_length B]; exact hl) (by omega) (by simp) ?_
          exact ap_op ho (by rw [e1]; simp [den]) e2 hr
        · rename_i i off l c'
          cases hk : m.K.get i with
          | none => rw [hk] at h; cases h
          | some k =>
            rw [hk] at h
            simp only at h
            cases hc : (Nat.blt c' (l + n) && Nat.ble l 100000 && Nat.beq ((k.cs.drop off).take (l * I.i.size)).length (l * I.i.size)) with
            | false => rw [hc] at h; cases h
            | true =>
              rw [hc] at h
              simp only [Option.some.injEq, Prod.mk.injEq] at h
              obtain ⟨rfl, rfl⟩ := h
              simp only [Bool.and_eq_true] at hc
              obtain ⟨⟨c1, c2⟩, c3⟩ := hc
              have c1' : c' < l + n := by rw [Nat.blt, Nat.ble_eq] at c1; exact c1
              have c2' : l ≤ 100000 := by simpa using c2
              have c3' := Nat.eq_of_beq_eq_true c3
              have hob : bdL S ((k.cs.drop off).take (l * I.i.size)) := bdL_iff.2 fun x hx => bdL_iff.1 (R.bx i k hk).2.1.1 x (List.mem_of_mem_drop (List.mem_of_mem_take hx))
              have hr := run_append_grow (P := P) w t o.type I.e I.i I.z hu hi hz ⟨(B i).1, off, none⟩ l c' (denL B ((k.cs.drop off).take (l * I.i.size))) (by rw [denL_length]; exact c3') (take_cells R hk off _) ad n c (denL B news) hl hn c1' (by omega) (growslice_fits c1' (hbytes l c2'))
              refine ok_grown hS (old := c') R ht hzs (bdL_append.2 ⟨hob, hnb⟩) (by rw [List.length_append, c3', ← denL_length B news, hl, Nat.add_mul]) (by omega) (olds := (denL B ((k.cs.drop off).take (l * I.i.size))).toArray ++ (denL B news).toArray) (by simp [denL_append]) ?_
              exact ap_op ho (by rw [e1]; simp [den]) e2 hr
        · rename_i i l x''
          split at h
          · rename_i k hk hti
            cases hc : (Nat.beq l x'' && Nat.ble l 100000 && Nat.beq k.cs.length (l * I.i.size) && Nat.beq k.sz I.i.size && Nat.beq k.ty I.e && nilB k.es) with
            | false => rw [hc] at h; cases h
            | true =>
              rw [hc] at h
              simp only [Option.some.injEq, Prod.mk.injEq] at h
              obtain ⟨rfl, rfl⟩ := h
              simp only [Bool.and_eq_true] at hc
              obtain ⟨⟨⟨⟨⟨c1, c2⟩, c3⟩, c4⟩, c5⟩, c6⟩ := hc
              have c1' := Nat.eq_of_beq_eq_true c1
              have c2' : l ≤ 100000 := by simpa using c2
              have c3' := Nat.eq_of_beq_eq_true c3
              have c4' := Nat.eq_of_beq_eq_true c4
              have c5' := Nat.eq_of_beq_eq_true c5
              subst c1'
              obtain ⟨hin, hkb, rest, ⟨hr1, hr2⟩, hh⟩ := R.bx i k hk
              have hmp : k.mp = false := by
                cases e : k.mp with
                | false => rfl
                | true => have := (hkb.2 e).2.1; omega
              rw [objOf_cells hmp (nilB_ok c6)] at hh
              replace hkb := hkb.1
              have hlen : (k.cs ++ news).length = (l + n) * I.i.size := by rw [List.length_append, c3', ← denL_length B news, hl, Nat.add_mul]
              by_cases hroom : n ≤ (B i).2
              · -- in place
                have hcsz : (denL B k.cs ++ rest).toArray.size = ((B i).2 + l) * I.i.size := by
                  simp only [List.size_toArray, List.length_append, denL_length, c3', hr1, c4', ← Nat.add_mul]
                  congr 1; omega
                have hr := run_append_room (P := P) w t o.type I.e I.i hu hi (B i).1 l ((B i).2 + l) (denL B k.cs ++ rest).toArray (by rw [hh, c5']) ad n c (denL B news) hl hn h1 (by omega) (by
                  rw [hcsz, hl, ← Nat.add_mul]; exact Nat.mul_le_mul_right _ (by omega))
                have hset : ((denL B k.cs ++ rest).toArray.toList.take (l * I.i.size) ++ denL B news ++ (denL B k.cs ++ rest).toArray.toList.drop (l * I.i.size + (denL B news).length)) = denL B (k.cs ++ news) ++ rest.drop (n * I.i.size) := by
                  have hkl : (denL B k.cs).length = l * I.i.size := by rw [denL_length]; exact c3'
                  simp only [denL_append]
                  rw [← hkl, List.take_left, hl]
                  congr 1
                  rw [← List.drop_drop, List.drop_left]
                rw [hset] at hr
                have hg : w.grownBy (w.setRow (B i).1 (denL B (k.cs ++ news) ++ rest.drop (n * I.i.size)).toArray) (some (B i).1) :=
                  ⟨rfl, rfl, rfl, by simp, fun q _ hq => setRow_other w (B i).1 q _ (fun e => hq (by rw [e]))⟩
                obtain ⟨g1, g2⟩ := R.moved hk (k' := ⟨I.e, k.cs ++ news, I.i.size, false, []⟩) (c := (B i).2 - n) (rest := rest.drop (n * I.i.size)) hg ⟨bdL_append.2 ⟨hkb, hnb⟩, fun e => by cases e⟩ ⟨by
                    rw [List.length_drop, hr1, c4', ← Nat.sub_mul], Or.inr (by
                    simp only [hlen, ← Nat.add_mul]
                    rcases hr2 with hr2 | hr2
                    · omega
                    · rw [c3', c4', ← Nat.add_mul] at hr2
                      have := Nat.le_of_mul_le_mul_right hr2 hsz
                      exact Nat.mul_le_mul_right _ (by omega))⟩ hS (by
                    have := setRow_heap w (B i).1 (denL B k.cs ++ rest).toArray (denL B (k.cs ++ news) ++ rest.drop (n * I.i.size)).toArray I.e (0, 0) (by rw [hh, c5'])
                    exact this)
                refine ⟨_, _, _, ap_op ho (by rw [e1]; simp only [den]) e2 hr, Or.inl ?_, g2, by simp [Mm.move], ?_, by simp [bd, Mm.move, ext]⟩
                · simp only [den, setPl, if_true]
                  congr 2
                  omega
                · unfold Mm.move
                  simp only [Tr.get_set ht, Tr.get_set hti]
                  exact g1
              · -- grown
                have hr := run_append_grow (P := P) w t o.type I.e I.i I.z hu hi hz ⟨(B i).1, 0, none⟩ l ((B i).2 + l) (denL B k.cs) (by rw [denL_length]; exact c3') (by
                  have := take_cells R hk 0 k.cs.length
                  simpa using this) ad n c (denL B news) hl hn (by omega) (by omega) (growslice_fits (by omega) (hbytes l c2'))
                have hok := ok_grown hS (old := (B i).2 + l) R ht hzs (bdL_append.2 ⟨hkb, hnb⟩) hlen (by omega) (olds := (denL B k.cs).toArray ++ (denL B news).toArray) (by simp [denL_append]) (ap_op ho (by rw [e1]; simp only [den]) e2 hr)
                obtain ⟨r, w', B', q1, q2, q3, q4, q5, q6⟩ := hok
                refine ⟨r, w', B', q1, q2, q3, by simp [Mm.move], ?_, by simp [bd, Mm.move, ext]⟩
                have q7 := q5.drop i
                unfold Mm.newR at q7
                unfold Mm.move
                simp only [Tr.get_set ht, Tr.get_set hti] at q7 ⊢
                have e : setF (setF m.K.get m.nx (some ⟨I.e, k.cs ++ news, I.i.size, false, []⟩)) i none = setF (setF m.K.get i none) m.nx (some ⟨I.e, k.cs ++ news, I.i.size, false, []⟩) := by
                  funext q
                  unfold setF
                  by_cases a1 : q = i
                  · have a2 : q ≠ m.nx := by have := hS i hin; omega
                    simp [a1, a2]; omega
                  · simp [a1]
                rw [e] at q7
                exact q7
          · cases h
        · cases h
      · cases h
    · cases h
  · cases h
end
/-! ### What an operation leaves alone -/
/-- Names that are not made and not written are as they were. -/
def Fm (m m' : Mm) : Prop := m.nx ≤ m'.nx ∧ ∃ l, m'.lg = l ++ m.lg ∧ (∀ j, j < m.nx ∨ m'.nx ≤ j → j ∉ l → m'.K.get j = m.K.get j) ∧ ∀ j ∈ l, (∃ k, m.K.get j = some k) ∨ (m.nx ≤ j ∧ j < m'.nx)
theorem Fm.refl (m : Mm) : Fm m m := ⟨Nat.le_refl _, [], rfl, fun _ _ _ => rfl, fun j hj => by cases hj⟩
theorem Fm.trans {a b c : Mm} (h : Fm a b) (k : Fm b c) : Fm a c := by
  obtain ⟨h1, l, h2, h3, h4⟩ := h
  obtain ⟨k1, l', k2, k3, k4⟩ := k
  refine ⟨Nat.le_trans h1 k1, l' ++ l, by rw [k2, h2, List.append_assoc], fun j hj hn => ?_, fun j hj => ?_⟩
  · simp only [List.mem_append, not_or] at hn
    exact (k3 j (by omega) hn.1).trans (h3 j (by omega) hn.2)
  · have old : j ∈ l → (∃ k, a.K.get j = some k) ∨ (a.nx ≤ j ∧ j < c.nx) := fun hl => (h4 j hl).imp id (fun h => ⟨h.1, by omega⟩)
    by_cases hl : j ∈ l
    · exact old hl
    · rcases List.mem_append.1 hj with h | h
      · rcases k4 j h with ⟨q, hq⟩ | hq
        · by_cases hr : j < a.nx ∨ b.nx ≤ j
          · exact Or.inl ⟨q, by rw [← h3 j hr hl]; exact hq⟩
          · exact Or.inr (by omega)
        · exact Or.inr (by omega)
      · exact old h
theorem Fm.new {m : Mm} (h : tinyB m.nx = true) (k : Bx) : Fm m (m.new k) :=
  ⟨by simp [Mm.new], [], rfl, fun j hj _ => by simp only [Mm.new, Tr.get_set h, setF] at hj ⊢; rw [if_neg (by omega)], fun j hj => by cases hj⟩
theorem Fm.newR {m : Mm} (h : tinyB m.nx = true) (k : Bx) : Fm m (m.newR k) :=
  ⟨by simp [Mm.newR], [], rfl, fun j hj _ => by simp only [Mm.newR, Tr.get_set h, setF] at hj ⊢; rw [if_neg (by omega)], fun j hj => by cases hj⟩
theorem Fm.upd {m : Mm} {i : Nat} {q : Bx} (h : tinyB i = true) (hq : m.K.get i = some q) (k : Bx) : Fm m (m.upd i k) :=
  ⟨by simp [Mm.upd], [i], rfl, fun j hj hn => by simp only [Mm.upd, Tr.get_set h, setF]; rw [if_neg (by simpa using hn)], fun j hj => by simp at hj; subst hj; exact Or.inl ⟨q, hq⟩⟩
theorem Fm.move {m : Mm} {i : Nat} {q : Bx} (h : tinyB i = true) (h' : tinyB m.nx = true) (hq : m.K.get i = some q) (k : Bx) : Fm m (m.move i k) :=
  ⟨by simp [Mm.move], [i], rfl, fun j hj hn => by simp only [Mm.move, Tr.get_set h, Tr.get_set h', setF] at hj ⊢; rw [if_neg (by omega), if_neg (by simpa using hn)], fun j hj => by simp at hj; subst hj; exact Or.inl ⟨q, hq⟩⟩
set_option maxHeartbeats 1000000 in
theorem opE0_fm {P : Program} {ρ : Rho} {m m' : Mm} {o : Oper} {x : SV} (h : opE0 P ρ m o = some (x, m')) : Fm m m' := by
  unfold opE0 mkmE insE lkE at h
  repeat' (split at h)
  all_goals first
    | (cases h; done)
    | (simp only [Option.some.injEq, Prod.mk.injEq] at h; obtain ⟨_, rfl⟩ := h; first | exact Fm.refl _ | exact Fm.new ‹_› _ | exact Fm.upd ‹tinyB _ = true› ‹_› _)
theorem opXs_fm {P : Program} {ρ : Rho} {m m' : Mm} {o : Op} {x : SV} (h : opXs P ρ m o = some (x, m')) : Fm m m' := by
  unfold opXs at h
  repeat' (split at h)
  all_goals first
    | (cases h; done)
    | (simp only [Option.some.injEq, Prod.mk.injEq] at h; obtain ⟨_, rfl⟩ := h; exact Fm.new ‹_› _)
theorem opXi_fm {P : Program} {ρ : Rho} {m m' : Mm} {o : Op} {x : SV} (h : opXi P ρ m o = some (x, m')) : Fm m m' := by
  unfold opXi nxI at h
  repeat' (split at h)
  all_goals first
    | (cases h; done)
    | (simp only [Option.some.injEq, Prod.mk.injEq] at h; obtain ⟨_, rfl⟩ := h; first | exact Fm.refl _ | exact Fm.new ‹_› _ | exact Fm.upd ‹tinyB _ = true› ‹_› _)
theorem opE_fm {P : Program} {ρ : Rho} {m m' : Mm} {o : Oper} {x : SV} (h : opE P ρ m o = some (x, m')) : Fm m m' := by
  unfold opE at h
  split at h
  · rename_i r hr
    simp only [Option.some.injEq] at h
    subst h
    exact opE0_fm hr
  · unfold opX at h
    split at h
    · simp only [Option.some.injEq, Prod.mk.injEq] at h
      obtain ⟨_, rfl⟩ := h
      exact Fm.refl _
    · split at h
      · simp only [Option.some.injEq, Prod.mk.injEq] at h
        obtain ⟨_, rfl⟩ := h
        exact Fm.refl _
      · split at h
        · rename_i r hr
          simp only [Option.some.injEq] at h
          subst h
          exact opXs_fm hr
        · exact opXi_fm h
theorem apG_fm {P : Program} {ρ : Rho} {m m' : Mm} {o : Oper} {x : SV} (h : apG P ρ m o = some (x, m')) : Fm m m' := by
  unfold apG at h
  repeat' (split at h)
  all_goals first
    | (cases h; done)
    | (simp only [Option.some.injEq, Prod.mk.injEq] at h; obtain ⟨_, rfl⟩ := h; first | exact Fm.newR ‹_› _ | exact Fm.move ‹tinyB _ = true› ‹tinyB m.nx = true› ‹_› _)
/-! ### append of nothing -/
def ap0 (P : Program) (ρ : Rho) (o : Oper) : Option SV :=
  match o.op with
  | .call ⟨.builtin .append, ⟨[x, y]⟩, ⟨[t, t']⟩⟩ => match apInfo P t t', ρ x, ρ y with
    | some I, some (.s i off l c), some (.v (.slice none 0 c')) => match Nat.ble l c with
      | true => some (.s i off l c)
      | false => none
    | some I, some (.v (.slice none 0 0)), some (.v (.slice none 0 c')) => some (.v (.slice none 0 0))
    | _, _, _ => none
  | _ => none
/-! ### append of a string's bytes -/
def isStr (P : Program) (t : TypeId) : Bool := match P.underlying t with
  | some .string => true
  | _ => false
def apT (P : Program) (ρ : Rho) (m : Mm) (o : Oper) : Option (SV × Mm) :=
  match o.op with
  | .call ⟨.builtin .append, ⟨[x, y]⟩, ⟨[t, t']⟩⟩ => match apInfo P t t, isStr P t', ρ x, ρ y, tinyB m.nx with
    | some I, true, some u, some (.v (.string s)), true => match Nat.beq I.i.size 1 && Nat.blt 0 s.size && Nat.ble s.size 100000 with
      | true => match u with
        | .v (.slice none 0 0) => some (.r m.nx 0 s.size s.size, m.newR ⟨I.e, strSV s, I.i.size, false, []⟩)
        | .s i o l c => match m.K.get i with
          | some k => match Nat.blt c (l + s.size) && Nat.ble l 100000 && Nat.beq ((k.cs.drop o).take (l * I.i.size)).length (l * I.i.size) with
            | true => some (.r m.nx 0 (l + s.size) (l + s.size), m.newR ⟨I.e, (k.cs.drop o).take (l * I.i.size) ++ strSV s, I.i.size, false, []⟩)
            | false => none
          | none => none
        | .r i 0 l x => match m.K.get i, tinyB i with
          | some k, true => match Nat.beq l x && Nat.ble l 100000 && Nat.beq k.cs.length (l * I.i.size) && Nat.beq k.sz I.i.size && Nat.beq k.ty I.e && nilB k.es with
            | true => some (.r m.nx 0 (l + s.size) (l + s.size), m.move i ⟨I.e, k.cs ++ strSV s, I.i.size, false, []⟩)
            | false => none
          | _, _ => none
        | _ => none
      | false => none
    | _, _, _, _, _ => none
  | _ => none
theorem strSV_cells (B : Pl) (s : ByteArray) : denL B (strSV s) = Lib.strCells s := by
  rw [strSV_den]; rfl
theorem strSV_len (s : ByteArray) : (strSV s).length = s.size := by
  unfold strSV; rw [List.length_map, Array.length_toList]; rfl
theorem isStr_ok {P : Program} {t : TypeId} (h : isStr P t = true) : P.underlying t = some .string := by
  unfold isStr at h
  split at h
  · assumption
  · cases h
section
variable {P : Program} {w0 : World} {F : List RF} {B : Pl} {K : Nat → Option Bx} {nx : Nat} {S : Nat → Prop} {m m' : Mm} {a : Act} {w : World} {ρ : Rho} {o : Oper} {x : SV}
theorem ap_opT {x y : Operand} {t t' : TypeId} {v src r : Value} {w' : World} (ho : o.op = .call ⟨.builtin .append, ⟨[x, y]⟩, ⟨[t, t']⟩⟩) (hx : a.eval x = v) (hy : a.eval y = src)
    (hr : (Builtin.append_ #[t, t'] o.type #[v, src]).run P w = .ok r w') : (execOp a.eval o).run P w = .ok (.value r) w' := by
  unfold execOp
  simp only [ho, resolve, invoke, builtin, Sem.run_bind, Sem.run_pure, Result.andThen_ok, List.map_toArray, List.map_cons, List.map_nil, hx, hy, hr]
set_option maxHeartbeats 1000000 in
theorem apT_sound (hS : ∀ j, S j → j < m.nx) (R : Re w0 F B m.K.get S w) (hρ : RhoOk B S a ρ) (h : apT P ρ m o = some (x, m')) : OpOk P w0 F B S m.nx o a w x m' := by
  unfold apT at h
  split at h
  · rename_i x' y t t' ho
    split at h
    · rename_i I u s hI hst hx hy ht
      obtain ⟨-, hu, hi, hz, hzs, hsz, hby⟩ := apInfo_ok hI
      have hus := isStr_ok hst
      obtain ⟨e1, b1⟩ := hρ _ _ hx
      obtain ⟨e2, b2⟩ := hρ _ _ hy
      simp only [den] at e2
      split at h
      · rename_i hcc
        simp only [Bool.and_eq_true] at hcc
        obtain ⟨⟨g1, g2⟩, g3⟩ := hcc
        have hs1 := Nat.eq_of_beq_eq_true g1
        have hn0 : 0 < s.size := by rw [Nat.blt, Nat.ble_eq] at g2; exact g2
        have hn1 : s.size ≤ 100000 := by simpa using g3
        have hml : (100000 : Nat) + 100000 ≤ maxLen := by unfold maxLen; omega
        have hbytes : ∀ q, q ≤ 100000 → (q + s.size) * I.i.bytes ≤ 140737488355328 := fun q hq => Nat.le_trans (Nat.mul_le_mul (by omega : q + s.size ≤ 200000) hby) (by omega)
        have hnl : (strSV s).length = s.size := strSV_len s
        have hnb : bdL S (strSV s) := strSV_bd S s
        split at h
        · simp only [Option.some.injEq, Prod.mk.injEq] at h
          obtain ⟨rfl, rfl⟩ := h
          have hb0 := hbytes 0 (by omega)
          rw [Nat.zero_add] at hb0
          have hr := run_append_nil_string (P := P) w t t' o.type I.e I.i I.z hu hus hi hz s hn0 (by omega) (by omega)
          refine ok_grown hS (olds := s.data.map (fun b => Value.int .u8 b.toNat)) (old := 0) R ht hzs hnb (by rw [hnl, hs1, Nat.mul_one]) (by omega) (by rw [strSV_den]; simp) ?_
          exact ap_opT ho (by rw [e1]; simp [den]) e2 hr
        · rename_i i off l c'
          cases hk : m.K.get i with
          | none => rw [hk] at h; cases h
          | some k =>
            rw [hk] at h
            simp only at h
            cases hc : (Nat.blt c' (l + s.size) && Nat.ble l 100000 && Nat.beq ((k.cs.drop off).take (l * I.i.size)).length (l * I.i.size)) with
            | false => rw [hc] at h; cases h
            | true =>
              rw [hc] at h
              simp only [Option.some.injEq, Prod.mk.injEq] at h
              obtain ⟨rfl, rfl⟩ := h
              simp only [Bool.and_eq_true] at hc
              obtain ⟨⟨c1, c2⟩, c3⟩ := hc
              have c1' : c' < l + s.size := by rw [Nat.blt, Nat.ble_eq] at c1; exact c1
              have c2' : l ≤ 100000 := by simpa using c2
              have c3' := Nat.eq_of_beq_eq_true c3
              have hob : bdL S ((k.cs.drop off).take (l * I.i.size)) := bdL_iff.2 fun x hx => bdL_iff.1 (R.bx i k hk).2.1.1 x (List.mem_of_mem_drop (List.mem_of_mem_take hx))
              have hr := Lib.run_append_grow_string (P := P) w t t' o.type I.e I.i I.z hu hus hi hz ⟨(B i).1, off, none⟩ l c' (denL B ((k.cs.drop off).take (l * I.i.size))) (by rw [denL_length]; exact c3') (take_cells R hk off _) s c1' (by omega) (growslice_fits c1' (hbytes l c2'))
              refine ok_grown hS (old := c') R ht hzs (bdL_append.2 ⟨hob, hnb⟩) (by rw [List.length_append, c3', hnl, hs1]; omega) (by omega) (olds := (denL B ((k.cs.drop off).take (l * I.i.size))).toArray ++ (Lib.strCells s).toArray) (by simp [denL_append, strSV_cells]) ?_
              exact ap_opT ho (by rw [e1]; simp [den]) e2 hr
        · rename_i i l x''
          split at h
          · rename_i k hk hti
            cases hc : (Nat.beq l x'' && Nat.ble l 100000 && Nat.beq k.cs.length (l * I.i.size) && Nat.beq k.sz I.i.size && Nat.beq k.ty I.e && nilB k.es) with
            | false => rw [hc] at h; cases h
            | true =>
              rw [hc] at h
              simp only [Option.some.injEq, Prod.mk.injEq] at h
              obtain ⟨rfl, rfl⟩ := h
              simp only [Bool.and_eq_true] at hc
              obtain ⟨⟨⟨⟨⟨c1, c2⟩, c3⟩, c4⟩, c5⟩, c6⟩ := hc
              have c1' := Nat.eq_of_beq_eq_true c1
              have c2' : l ≤ 100000 := by simpa using c2
              have c3' := Nat.eq_of_beq_eq_true c3
              have c4' := Nat.eq_of_beq_eq_true c4
              have c5' := Nat.eq_of_beq_eq_true c5
              subst c1'
              rw [hs1, Nat.mul_one] at c3'
              rw [hs1] at c4'
              obtain ⟨hin, hkb, rest, ⟨hr1, hr2⟩, hh⟩ := R.bx i k hk
              have hmp : k.mp = false := by
                cases e : k.mp with
                | false => rfl
                | true => have := (hkb.2 e).2.1; omega
              rw [objOf_cells hmp (nilB_ok c6)] at hh
              replace hkb := hkb.1
              rw [c4', Nat.mul_one] at hr1
              have hr2' : (B i).2 + l ≤ maxLen := by
                rcases hr2 with hr2 | hr2
                · omega
                · rw [c3', c4', Nat.mul_one, Nat.mul_one] at hr2; exact hr2
              have hlen : (k.cs ++ strSV s).length = (l + s.size) * I.i.size := by rw [List.length_append, c3', hnl, hs1, Nat.mul_one]
              have hkl : (denL B k.cs).length = l := by rw [denL_length]; exact c3'
              by_cases hroom : s.size ≤ (B i).2
              · -- in place
                have hcsz : (denL B k.cs ++ rest).toArray.size = (B i).2 + l := by
                  simp only [List.size_toArray, List.length_append, hkl, hr1]; omega
                have hr := Lib.run_append_room_string (P := P) w t t' o.type I.e I.i hu hus hi hs1 (B i).1 l ((B i).2 + l) (denL B k.cs ++ rest).toArray (by rw [hh, c5']) s (by omega) (by
                  rw [hcsz]; omega)
                have hset : ((denL B k.cs ++ rest).toArray.toList.take l ++ Lib.strCells s ++ (denL B k.cs ++ rest).toArray.toList.drop (l + s.size)) = denL B (k.cs ++ strSV s) ++ rest.drop s.size := by
                  simp only [denL_append, strSV_cells]
                  rw [← hkl, List.take_left]
                  congr 1
                  rw [← List.drop_drop, List.drop_left]
                rw [hset] at hr
                have hg : w.grownBy (w.setRow (B i).1 (denL B (k.cs ++ strSV s) ++ rest.drop s.size).toArray) (some (B i).1) :=
                  ⟨rfl, rfl, rfl, by simp, fun q _ hq => setRow_other w (B i).1 q _ (fun e => hq (by rw [e]))⟩
                obtain ⟨g1, g2⟩ := R.moved hk (k' := ⟨I.e, k.cs ++ strSV s, I.i.size, false, []⟩) (c := (B i).2 - s.size) (rest := rest.drop s.size) hg ⟨bdL_append.2 ⟨hkb, hnb⟩, fun e => by cases e⟩ ⟨by
                    rw [List.length_drop, hr1, hs1, Nat.mul_one], Or.inr (by
                    simp only [hlen, ← Nat.add_mul]
                    exact Nat.mul_le_mul_right _ (by omega))⟩ hS (by
                    have := setRow_heap w (B i).1 (denL B k.cs ++ rest).toArray (denL B (k.cs ++ strSV s) ++ rest.drop s.size).toArray I.e (0, 0) (by rw [hh, c5'])
                    exact this)
                refine ⟨_, _, _, ap_opT ho (by rw [e1]; simp only [den]) e2 hr, Or.inl ?_, g2, by simp [Mm.move], ?_, by simp [bd, Mm.move, ext]⟩
                · simp only [den, setPl, if_true]
                  congr 2
                  omega
                · unfold Mm.move
                  simp only [Tr.get_set ht, Tr.get_set hti]
                  exact g1
              · -- grown
                have hr := Lib.run_append_grow_string (P := P) w t t' o.type I.e I.i I.z hu hus hi hz ⟨(B i).1, 0, none⟩ l ((B i).2 + l) (denL B k.cs) (by rw [hkl, hs1, Nat.mul_one]) (by
                  have := take_cells R hk 0 k.cs.length
                  simpa using this) s (by omega) (by omega) (growslice_fits (by omega) (hbytes l c2'))
                have hok := ok_grown hS (old := (B i).2 + l) R ht hzs (bdL_append.2 ⟨hkb, hnb⟩) hlen (by omega) (olds := (denL B k.cs).toArray ++ (Lib.strCells s).toArray) (by simp [denL_append, strSV_cells]) (ap_opT ho (by rw [e1]; simp only [den]) e2 hr)
                obtain ⟨r, w', B', q1, q2, q3, q4, q5, q6⟩ := hok
                refine ⟨r, w', B', q1, q2, q3, by simp [Mm.move], ?_, by simp [bd, Mm.move, ext]⟩
                have q7 := q5.drop i
                unfold Mm.newR at q7
                unfold Mm.move
                simp only [Tr.get_set ht, Tr.get_set hti] at q7 ⊢
                have e : setF (setF m.K.get m.nx (some ⟨I.e, k.cs ++ strSV s, I.i.size, false, []⟩)) i none = setF (setF m.K.get i none) m.nx (some ⟨I.e, k.cs ++ strSV s, I.i.size, false, []⟩) := by
                  funext q
                  unfold setF
                  by_cases a1 : q = i
                  · have a2 : q ≠ m.nx := by have := hS i hin; omega
                    simp [a1, a2]; omega
                  · simp [a1]
                rw [e] at q7
                exact q7
          · cases h
        · cases h
      · cases h
    · cases h
  · cases h
end
theorem apT_fm {P : Program} {ρ : Rho} {m m' : Mm} {o : Oper} {x : SV} (h : apT P ρ m o = some (x, m')) : Fm m m' := by
  unfold apT at h
  repeat' (split at h)
  all_goals first
    | (cases h; done)
    | (simp only [Option.some.injEq, Prod.mk.injEq] at h; obtain ⟨_, rfl⟩ := h; first | exact Fm.newR ‹_› _ | exact Fm.move ‹tinyB _ = true› ‹tinyB m.nx = true› ‹_› _)
/-! ### append where there is room, in a row whose capacity is known -/
def apR (P : Program) (ρ : Rho) (m : Mm) (o : Oper) : Option (SV × Mm) :=
  match o.op with
  | .call ⟨.builtin .append, ⟨[x, y]⟩, ⟨[t, t']⟩⟩ => match apInfo P t t', ρ x, ρ y with
    | some I, some (.s i off l c), some v => match apSrc m I.i.size v with
      | some (n, news) => match m.K.get i, tinyB i with
        | some k, true => match Nat.ble (l + n) c && Nat.ble (off + l * I.i.size + news.length) k.cs.length with
          | true => some (.s i off (l + n) c, m.upd i ⟨k.ty, setG k.cs (off + l * I.i.size) news, k.sz, k.mp, k.es⟩)
          | false => none
        | _, _ => none
      | none => none
    | _, _, _ => none
  | _ => none
theorem apR_fm {P : Program} {ρ : Rho} {m m' : Mm} {o : Oper} {x : SV} (h : apR P ρ m o = some (x, m')) : Fm m m' := by
  unfold apR at h
  repeat' (split at h)
  all_goals first
    | (cases h; done)
    | (simp only [Option.some.injEq, Prod.mk.injEq] at h; obtain ⟨_, rfl⟩ := h; exact Fm.upd ‹tinyB _ = true› ‹_› _)
section
variable {P : Program} {w0 : World} {F : List RF} {B : Pl} {S : Nat → Prop} {m m' : Mm} {a : Act} {w : World} {ρ : Rho} {o : Oper} {x : SV}
theorem apR_sound (R : Re w0 F B m.K.get S w) (hρ : RhoOk B S a ρ) (h : apR P ρ m o = some (x, m')) : OpOk P w0 F B S m.nx o a w x m' := by
  unfold apR at h
  split at h
  · rename_i x' y t t' ho
    split at h
    · rename_i I i off l c v hI hx hy
      obtain ⟨rfl, hu, hi, hz, hzs, hsz, hby⟩ := apInfo_ok hI
      obtain ⟨e1, b1⟩ := hρ _ _ hx
      obtain ⟨e2, b2⟩ := hρ _ _ hy
      split at h
      · rename_i n news hs
        obtain ⟨ad, c2, hd, hl, hn, h1, hnb, hn0, hn1⟩ := apSrc_ok R hs
        rw [hd] at e2
        split at h
        · rename_i k hk ht
          cases hc : (Nat.ble (l + n) c && Nat.ble (off + l * I.i.size + news.length) k.cs.length) with
          | false => rw [hc] at h; cases h
          | true =>
            rw [hc] at h
            simp only [Option.some.injEq, Prod.mk.injEq] at h
            obtain ⟨rfl, rfl⟩ := h
            simp only [Bool.and_eq_true] at hc
            have hroom : l + n ≤ c := by simpa using hc.1
            have hfit : off + l * I.i.size + news.length ≤ k.cs.length := by simpa using hc.2
            obtain ⟨_, hbk, rest, _, hh⟩ := R.bx i k hk
            have hf := run_firstCells_some (P := P) w I.i.size n ad n c2 (denL B news) hl hn
            have hst := run_storeCells_cells (P := P) (B i).1 (off + l * I.i.size) (denL B news) 0 w (fun j hj => by
              rw [denL_length] at hj
              rw [Nat.add_zero, R.cell hk (List.getElem?_eq_getElem (by omega))]; rfl) (fun j hj => by
              rw [denL_length] at hj
              rw [objOf_any (hbk.cell (o := off + l * I.i.size + j) (by omega))] at hh
              exact frozenF hh (by rw [List.length_append, denL_length]; omega)) h1
            simp only [Nat.add_zero] at hst
            refine ⟨.value (.slice (some ⟨(B i).1, off, none⟩) (l + n) c), w.setCells (B i).1 (off + l * I.i.size) (denL B news), B, ?_, Or.inl (by simp [den]), Ag.refl _ _ _, Nat.le_refl _, ?_, ?_⟩
            · refine ap_op ho e1 e2 ?_
              simp only [den]
              simp [Builtin.append_, run_underlying hu, sizeOf, typeInfo, hi, Builtin.lenOf, hroom, hf, addr_add, hst]
            · simp only [Mm.upd]
              rw [ext_self]
              exact R.upd ht (R.store hk hnb (by omega))
            · simp only [Mm.upd]
              rw [ext_self]
              simpa [bd] using b1
        · cases h
      · cases h
    · cases h
  · cases h
end
def apE (P : Program) (ρ : Rho) (m : Mm) (o : Oper) : Option (SV × Mm) :=
  match ap0 P ρ o with
  | some x => some (x, m)
  | none => match apG P ρ m o with
    | some r => some r
    | none => match apR P ρ m o with
      | some r => some r
      | none => apT P ρ m o
section
variable {P : Program} {w0 : World} {F : List RF} {B : Pl} {S : Nat → Prop} {m m' : Mm} {a : Act} {w : World} {ρ : Rho} {o : Oper} {x : SV}
theorem ap0_sound (R : Re w0 F B m.K.get S w) (hρ : RhoOk B S a ρ) (h : ap0 P ρ o = some x) : OpOk P w0 F B S m.nx o a w x m := by
  unfold ap0 at h
  split at h
  · rename_i x' y t t' ho
    split at h
    · rename_i I i off l c c' hI hx hy
      obtain ⟨rfl, hu, hi, hz, hzs, hsz, hby⟩ := apInfo_ok hI
      obtain ⟨e1, b1⟩ := hρ _ _ hx
      obtain ⟨e2, _⟩ := hρ _ _ hy
      simp only [den] at e1 e2
      split at h
      · rename_i hle
        simp only [Option.some.injEq] at h
        subst h
        have hr := run_append_nothing (P := P) w t t o.type I.e I.i hu hi (some ⟨(B i).1, off, none⟩) l c (by simpa using hle) (.slice none 0 c') (Src.ofNil w hu c')
        exact ⟨_, w, B, ap_op ho e1 e2 hr, Or.inl (by simp only [den]), Ag.refl _ _ _, Nat.le_refl _, by rw [ext_self]; exact R, by rw [ext_self]; exact b1⟩
      · cases h
    · rename_i I c' hI hx hy
      obtain ⟨rfl, hu, hi, hz, hzs, hsz, hby⟩ := apInfo_ok hI
      obtain ⟨e1, b1⟩ := hρ _ _ hx
      obtain ⟨e2, _⟩ := hρ _ _ hy
      simp only [den] at e1 e2
      simp only [Option.some.injEq] at h
      subst h
      have hr := run_append_nothing (P := P) w t t o.type I.e I.i hu hi none 0 0 (Nat.le_refl _) (.slice none 0 c') (Src.ofNil w hu c')
      exact ⟨_, w, B, ap_op ho e1 e2 hr, Or.inl (by simp only [den]), Ag.refl _ _ _, Nat.le_refl _, by rw [ext_self]; exact R, by rw [ext_self]; exact b1⟩
    · cases h
  · cases h
theorem apE_sound (hS : ∀ j, S j → j < m.nx) (R : Re w0 F B m.K.get S w) (hρ : RhoOk B S a ρ) (h : apE P ρ m o = some (x, m')) : OpOk P w0 F B S m.nx o a w x m' := by
  unfold apE at h
  split at h
  · rename_i y hy
    simp only [Option.some.injEq, Prod.mk.injEq] at h
    obtain ⟨rfl, rfl⟩ := h
    exact ap0_sound R hρ hy
  · split at h
    · rename_i r hr
      simp only [Option.some.injEq] at h
      subst h
      exact apG_sound hS R hρ hr
    · split at h
      · rename_i r hr
        simp only [Option.some.injEq] at h
        subst h
        exact apR_sound R hρ hr
      · exact apT_sound hS R hρ h
theorem apE_fm (h : apE P ρ m o = some (x, m')) : Fm m m' := by
  unfold apE at h
  split at h
  · simp only [Option.some.injEq, Prod.mk.injEq] at h
    obtain ⟨_, rfl⟩ := h
    exact Fm.refl _
  · split at h
    · rename_i r hr
      simp only [Option.some.injEq] at h
      subst h
      exact apG_fm hr
    · split at h
      · rename_i r hr
        simp only [Option.some.injEq] at h
        subst h
        exact apR_fm hr
      · exact apT_fm h
end
/-! ### copy -/
/-- So many elements of a row. -/
def cpSrc (m : Mm) (size n : Nat) (y : SV) : Option (List SV) :=
  match y with
  | .s j o l _ => match m.K.get j with
    | some k => match Nat.beq ((k.cs.drop o).take (n * size)).length (n * size) && ((k.cs.drop o).take (n * size)).all oneE with
      | true => some ((k.cs.drop o).take (n * size))
      | false => none
    | none => none
  | .r j o l _ => match m.K.get j with
    | some k => match Nat.beq ((k.cs.drop o).take (n * size)).length (n * size) && ((k.cs.drop o).take (n * size)).all oneE with
      | true => some ((k.cs.drop o).take (n * size))
      | false => none
    | none => none
  | _ => none
def lenE : SV → Option Nat
  | .s _ _ l _ => some l
  | .r _ _ l _ => some l
  | _ => none
def cpE (P : Program) (ρ : Rho) (m : Mm) (o : Oper) : Option (SV × Mm) :=
  match o.op with
  | .call ⟨.builtin .copy, ⟨[x, y]⟩, ⟨[t, t']⟩⟩ => match P.underlying t, ρ x, ρ y with
    | some (.slice e), some (.s i off l c), some v => match sizeE P e, lenE v with
      | some size, some l' => match cpSrc m size (Nat.min l' l) v, m.K.get i, tinyB i with
        | some cells, some k, true => match Nat.ble (off + cells.length) k.cs.length with
          | true => some (.v (goInt (Nat.min l' l)), m.upd i ⟨k.ty, setG k.cs off cells, k.sz, k.mp, k.es⟩)
          | false => none
        | _, _, _ => none
      | _, _ => none
    | _, _, _ => none
  | _ => none
section
variable {P : Program} {w0 : World} {F : List RF} {B : Pl} {S : Nat → Prop} {m m' : Mm} {a : Act} {w : World} {ρ : Rho} {o : Oper} {x : SV}
theorem cpSrc_ok (R : Re w0 F B m.K.get S w) {size n : Nat} {y : SV} {cells : List SV} (h : cpSrc m size n y = some cells) :
    ∃ ad l c, den B y = .slice (some ad) l c ∧ (lenE y = some l) ∧ (denL B cells).length = n * size ∧ (∀ j u, (denL B cells)[j]? = some u → w.cell? (ad.add j) = some u) ∧ (∀ u ∈ denL B cells, u.oneCell' = true) ∧ bdL S cells := by
  have key : ∀ j off k, m.K.get j = some k → (match Nat.beq ((k.cs.drop off).take (n * size)).length (n * size) && ((k.cs.drop off).take (n * size)).all oneE with
      | true => some ((k.cs.drop off).take (n * size))
      | false => none) = some cells → (denL B cells).length = n * size ∧ (∀ q u, (denL B cells)[q]? = some u → w.cell? ((⟨(B j).1, off, none⟩ : Addr).add q) = some u) ∧ (∀ u ∈ denL B cells, u.oneCell' = true) ∧ bdL S cells := by
    intro j off k hk h
    cases hc : (Nat.beq ((k.cs.drop off).take (n * size)).length (n * size) && ((k.cs.drop off).take (n * size)).all oneE) with
    | false => rw [hc] at h; cases h
    | true =>
      rw [hc] at h
      simp only [Option.some.injEq] at h
      subst h
      simp only [Bool.and_eq_true, List.all_eq_true] at hc
      refine ⟨by rw [denL_length]; exact Nat.eq_of_beq_eq_true hc.1, take_cells R hk off _, fun u hu => ?_, ?_⟩
      · rw [denL_map] at hu
        obtain ⟨z, hz, rfl⟩ := List.mem_map.1 hu
        exact oneE_den B (hc.2 z hz)
      · exact bdL_iff.2 fun x hx => bdL_iff.1 (R.bx j k hk).2.1.1 x (List.mem_of_mem_drop (List.mem_of_mem_take hx))
  unfold cpSrc at h
  split at h
  · rename_i j off l c
    cases hk : m.K.get j with
    | none => rw [hk] at h; cases h
    | some k =>
      rw [hk] at h
      obtain ⟨h1, h2, h3, h4⟩ := key j off k hk h
      exact ⟨_, _, _, by simp only [den]; rfl, rfl, h1, h2, h3, h4⟩
  · rename_i j off l c
    cases hk : m.K.get j with
    | none => rw [hk] at h; cases h
    | some k =>
      rw [hk] at h
      obtain ⟨h1, h2, h3, h4⟩ := key j off k hk h
      exact ⟨_, _, _, by simp only [den]; rfl, rfl, h1, h2, h3, h4⟩
  · cases h
theorem cpE_sound (R : Re w0 F B m.K.get S w) (hρ : RhoOk B S a ρ) (h : cpE P ρ m o = some (x, m')) : OpOk P w0 F B S m.nx o a w x m' := by
  unfold cpE at h
  split at h
  · rename_i x' y t t' ho
    split at h
    · rename_i e i off l c v hu hx hy
      obtain ⟨e1, b1⟩ := hρ _ _ hx
      obtain ⟨e2, b2⟩ := hρ _ _ hy
      split at h
      · rename_i size l' hs hl'
        split at h
        · rename_i cells k hc hk ht
          cases hb : Nat.ble (off + cells.length) k.cs.length with
          | false => rw [hb] at h; cases h
          | true =>
            rw [hb] at h
            simp only [Option.some.injEq, Prod.mk.injEq] at h
            obtain ⟨rfl, rfl⟩ := h
            have hb' : off + cells.length ≤ k.cs.length := by simpa using hb
            obtain ⟨ad, l2, c2, hd, hle, h1, h2, h3, h4⟩ := cpSrc_ok R hc
            rw [hl'] at hle
            simp only [Option.some.injEq] at hle
            subst hle
            rw [hd] at e2
            obtain ⟨_, hbk, rest, _, hh⟩ := R.bx i k hk
            have hf := run_firstCells_some (P := P) w size (Nat.min l' l) ad l' c2 (denL B cells) h1 h2
            have hst := run_storeCells_cells (P := P) (B i).1 off (denL B cells) 0 w (fun j hj => by
              rw [denL_length] at hj
              rw [Nat.add_zero, R.cell hk (List.getElem?_eq_getElem (by omega))]; rfl) (fun j hj => by
              rw [denL_length] at hj
              rw [objOf_any (hbk.cell (o := off + j) (by omega))] at hh
              exact frozenF hh (by rw [List.length_append, denL_length]; omega)) h3
            simp only [Nat.add_zero] at hst
            refine ⟨.value (goInt (Nat.min l' l)), w.setCells (B i).1 off (denL B cells), B, ?_, Or.inl (by simp [den]), Ag.refl _ _ _, Nat.le_refl _, ?_, by simp [bd]⟩
            · unfold execOp
              simp only [ho, resolve, invoke, builtin, Sem.run_bind, Sem.run_pure, Result.andThen_ok, List.map_toArray, List.map_cons, List.map_nil, e1, e2, den]
              simp [Builtin.copy_, Sem.run_bind, run_underlying hu, size_run hs, Builtin.lenOf, hf, hst]
            · simp only [Mm.upd]
              rw [ext_self]
              exact R.upd ht (R.store hk h4 hb')
        · cases h
      · cases h
    · cases h
  · cases h
theorem cpE_fm {P : Program} {ρ : Rho} {m m' : Mm} {o : Oper} {x : SV} (h : cpE P ρ m o = some (x, m')) : Fm m m' := by
  unfold cpE at h
  repeat' (split at h)
  all_goals first
    | (cases h; done)
    | (simp only [Option.some.injEq, Prod.mk.injEq] at h; obtain ⟨_, rfl⟩ := h; exact Fm.upd ‹tinyB _ = true› ‹_› _)
end
end Go.Proofs.Ytnlcjlhcghgaoaa.EX
