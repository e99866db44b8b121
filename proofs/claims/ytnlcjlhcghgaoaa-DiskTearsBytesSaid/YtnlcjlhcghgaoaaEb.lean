
/-
  Runs by computation: one operation.
-/
import Derived.Test.YtnlcjlhcghgaoaaEa
namespace Go.Proofs.Ytnlcjlhcghgaoaa.EX
open Go Go.RowKit
set_option linter.unusedVariables false
set_option linter.unusedSimpArgs false
set_option linter.unusedSectionVars false
set_option maxRecDepth 10000
variable [FC]

theorem denL_append (B : Pl) (a b : List SV) : denL B (a ++ b) = denL B a ++ denL B b := by simp [denL_map]
theorem denL_length (B : Pl) (a : List SV) : (denL B a).length = a.length := by simp [denL_map]
theorem bdL_append {n : Nat → Prop} {a b : List SV} : bdL n (a ++ b) ↔ bdL n a ∧ bdL n b := by
  simp only [bdL_iff, List.mem_append]
  exact ⟨fun h => ⟨fun x hx => h x (Or.inl hx), fun x hx => h x (Or.inr hx)⟩, fun h x hx => hx.elim (h.1 x) (h.2 x)⟩
theorem bdL_v (n : Nat → Prop) (l : List Value) : bdL n (l.map .v) := by simp [bdL_iff, bd]
theorem bdL_y (n : Nat → Prop) (l : List Value) : bdL n (l.map .y) := by simp [bdL_iff, bd]
theorem denL_v (B : Pl) (l : List Value) : denL B (l.map .v) = l := by simp [denL_map, Function.comp_def, den]
theorem denL_y (B : Pl) (l : List Value) : denL B (l.map .y) = l := by simp [denL_map, Function.comp_def, den]

/-! ### The parts of a value -/
/-- The values, if all are known. -/
def rawL : List SV → Option (List Value)
  | [] => some []
  | .v x :: l => match rawL l with
    | some r => some (x :: r)
    | none => none
  | _ :: _ => none
/-- The values, if none speaks of an own variable. -/
def softL : List SV → Option (List Value)
  | [] => some []
  | .v x :: l => match softL l with
    | some r => some (x :: r)
    | none => none
  | .y x :: l => match softL l with
    | some r => some (x :: r)
    | none => none
  | _ :: _ => none
theorem rawL_den (B : Pl) : ∀ {l : List SV} {r : List Value}, rawL l = some r → denL B l = r
  | [], r, h => by simp [rawL] at h; subst h; rfl
  | x :: l, r, h => by
    cases x with
    | v x =>
      simp only [rawL] at h
      cases hl : rawL l with
      | none => rw [hl] at h; cases h
      | some r' => rw [hl] at h; simp only [Option.some.injEq] at h; subst h; simp [denL, den, rawL_den B hl]
    | _ => simp [rawL] at h
theorem softL_den (B : Pl) : ∀ {l : List SV} {r : List Value}, softL l = some r → denL B l = r
  | [], r, h => by simp [softL] at h; subst h; rfl
  | x :: l, r, h => by
    cases x with
    | v x =>
      simp only [softL] at h
      cases hl : softL l with
      | none => rw [hl] at h; cases h
      | some r' => rw [hl] at h; simp only [Option.some.injEq] at h; subst h; simp [denL, den, softL_den B hl]
    | y x =>
      simp only [softL] at h
      cases hl : softL l with
      | none => rw [hl] at h; cases h
      | some r' => rw [hl] at h; simp only [Option.some.injEq] at h; subst h; simp [denL, den, softL_den B hl]
    | _ => simp [softL] at h
/-- A struct or an array of these cells. -/
def mkAgg (l : List SV) : SV :=
  match rawL l with
  | some r => .v (.agg r.toArray)
  | none => .g l
theorem mkAgg_den (B : Pl) (l : List SV) : den B (mkAgg l) = .agg (denL B l).toArray := by
  unfold mkAgg
  cases h : rawL l with
  | some r => simp [den, rawL_den B h]
  | none => simp [den]
theorem mkAgg_bd {n : Nat → Prop} {l : List SV} (h : bdL n l) : bd n (mkAgg l) := by
  unfold mkAgg
  split
  · simp [bd]
  · simpa [bd] using h
def mkTup (l : List SV) : SV :=
  match rawL l with
  | some r => .v (.tuple r.toArray)
  | none => .t l
theorem mkTup_den (B : Pl) (l : List SV) : den B (mkTup l) = .tuple (denL B l).toArray := by
  unfold mkTup
  cases h : rawL l with
  | some r => simp [den, rawL_den B h]
  | none => simp [den]
theorem mkTup_bd {n : Nat → Prop} {l : List SV} (h : bdL n l) : bd n (mkTup l) := by
  unfold mkTup
  split
  · simp [bd]
  · simpa [bd] using h
/-- A value's cells. -/
def cellsE : SV → List SV
  | .v (.agg cs) => cs.toList.map .v
  | .y (.agg cs) => cs.toList.map .y
  | .g l => l
  | x => [x]
theorem cellsE_den (B : Pl) (x : SV) : denL B (cellsE x) = (den B x).cells.toList := by
  unfold cellsE
  split
  · simp [denL_v, den, Value.cells]
  · simp [denL_y, den, Value.cells]
  · simp [den, Value.cells]
  · rename_i h1 h2 h3
    cases x with
    | v x => cases x <;> simp [denL, den, Value.cells] ; exact absurd rfl (h1 _)
    | y x => cases x <;> simp [denL, den, Value.cells] ; exact absurd rfl (h2 _)
    | g l => exact absurd rfl (h3 l)
    | _ => simp [denL, den, Value.cells]
theorem cellsE_bd {n : Nat → Prop} {x : SV} (h : bd n x) : bdL n (cellsE x) := by
  unfold cellsE
  split
  · exact bdL_v _ _
  · exact bdL_y _ _
  · simpa [bd] using h
  · simpa [bdL] using h
def oneE : SV → Bool
  | .v x => x.oneCell'
  | .y x => x.oneCell'
  | .g _ => false
  | .t _ => false
  | _ => true
theorem oneE_den (B : Pl) {x : SV} (h : oneE x = true) : (den B x).oneCell' = true := by
  cases x <;> simp_all [oneE, den, Value.oneCell']
/-- Cells stored into a row, from an offset on. -/
def setG {α : Type} : List α → Nat → List α → List α
  | cs, _, [] => cs
  | cs, o, v :: r => setG (cs.set o v) (o + 1) r
theorem setG_length {α : Type} : ∀ (vs cs : List α) (o : Nat), (setG cs o vs).length = cs.length
  | [], _, _ => rfl
  | v :: r, cs, o => by rw [setG, setG_length r]; simp
theorem setG_setL : ∀ (vs cs : List Value) (o : Nat), setG cs o vs = SX.setL cs o vs
  | [], _, _ => rfl
  | v :: r, cs, o => by rw [setG, SX.setL, setG_setL r]
theorem setG_den (B : Pl) : ∀ (vs cs : List SV) (o : Nat), denL B (setG cs o vs) = setG (denL B cs) o (denL B vs)
  | [], _, _ => by simp [setG, denL]
  | v :: r, cs, o => by simp only [setG, denL, setG_den B r]; simp [denL_map, List.map_set]
theorem setG_bd {n : Nat → Prop} : ∀ {vs cs : List SV} {o : Nat}, bdL n vs → bdL n cs → bdL n (setG cs o vs)
  | [], _, _, _, h => h
  | v :: r, cs, o, hv, h => by
    simp only [bdL] at hv
    show bdL n (setG (cs.set o v) (o + 1) r)
    refine setG_bd hv.2 ?_
    simp only [bdL_iff] at h ⊢
    intro x hx
    rcases List.mem_or_eq_of_mem_set hx with h1 | h1
    · exact h x h1
    · exact h1 ▸ hv.1
theorem setG_append {α : Type} : ∀ (vs cs rest : List α) (o : Nat), o + vs.length ≤ cs.length → setG (cs ++ rest) o vs = setG cs o vs ++ rest
  | [], _, _, _, _ => rfl
  | v :: r, cs, rest, o, h => by
    simp only [List.length_cons] at h
    simp only [setG]
    rw [List.set_append_left _ _ (by omega), setG_append r _ rest (o + 1) (by simp; omega)]

/-! ### Loads and stores -/
def ldE (P : Program) (ty : TypeId) (cs : List SV) (o : Nat) : Option SV :=
  match P.underlying ty, (P.info? ty).map (·.size) with
  | some d, some n => match d.isRow with
    | true => match Nat.ble (o + n) cs.length with
      | true => some (mkAgg ((cs.drop o).take n))
      | false => none
    | false => cs[o]?
  | _, _ => none
def tinyB (n : Nat) : Bool := Nat.ble n 1000000000
section
variable {P : Program} {w0 : World} {F : List RF} {B : Pl} {K : Nat → Option Bx} {T : Nat → Option SV} {n : Nat} {nx : Nat → Prop} {a : Act} {w : World}
theorem frozenF {b : Nat} {cs : List Value} {ty : TypeId} {o : Nat} {es : List SV} (h : w.heap[b]? = some (.cells cs.toArray ty (fzOf es cs.length))) (ho : o < cs.length) : w.frozen? ⟨b, o, none⟩ = false := by
  cases es with
  | nil => exact SX.frozen_of_heap h
  | cons a l =>
    simp only [fzOf] at h
    simp [World.frozen?, h]
    omega
theorem heap_setCellsF (b : Nat) (ty : TypeId) (fr : Nat × Nat) : ∀ (vs : List Value) (o : Nat) (w : World) (cs : List Value), w.heap[b]? = some (.cells cs.toArray ty fr) → (w.setCells b o vs).heap[b]? = some (.cells (SX.setL cs o vs).toArray ty fr)
  | [], _, _, _, h => h
  | v :: r, o, w, cs, h => by
    rw [World.setCells, SX.setL]
    refine heap_setCellsF b ty fr r (o + 1) _ (cs.set o v) ?_
    simp only [World.setCell, Array.getElem?_modify]
    simp [h]
theorem Re.cell (R : Re w0 F B K nx w) {i : Nat} {k : Bx} (h : K i = some k) {o : Nat} {x : SV} (hx : k.cs[o]? = some x) : w.cell? ⟨(B i).1, o, none⟩ = some (den B x) := by
  obtain ⟨_, hbk, rest, _, h2⟩ := R.bx i k h
  rw [objOf_any (hbk.cell (List.getElem?_eq_some_iff.1 hx).1)] at h2
  simp only [World.cell?, h2]
  have := (List.getElem?_eq_some_iff.1 hx).1
  have e := (List.getElem?_eq_some_iff.1 hx).2
  simp [denL_map, List.getElem?_append_left, this, e]
theorem Re.ld (R : Re w0 F B K nx w) {i : Nat} {k : Bx} (h : K i = some k) {ty : TypeId} {o : Nat} {x : SV} (hx : ldE P ty k.cs o = some x) :
    (loadVar ty ⟨(B i).1, o, none⟩).run P w = .ok (den B x) w ∧ bd nx x := by
  have hb := (R.bx i k h).2.1.1
  unfold ldE at hx
  cases hu : P.underlying ty with
  | none => rw [hu] at hx; simp at hx
  | some d =>
    cases hi : (P.info? ty).map (·.size) with
    | none => rw [hu, hi] at hx; simp at hx
    | some n =>
      rw [hu, hi] at hx
      simp only at hx
      cases hd : d.isRow with
      | true =>
        rw [hd] at hx; simp only at hx
        cases hn : Nat.ble (o + n) k.cs.length with
        | false => rw [hn] at hx; cases hx
        | true =>
          rw [hn] at hx
          simp only [Option.some.injEq] at hx
          subst hx
          have hn' : o + n ≤ k.cs.length := by simpa using hn
          have hbt : bdL nx ((k.cs.drop o).take n) := by
            simp only [bdL_iff] at hb ⊢
            exact fun x hx => hb x (List.mem_of_mem_drop (List.mem_of_mem_take hx))
          refine ⟨?_, mkAgg_bd hbt⟩
          rw [mkAgg_den]
          refine run_loadVar_mid w (B i).1 o ty _ d ?_ hu hd ?_
          · intro j x hj
            rw [denL_map, List.getElem?_map] at hj
            cases hq : ((k.cs.drop o).take n)[j]? with
            | none => rw [hq] at hj; cases hj
            | some y =>
              rw [hq] at hj
              simp only [Option.map_some, Option.some.injEq] at hj
              subst hj
              refine R.cell h ?_
              rw [List.getElem?_take] at hq
              split at hq
              · rw [List.getElem?_drop] at hq; exact hq
              · cases hq
          · rw [hi, denL_length]; simp; omega
      | false =>
        rw [hd] at hx; simp only at hx
        have hagg : (isAgg ty).run P w = .ok false w := by
          unfold isAgg
          rw [Sem.run_bind, run_underlying hu w]
          cases d <;> simp_all
        refine ⟨?_, bdL_iff.1 hb x (List.mem_of_getElem? hx)⟩
        unfold loadVar
        rw [Sem.run_bind, hagg]
        simp only [Result.andThen_ok, Bool.false_eq_true, if_false]
        simp only [load, Sem.run, R.cell h hx]
/-- Cells of an own variable are written. -/
theorem Re.store (R : Re w0 F B K nx w) {i o : Nat} {k : Bx} (hk : K i = some k) {vs : List SV} (hv : bdL nx vs) (ho : o + vs.length ≤ k.cs.length) :
    Re w0 F B (setF K i (some ⟨k.ty, setG k.cs o vs, k.sz, k.mp, k.es⟩)) nx (w.setCells (B i).1 o (denL B vs)) := by
  obtain ⟨h1, h2, h3, h4, h5⟩ := SX.setCells_os (B i).1 (denL B vs) o w
  obtain ⟨hi, hkb, rest, hrl, hh⟩ := R.bx i k hk
  cases hm : k.mp with
  | true =>
    have hcs := (hkb.2 hm).1
    have hv0 : vs = [] := by
      rw [hcs] at ho
      cases vs with
      | nil => rfl
      | cons a l => exact absurd ho (by simp)
    subst hv0
    have e : setF K i (some ⟨k.ty, setG k.cs o [], k.sz, true, k.es⟩) = K := by
      funext j
      unfold setF
      by_cases e : j = i
      · rw [if_pos e, e, hk, ← hm]; rfl
      · rw [if_neg e]
    rw [e]
    exact R
  | false =>
  rw [objOf_any hm] at hh
  refine ⟨fun j k' h => ?_, fun p q kp kq hp hq he => ?_, fun j k' h => ?_, fun f hf => ?_, ?_⟩
  · unfold setF at h
    by_cases e : j = i
    · subst e; simp at h; subst h
      refine ⟨hi, ⟨setG_bd hv hkb.1, fun e => by cases e⟩, rest, by simpa [rowOk, setG_length] using hrl, ?_⟩
      have hl : (denL B (setG k.cs o vs) ++ rest).length = (denL B k.cs ++ rest).length := by simp [denL_length, setG_length]
      rw [objOf_any rfl]
      simp only []
      rw [hl]
      have := heap_setCellsF (B j).1 k.ty _ (denL B vs) o w _ hh
      rw [this, ← setG_setL, setG_append _ _ _ _ (by rw [denL_length, denL_length]; exact ho), setG_den]
    · rw [if_neg e] at h
      obtain ⟨g1, g2, rest', g4, g3⟩ := R.bx j k' h
      exact ⟨g1, g2, rest', g4, by rw [h5 _ (fun he => e (R.nd j i _ _ h hk he))]; exact g3⟩
  · unfold setF at hp hq
    have : ∀ j k', setF K i (some ⟨k.ty, setG k.cs o vs, k.sz, false, k.es⟩) j = some k' → ∃ k'', K j = some k'' := fun j k' h => by
      unfold setF at h
      by_cases e : j = i
      · subst e; exact ⟨_, hk⟩
      · rw [if_neg e] at h; exact ⟨_, h⟩
    obtain ⟨_, g1⟩ := this p kp hp
    obtain ⟨_, g2⟩ := this q kq hq
    exact R.nd p q _ _ g1 g2 he
  · unfold setF at h
    by_cases e : j = i
    · subst e; exact R.lo _ _ hk
    · rw [if_neg e] at h; exact R.lo _ _ h
  · obtain ⟨g1, g2⟩ := R.fs f hf
    refine ⟨f.st w _ g1 (fun b hb => h5 b (fun he => g2 i k hk (he ▸ hb))), fun j k' h => ?_⟩
    unfold setF at h
    by_cases e : j = i
    · subst e; exact g2 _ _ hk
    · rw [if_neg e] at h; exact g2 _ _ h
  · have g := R.gr.1
    refine ⟨⟨h1.trans g.os, h2.trans g.tape, h3.trans g.output, by rw [h4]; exact g.size, fun b hb hne => ?_⟩, R.gr.2⟩
    rw [h5 b ?_]
    · exact g.block b hb hne
    · intro he
      have := R.lo i k hk
      omega
def stE (P : Program) (ty : TypeId) (cs : List SV) (o : Nat) (x : SV) : Option (List SV) :=
  match (P.info? ty).map (·.size) with
  | some n => match Nat.beq (cellsE x).length n && Nat.ble (o + n) cs.length && (cellsE x).all oneE with
    | true => some (setG cs o (cellsE x))
    | false => none
  | none => none
theorem Re.st (R : Re w0 F B K nx w) {i o : Nat} {k : Bx} (hk : K i = some k) {ty : TypeId} {x : SV} (hb : bd nx x) {cs' : List SV} (h : stE P ty k.cs o x = some cs') :
    ∃ w', (storeVar ty ⟨(B i).1, o, none⟩ (den B x)).run P w = .ok () w' ∧ Re w0 F B (setF K i (some ⟨k.ty, cs', k.sz, k.mp, k.es⟩)) nx w' := by
  unfold stE at h
  cases hi : (P.info? ty).map (·.size) with
  | none => rw [hi] at h; cases h
  | some n =>
    rw [hi] at h
    simp only at h
    cases hc : (Nat.beq (cellsE x).length n && Nat.ble (o + n) k.cs.length && (cellsE x).all oneE) with
    | false => rw [hc] at h; cases h
    | true =>
      rw [hc] at h
      simp only [Option.some.injEq] at h
      subst h
      simp only [Bool.and_eq_true, List.all_eq_true] at hc
      obtain ⟨⟨h1, h2⟩, h3⟩ := hc
      replace h1 := Nat.eq_of_beq_eq_true h1
      have h2' : o + n ≤ k.cs.length := by simpa using h2
      have hcd := cellsE_den B x
      have hsz : (den B x).cells.size = n := by rw [← h1, ← denL_length B, hcd]; simp
      refine ⟨w.setCells (B i).1 o (denL B (cellsE x)), ?_, R.store hk (cellsE_bd hb) (by omega)⟩
      obtain ⟨_, hbk, rest, _, hh⟩ := R.bx i k hk
      have hs := run_storeCells_cells (P := P) (B i).1 o (denL B (cellsE x)) 0 w (fun j hj => by
        rw [denL_length] at hj
        rw [Nat.add_zero, R.cell hk (List.getElem?_eq_getElem (by omega))]; rfl) (fun j hj => by
          rw [denL_length] at hj
          rw [objOf_any (hbk.cell (o := o + j) (by omega))] at hh
          exact frozenF hh (by rw [List.length_append, denL_length]; omega)) (fun y hy => by
          rw [denL_map] at hy
          obtain ⟨z, hz, rfl⟩ := List.mem_map.1 hy
          exact oneE_den B (h3 z hz))
      simp only [Nat.add_zero] at hs
      simp only [storeVar, Sem.run_bind, SX.run_info hi, Result.andThen_ok, hsz, ne_eq, not_true_eq_false, if_false, Sem.run_pure]
      rw [← hcd]
      exact hs
end

/-! ### One operation -/
/-- Memory: the own variables, the next name, and the names that were written. -/
structure Mm where
  K : Tr Bx
  nx : Nat
  lg : List Nat
def Mm.new (m : Mm) (k : Bx) : Mm := ⟨m.K.set m.nx (some k), m.nx + 1, m.lg⟩
def Mm.upd (m : Mm) (i : Nat) (k : Bx) : Mm := ⟨m.K.set i (some k), m.nx, i :: m.lg⟩
theorem small {n : Nat} (h : tinyB n = true) : n + 1 < 2 ^ 40 := by
  have : n ≤ 1000000000 := by simpa [tinyB] using h
  omega
theorem Tr.get_set {α : Type} {t : Tr α} {n : Nat} {x : Option α} (h : tinyB n = true) : (t.set n x).get = setF t.get n x := by
  funext k
  exact Tr.get_put t n k x (small h)
abbrev Rho := Operand → Option SV
def envE (ρ : Rho) (x : Operand) : Value :=
  match ρ x with
  | some (.v y) => y
  | some (.y y) => y
  | some (.g l) => match softL l with
    | some r => .agg r.toArray
    | none => undef
  | _ => undef
def isVE (ρ : Rho) (x : Operand) : Bool :=
  match ρ x with
  | some (.v _) => true
  | _ => false
def isYE (ρ : Rho) (x : Operand) : Bool :=
  match ρ x with
  | some (.v _) => true
  | some (.y _) => true
  | some (.g l) => (softL l).isSome
  | _ => false
def plainE (P : Program) (ρ : Rho) (o : Oper) : Option SV :=
  match SX.notSel o.op with
  | true => match o.op.operands.toList.all (isVE ρ) with
    | true => match SX.pev P (execOp (envE ρ) o) with
      | some (.value x) => some (.v x)
      | _ => none
    | false => match o.op.operands.toList.all (isYE ρ) with
      | true => match SX.pev P (execOp (envE ρ) o) with
        | some (.value x) => some (.y x)
        | _ => none
      | false => none
  | false => none
def valsE (ρ : Rho) : List Operand → Option (List SV)
  | [] => some []
  | x :: r => match ρ x, valsE ρ r with
    | some v, some l => some (v :: l)
    | _, _ => none
def natE : SV → Option Nat
  | .v (.int _ (.ofNat n)) => some n
  | _ => none
def boolE : SV → Option Bool
  | .v (.bool b) => some b
  | _ => none
/-- Cells filled with parts. -/
def fillE (place : Nat → Option (Nat × Nat)) : List SV → List (Nat × SV) → Option (List SV)
  | cells, [] => some cells
  | cells, (i, v) :: rest => match place i with
    | none => none
    | some (off, size) => match Nat.beq (cellsE v).length size && Nat.ble (off + (cellsE v).length) cells.length with
      | true => fillE place (setG cells off (cellsE v)) rest
      | false => none
theorem foldl_setG (off : Nat) : ∀ (l : List Value) (j : Nat) (cs : Array Value), ((l.zipIdx j).foldl (fun cs (c, j) => cs.setIfInBounds (off + j) c) cs).toList = setG cs.toList (off + j) l
  | [], _, _ => rfl
  | v :: l, j, cs => by
    simp only [List.zipIdx_cons, List.foldl_cons]
    rw [foldl_setG off l (j + 1)]
    simp only [setG, Array.toList_setIfInBounds]
    rfl
theorem fillE_run (B : Pl) {place : Nat → Option (Nat × Nat)} : ∀ (parts : List (Nat × SV)) {cells r : List SV}, fillE place cells parts = some r →
    Instr.fill place (denL B cells).toArray (parts.map fun q => (q.1, den B q.2)) = some (denL B r).toArray
  | [], cells, r, h => by simp [fillE] at h; subst h; rfl
  | (i, v) :: rest, cells, r, h => by
    simp only [fillE] at h
    simp only [List.map_cons, Instr.fill]
    cases hp : place i with
    | none => rw [hp] at h; cases h
    | some q =>
      obtain ⟨off, size⟩ := q
      rw [hp] at h
      simp only at h
      cases hc : (Nat.beq (cellsE v).length size && Nat.ble (off + (cellsE v).length) cells.length) with
      | false => rw [hc] at h; cases h
      | true =>
        rw [hc] at h
        simp only at h
        simp only [Bool.and_eq_true] at hc
        obtain ⟨h1, h2⟩ := hc
        replace h1 := Nat.eq_of_beq_eq_true h1
        have h2' : off + (cellsE v).length ≤ cells.length := by simpa using h2
        have hcd := cellsE_den B v
        have hsz : (den B v).cells.size = (cellsE v).length := by rw [← denL_length B, hcd]; simp
        have hf : ((den B v).cells.zipIdx.foldl (fun cs (c, j) => cs.setIfInBounds (off + j) c) (denL B cells).toArray) = (denL B (setG cells off (cellsE v))).toArray := by
          apply Array.ext'
          rw [← Array.foldl_toList]
          have := foldl_setG off (den B v).cells.toList 0 (denL B cells).toArray
          simp only [Array.toList_zipIdx]
          rw [this, setG_den, hcd]
          rfl
        simp only [hsz, h1, ne_eq, not_true_eq_false, decide_false, Bool.false_or, List.size_toArray, denL_length]
        rw [if_neg (by simp; omega)]
        rw [hf]
        exact fillE_run B rest h
theorem fillE_bd {n : Nat → Prop} {place : Nat → Option (Nat × Nat)} : ∀ (parts : List (Nat × SV)) {cells r : List SV}, fillE place cells parts = some r → bdL n cells → (∀ q ∈ parts, bd n q.2) → bdL n r
  | [], cells, r, h, hc, _ => by simp [fillE] at h; subst h; exact hc
  | (i, v) :: rest, cells, r, h, hcl, hp => by
    simp only [fillE] at h
    cases hp' : place i with
    | none => rw [hp'] at h; cases h
    | some q =>
      obtain ⟨off, size⟩ := q
      rw [hp'] at h
      simp only at h
      cases hc : (Nat.beq (cellsE v).length size && Nat.ble (off + (cellsE v).length) cells.length) with
      | false => rw [hc] at h; cases h
      | true =>
        rw [hc] at h
        exact fillE_bd rest h (setG_bd (cellsE_bd (hp (i, v) (by simp))) hcl) (fun q hq => hp q (List.mem_cons_of_mem _ hq))
end Go.Proofs.Ytnlcjlhcghgaoaa.EX
