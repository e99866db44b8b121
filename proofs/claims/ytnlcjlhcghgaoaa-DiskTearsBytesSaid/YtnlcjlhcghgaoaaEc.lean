
/-
  Runs by computation: one operation, and why it is sound.
-/
import Derived.Test.YtnlcjlhcghgaoaaEb
import Derived.Laws.MakeOwn
import Derived.Laws.StructEq
namespace Go.Proofs.Ytnlcjlhcghgaoaa.EX
open Go Go.RowKit
set_option linter.unusedVariables false
set_option linter.unusedSimpArgs false
set_option linter.unusedSectionVars false
set_option maxRecDepth 10000
variable [FC]

def sizeE (P : Program) (ty : TypeId) : Option Nat := (P.info? ty).map (·.size)
def bldE (P : Program) (t : TypeId) (parts : List (Nat × SV)) : Option (List SV) :=
  match SX.pev P (zeroValue t), P.underlying t with
  | some z, some (.struct fields) => match SX.pev P (fields.mapM fun f => do pure (f.offset, ← sizeOf f.type)) with
    | some places => fillE (places[·]?) (z.cells.toList.map .v) parts
    | none => none
  | some z, some (.array _ elem) => match sizeE P elem with
    | some size => fillE (fun i => some (i * size, size)) (z.cells.toList.map .v) parts
    | none => none
  | _, _ => none
def bslE (P : Program) (t : TypeId) (len : Nat) (parts : List (Nat × SV)) : Option Bx :=
  match P.underlying t with
  | some (.slice elem) => match sizeE P elem, SX.pev P (zeroValue elem) with
    | some size, some z => match Nat.beq (len * size) 0 || Nat.blt (2 ^ 24) (len * size) with
      | true => match Nat.beq (len * size) 0, parts with
        | true, [] => some ⟨elem, [], 0, false, []⟩
        | _, _ => none
      | false => match fillE (fun i => some (i * size, size)) (((Array.range (len * size)).map (z.cells[· % z.cells.size]!)).toList.map .v) parts with
        | some cells => some ⟨elem, cells, 0, false, []⟩
        | none => none
    | _, _ => none
  | _ => none
def fldE (P : Program) (t : TypeId) (cs : List SV) (f : Nat) : Option SV :=
  match P.underlying t with
  | some (.struct fields) => match fields[f]? with
    | some fl => match P.underlying fl.type, sizeE P fl.type with
      | some d, some n => match d.isRow with
        | true => some (mkAgg ((cs.drop fl.offset).take n))
        | false => cs[fl.offset]?
      | _, _ => none
    | none => none
  | _ => none
def idxE (P : Program) (t : TypeId) (len n : Nat) : Option Nat :=
  match P.underlying t with
  | some (.slice elem) => match Nat.blt n len, sizeE P elem with
    | true, some size => some (n * size)
    | _, _ => none
  | _ => none
def aidxE (P : Program) (t : TypeId) (n : Nat) : Option Nat :=
  match P.underlying t with
  | some (.array len elem) => match Nat.blt n len, sizeE P elem with
    | true, some size => some (n * size)
    | _, _ => none
  | _ => none
def isIfc : TypeDesc → Bool
  | .interface _ => true
  | _ => false
def mkIf (ty : TypeId) (v : SV) : SV :=
  match v with
  | .v z => .v (.iface ty z)
  | .y z => .y (.iface ty z)
  | v => .e ty v
theorem mkIf_den (B : Pl) (ty : TypeId) (v : SV) : den B (mkIf ty v) = .iface ty (den B v) := by unfold mkIf; split <;> simp [den]
theorem mkIf_bd {n : Nat → Prop} {ty : TypeId} {v : SV} (h : bd n v) : bd n (mkIf ty v) := by unfold mkIf; split <;> simp_all [bd]
def tasE (P : Program) (ty : TypeId) (x : SV) (asserted : TypeId) (ok : Bool) : Option SV :=
  match (P.underlying asserted).map isIfc, Nat.beq ty asserted with
  | some false, true => some (match ok with
    | true => .t [x, .v (.bool true)]
    | false => x)
  | _, _ => none
def isNil (P : Program) (ty : TypeId) (x y : SV) : Bool :=
  match P.underlying ty, x, y with
  | some (.pointer _), .p _ _, .v (.pointer none) => true
  | some (.slice _), .s _ _ _ _, .v (.slice none _ _) => true
  | some (.slice _), .r _ _ _ _, .v (.slice none _ _) => true
  | some (.slice _), .z _ _ _, .v (.slice none _ _) => true
  | some (.slice _), .q _ _ _ _, .v (.slice none _ _) => true
  | some (.pointer _), .a _ _, .v (.pointer none) => true
  | some (.func _ _ _), .f _ _ _, .v .nilFunc => true
  | some (.interface _), .e _ _, .v .nilIface => true
  | _, _, _ => false
/-- Bounds of a slice of a slice, where all is known. -/
def bndE : Option (Option SV) → Nat → Nat → Option Nat
  | none, d, _ => some d
  | some x, _, top => match x with
    | some s => match natE s with
      | some n => match Nat.ble n top with
        | true => some n
        | false => none
      | none => none
    | none => none
def slcE (P : Program) (ρ : Rho) (t : TypeId) (x : SV) (lo hi mx : Option Operand) : Option SV :=
  match P.underlying t, x, mx with
  | some (.slice elem), .s i o len cap, none => match bndE (hi.map ρ) len cap, sizeE P elem with
    | some h, some size => match bndE (lo.map ρ) 0 h with
      | some l => some (.s i (match Nat.beq cap l with
        | true => o
        | false => o + l * size) (h - l) (cap - l))
      | none => none
    | _, _ => none
  | some (.slice elem), .r i o len x, none => match bndE (hi.map ρ) len x, sizeE P elem with
    | some h, some size => match bndE (lo.map ρ) 0 h with
      | some l => match Nat.ble h x with
        | true => some (match Nat.beq x l with
          | true => .z i o (o + l * size)
          | false => .r i (o + l * size) (h - l) (x - l))
        | false => none
      | none => none
    | _, _ => none
  | some (.slice elem), .z i o q, none => match bndE (hi.map ρ) 0 0, sizeE P elem with
    | some h, some size => match bndE (lo.map ρ) 0 h with
      | some l => some (.z i o q)
      | none => none
    | _, _ => none
  | _, _, _ => none
def ownE : SV → Bool
  | .v _ => false
  | .y _ => false
  | .t _ => false
  | _ => true
/-- A plain operation on values that are all known. -/
def rawOnly (P : Program) (ρ : Rho) (o : Oper) : Option SV :=
  match o.op.operands.toList.all (isVE ρ) with
  | true => plainE P ρ o
  | false => none
/-- The row of a slice that is made. -/
def mkE (P : Program) (t : TypeId) (a b : Nat) : Option Bx :=
  match P.underlying t with
  | some (.slice e) => match P.info? e with
    | some i => match i.zero with
      | some z => match Nat.ble a b && Nat.ble b 100000 && Nat.ble i.bytes 100000 with
        | true => some ⟨e, ((List.range (b * i.size)).map fun j => z.cells[j % z.cells.size]!).map .v, 0, false, []⟩
        | false => none
      | none => none
    | none => none
  | _ => none
/-- An element of an array that is a value. -/
def elE (P : Program) (t : TypeId) (cs : List SV) (n : Nat) : Option SV :=
  match P.underlying t with
  | some (.array len elem) => match Nat.blt n len, P.underlying elem, sizeE P elem with
    | true, some d, some size => match d.isRow with
      | true => some (mkAgg ((cs.drop (n * size)).take size))
      | false => cs[n * size]?
    | _, _, _ => none
  | _ => none
def elX (P : Program) (t : TypeId) (cs : List SV) (ix : Option SV) : Option SV := match ix with
  | some iv => match natE iv with
    | some n => elE P t cs n
    | none => none
  | none => none
/-! ### Equality of structs that are not known -/
def eqT : TypeDesc → Value → Value → Option Bool
  | .int _, .int k a, .int k' b => match decide (k = k') with
    | true => some (a == b)
    | false => none
  | .bool, .bool a, .bool b => some (a == b)
  | .string, .string a, .string b => some (a.toList == b.toList)
  | _, _, _ => none
def eqFs (P : Program) (xs ys : Array Value) : List Field → Option Bool
  | [] => some true
  | f :: l => match P.underlying f.type, xs[f.offset]?, ys[f.offset]? with
    | some d, some a, some b => match eqT d a b, eqFs P xs ys l, decide (f.name = "_") with
      | some x, some y, false => some (x && y)
      | _, _, _ => none
    | _, _, _ => none
def eqS (P : Program) (ty : TypeId) (u v : Value) : Option Bool := match P.underlying ty, u, v with
  | some (.struct fields), .agg xs, .agg ys => match P.stoodInHeld ty, P.eqGuardType P.depth ty with
    | false, false => eqFs P xs ys fields.toList
    | _, _ => none
  | _, _, _ => none
def eqE (P : Program) (ρ : Rho) (o : Oper) (ty : TypeId) (y z : Operand) (ne : Bool) : Option SV :=
  match isVE ρ y && isVE ρ z with
  | true => plainE P ρ o
  | false => match isYE ρ y && isYE ρ z with
    | true => match eqS P ty (envE ρ y) (envE ρ z) with
      | some c => some (.y (.bool (match ne with
        | true => !c
        | false => c)))
      | none => plainE P ρ o
    | false => plainE P ρ o
/-! ### Maps whose keys are known integers -/
/-- What a map holds under a key: nothing where that is not known. -/
def keyE (kd : IntKind) (n : Int) : List SV → Option (Option SV)
  | [] => some none
  | k :: v :: l => match k with
    | .v (.int kd' n') => match decide (kd = kd'), decide (n = n') with
      | true, true => some (some v)
      | true, false => keyE kd n l
      | _, _ => none
    | _ => none
  | [_] => none
def isIntT : TypeDesc → Bool
  | .int _ => true
  | _ => false
def mkmE (m : Mm) (t : TypeId) (b : Bool) : Option (SV × Mm) := match b with
  | true => some (.m m.nx, m.new ⟨t, [], 0, true, []⟩)
  | false => none
def insE (P : Program) (m : Mm) (t : TypeId) (x k v : Option SV) : Option (SV × Mm) := match P.underlying t, x, k, v with
  | some (.map kt et), some (.m i), some (.v (.int kd n)), some v => match (P.underlying kt).map isIntT, m.K.get i, tinyB i with
    | some true, some b, true => match b.mp, keyE kd n b.es with
      | true, some none => some (.v undef, m.upd i ⟨b.ty, [], 0, true, b.es ++ [.v (.int kd n), v]⟩)
      | _, _ => none
    | _, _, _ => none
  | _, _, _, _ => none
def lkV (ok : Bool) (r : Option SV) (z : Value) : SV := match ok with
  | true => .t [r.getD (.v z), .v (.bool r.isSome)]
  | false => r.getD (.v z)
def lkE (P : Program) (m : Mm) (t : TypeId) (x ix : Option SV) (ok : Bool) : Option (SV × Mm) := match P.underlying t, x, ix with
  | some (.map kt et), some (.m i), some (.v (.int kd n)) => match (P.underlying kt).map isIntT, m.K.get i, SX.pev P (zeroValue et) with
    | some true, some b, some z => match b.mp, keyE kd n b.es with
      | true, some r => some (lkV ok r z, m)
      | _, _ => none
    | _, _, _ => none
  | _, _, _ => none
def opE0 (P : Program) (ρ : Rho) (m : Mm) (o : Oper) : Option (SV × Mm) :=
  match o.op with
  | .move x => match ρ x with
    | some v => some (v, m)
    | none => none
  | .assign x => match ρ x with
    | some v => some (v, m)
    | none => none
  | .load ty x => match ρ x with
    | some (.p i off) => match m.K.get i with
      | some k => match ldE P ty k.cs off with
        | some v => some (v, m)
        | none => none
      | none => none
    | _ => none
  | .store ty x y => match ρ x, ρ y with
    | some (.p i off), some v => match m.K.get i, tinyB i with
      | some k, true => match stE P ty k.cs off v with
        | some cs => some (.v undef, m.upd i ⟨k.ty, cs, k.sz, k.mp, k.es⟩)
        | none => none
      | _, _ => none
    | _, _ => none
  | .alloc ty => match SX.zeroS P ty, tinyB m.nx with
    | some cs, true => some (.p m.nx 0, m.new ⟨ty, cs.map .v, 0, false, []⟩)
    | _, _ => none
  | .box ty x => match ρ x, tinyB m.nx with
    | some v, true => some (.p m.nx 0, m.new ⟨ty, cellsE v, 0, false, []⟩)
    | _, _ => none
  | .build t parts => match rawOnly P ρ o with
    | some x => some (x, m)
    | none => match valsE ρ (parts.toList.map (·.2)) with
      | some vs => match bldE P t ((parts.toList.map (·.1)).zip vs) with
        | some cs => some (mkAgg cs, m)
        | none => none
      | none => none
  | .buildSlice t len parts => match valsE ρ (parts.toList.map (·.2)), tinyB m.nx with
    | some vs, true => match bslE P t len ((parts.toList.map (·.1)).zip vs) with
      | some k => some (.s m.nx 0 len len, m.new k)
      | none => none
    | _, _ => none
  | .fieldAddr t x f => match ρ x with
    | some (.p i off) => match SX.fieldS P t f with
      | some q => some (.p i (off + q), m)
      | none => none
    | _ => none
  | .indexAddr t x ix => match ρ x, ρ ix with
    | some (.s i off l _), some iv => match natE iv with
      | some n => match idxE P t l n with
        | some q => some (.p i (off + q), m)
        | none => none
      | none => none
    | some (.r i off l _), some iv => match natE iv with
      | some n => match idxE P t l n with
        | some q => some (.p i (off + q), m)
        | none => none
      | none => none
    | some (.p i off), some iv => match natE iv with
      | some n => match aidxE P t n with
        | some q => some (.p i (off + q), m)
        | none => none
      | none => none
    | _, _ => none
  | .makeFunc (.func fn) first caps => match valsE ρ first.toList, valsE ρ caps.toList with
    | some a, some b => some (.f fn a b, m)
    | _, _ => none
  | .field t x f => match ρ x with
    | some (.g cs) => match fldE P t cs f with
      | some v => some (v, m)
      | none => none
    | _ => match plainE P ρ o with
      | some x => some (x, m)
      | none => none
  | .index t x ix => match ρ x with
    | some (.g cs) => match elX P t cs (ρ ix) with
      | some v => some (v, m)
      | none => none
    | _ => match plainE P ρ o with
      | some x => some (x, m)
      | none => none
  | .makeInterface ty x => match ρ x, (P.underlying ty).map isIfc with
    | some v, some false => some (mkIf ty v, m)
    | _, _ => none
  | .typeAssert x xt t ok => match ρ x with
    | some (.e ty v) => match tasE P ty v t ok with
      | some z => some (z, m)
      | none => none
    | _ => match plainE P ρ o with
      | some x => some (x, m)
      | none => none
  | .extract x ix => match ρ x with
    | some (.t cs) => match cs[ix]? with
      | some z => some (z, m)
      | none => none
    | _ => match plainE P ρ o with
      | some x => some (x, m)
      | none => none
  | .pick c x y => match ρ c with
    | some (.v (.bool true)) => match ρ x with
      | some z => some (z, m)
      | none => none
    | some (.v (.bool false)) => match ρ y with
      | some z => some (z, m)
      | none => none
    | _ => none
  | .nilCheck x => match ρ x with
    | some (.p i off) => some (.p i off, m)
    | some (.s i off l c) => some (.s i off l c, m)
    | some (.r i off l c) => some (.r i off l c, m)
    | some (.f g a b) => some (.f g a b, m)
    | some (.e t v) => some (.e t v, m)
    | _ => match plainE P ρ o with
      | some x => some (x, m)
      | none => none
  | .slice t x lo hi mx => match ρ x with
    | some (.s i off l c) => match slcE P ρ t (.s i off l c) lo hi mx with
      | some z => some (z, m)
      | none => none
    | some (.r i off l c) => match slcE P ρ t (.r i off l c) lo hi mx with
      | some z => some (z, m)
      | none => none
    | some (.z i off q) => match slcE P ρ t (.z i off q) lo hi mx with
      | some z => some (z, m)
      | none => none
    | _ => match plainE P ρ o with
      | some x => some (x, m)
      | none => none
  | .binOp .eql ty x y _ => match ρ x, ρ y with
    | some u, some v => match isNil P ty u v with
      | true => some (.v (.bool false), m)
      | false => match eqE P ρ o ty x y false with
        | some x => some (x, m)
        | none => none
    | _, _ => none
  | .binOp .neq ty x y _ => match ρ x, ρ y with
    | some u, some v => match isNil P ty u v with
      | true => some (.v (.bool true), m)
      | false => match eqE P ρ o ty x y true with
        | some x => some (x, m)
        | none => none
    | _, _ => none
  | .makeSlice t l c => match ρ l, ρ c, tinyB m.nx with
    | some lv, some cv, true => match natE lv, natE cv with
      | some a, some b => match mkE P t a b with
        | some k => some (.s m.nx 0 a b, m.new k)
        | none => none
      | _, _ => none
    | _, _, _ => none
  | .makeMap t none => mkmE m t (tinyB m.nx)
  | .insert t x k v => insE P m t (ρ x) (ρ k) (ρ v)
  | .lookup t x ix ok => lkE P m t (ρ x) (ρ ix) ok
  | .call ⟨.builtin .len, ⟨[x]⟩, ⟨[t]⟩⟩ => match ρ x, P.underlying t with
    | some (.s _ _ l _), some (.slice _) => some (.v (goInt l), m)
    | some (.r _ _ l _), some (.slice _) => some (.v (goInt l), m)
    | some (.z _ _ _), some (.slice _) => some (.v (goInt (0 : Nat)), m)
    | _, _ => match plainE P ρ o with
      | some x => some (x, m)
      | none => none
  | _ => match plainE P ρ o with
    | some x => some (x, m)
    | none => none

def OpOk (P : Program) (w0 : World) (F : List RF) (B : Pl) (S : Nat → Prop) (nx : Nat) (o : Oper) (a : Act) (w : World) (x : SV) (m' : Mm) : Prop :=
  ∃ r w' B', (execOp a.eval o).run P w = .ok r w' ∧ (r = .value (den B' x) ∨ (r = .skip ∧ x = .v undef)) ∧ Ag nx m'.nx B B' ∧ nx ≤ m'.nx ∧ Re w0 F B' m'.K.get (ext S nx m'.nx) w' ∧ bd (ext S nx m'.nx) x
section
variable {P : Program} {w0 : World} {F : List RF} {B : Pl} {S : Nat → Prop} {m m' : Mm} {a : Act} {w : World} {ρ : Rho} {o : Oper} {x : SV}
def RhoOk (B : Pl) (nx : Nat → Prop) (a : Act) (ρ : Rho) : Prop := ∀ y v, ρ y = some v → a.eval y = den B v ∧ bd nx v
theorem ok_pure (R : Re w0 F B m.K.get S w) (hb : bd S x) (h : (execOp a.eval o).run P w = .ok (.value (den B x)) w) : OpOk P w0 F B S m.nx o a w x m :=
  ⟨_, w, B, h, Or.inl rfl, Ag.refl _ _ _, Nat.le_refl _, by rw [ext_self]; exact R, by rw [ext_self]; exact hb⟩
theorem plain_ok (R : Re w0 F B m.K.get S w) (hρ : RhoOk B S a ρ) (h : plainE P ρ o = some x) : OpOk P w0 F B S m.nx o a w x m := by
  unfold plainE at h
  cases hs : SX.notSel o.op with
  | false => rw [hs] at h; cases h
  | true =>
    rw [hs] at h
    simp only at h
    have hne : ∀ cs b, o.op ≠ .select cs b := fun cs b e => by rw [e] at hs; cases hs
    cases ha : o.op.operands.toList.all (isVE ρ) with
    | true =>
      rw [ha] at h
      simp only at h
      have he : execOp a.eval o = execOp (envE ρ) o := SX.execOp_congr o (fun z hz => by
        have hv := (List.all_eq_true.1 ha) z hz
        unfold isVE at hv
        unfold envE
        cases hr : ρ z with
        | none => rw [hr] at hv; cases hv
        | some q =>
          rw [hr] at hv
          cases q with
          | v q => have := (hρ z _ hr).1; simpa [den] using this
          | _ => cases hv) hne
      cases hp : SX.pev P (execOp (envE ρ) o) with
      | none => rw [hp] at h; cases h
      | some nx =>
        rw [hp] at h
        cases nx <;> simp only [reduceCtorEq, Option.some.injEq] at h
        subst h
        exact ok_pure R (by simp [bd]) (by rw [he, SX.pev_run _ hp w]; simp [den])
    | false =>
      rw [ha] at h
      simp only at h
      cases hy : o.op.operands.toList.all (isYE ρ) with
      | false => rw [hy] at h; cases h
      | true =>
        rw [hy] at h
        simp only at h
        have he : execOp a.eval o = execOp (envE ρ) o := SX.execOp_congr o (fun z hz => by
          have hv := (List.all_eq_true.1 hy) z hz
          unfold isYE at hv
          unfold envE
          cases hr : ρ z with
          | none => rw [hr] at hv; cases hv
          | some q =>
            rw [hr] at hv
            cases q with
            | v q => have := (hρ z _ hr).1; simpa [den] using this
            | y q => have := (hρ z _ hr).1; simpa [den] using this
            | g l =>
              have := (hρ z _ hr).1
              obtain ⟨r, hr'⟩ := Option.isSome_iff_exists.1 hv
              simp only [hr']
              rw [this, den, softL_den B hr']
            | _ => cases hv) hne
        cases hp : SX.pev P (execOp (envE ρ) o) with
        | none => rw [hp] at h; cases h
        | some nx =>
          rw [hp] at h
          cases nx <;> simp only [reduceCtorEq, Option.some.injEq] at h
          subst h
          exact ok_pure R (by simp [bd]) (by rw [he, SX.pev_run _ hp w]; simp [den])
theorem envE_ok (hρ : RhoOk B S a ρ) {z : Operand} (hv : isYE ρ z = true) : a.eval z = envE ρ z := by
  unfold isYE at hv
  unfold envE
  cases hr : ρ z with
  | none => rw [hr] at hv; cases hv
  | some q =>
    rw [hr] at hv
    cases q with
    | v q => have := (hρ z _ hr).1; simpa [den] using this
    | y q => have := (hρ z _ hr).1; simpa [den] using this
    | g l =>
      have := (hρ z _ hr).1
      obtain ⟨r, hr'⟩ := Option.isSome_iff_exists.1 hv
      simp only [hr']
      rw [this, den, softL_den B hr']
    | _ => cases hv
theorem eqT_run {t : TypeId} {d : TypeDesc} {u v : Value} {c : Bool} (hu : P.underlying t = some d) (h : eqT d u v = some c) (n off : Nat) {xs ys : Array Value} (hx : xs[off]? = some u) (hy : ys[off]? = some v) (w : World) :
    (part t xs off).run P w = .ok u w ∧ (part t ys off).run P w = .ok v w ∧ (Op.equalIn (n + 1) t u v).run P w = .ok c w := by
  unfold eqT at h
  split at h
  · rename_i q k a k' b
    split at h
    · rename_i hk
      simp only [decide_eq_true_eq] at hk
      simp only [Option.some.injEq] at h
      subst hk; subst h
      exact ⟨by simp [part, isAgg, run_underlying hu, hx], by simp [part, isAgg, run_underlying hu, hy], run_equalIn_int w n t k q a b hu⟩
    · cases h
  · rename_i a b
    simp only [Option.some.injEq] at h
    subst h
    exact ⟨by simp [part, isAgg, run_underlying hu, hx], by simp [part, isAgg, run_underlying hu, hy], run_equalIn_bool' w n t a b hu⟩
  · rename_i a b
    simp only [Option.some.injEq] at h
    subst h
    exact ⟨by simp [part, isAgg, run_underlying hu, hx], by simp [part, isAgg, run_underlying hu, hy], run_equalIn_string w n t a b hu⟩
  · cases h
theorem eqFs_run {xs ys : Array Value} (n : Nat) (w : World) : ∀ (l : List Field) {c : Bool}, eqFs P xs ys l = some c → (Op.eqFields (n + 1) xs ys l).run P w = .ok c w
  | [], c, h => by
    simp only [eqFs, Option.some.injEq] at h
    subst h
    simp [Op.eqFields]
  | f :: l, c, h => by
    simp only [eqFs] at h
    split at h
    · rename_i d u v hd hx hy
      split at h
      · rename_i x y he hl hn
        simp only [Option.some.injEq] at h
        subst h
        obtain ⟨h1, h2, h3⟩ := eqT_run hd he n f.offset hx hy w
        have h4 := eqFs_run n w l hl
        have hn' : f.name ≠ "_" := by simpa using hn
        simp only [Op.eqFields, hn', ne_eq, not_false_eq_true, if_true, Sem.run_bind, h1, h2, h3, Result.andThen_ok]
        cases x with
        | false => simp
        | true => simpa using h4
      · cases h
    · cases h
theorem eqS_run {ty : TypeId} {u v : Value} {c : Bool} (h : eqS P ty u v = some c) (w : World) (y z : Operand) : (do eqGuard .eql ty y z u v; binOp .eql ty u v).run P w = .ok (.bool c) w ∧ (do eqGuard .neq ty y z u v; binOp .neq ty u v).run P w = .ok (.bool (!c)) w := by
  unfold eqS at h
  split at h
  · rename_i fields xs ys hu
    split at h
    · rename_i hs hg
      have hf : P.fieldsOf ty = fields := by unfold Program.fieldsOf; rw [hu]
      have hr := run_equalIn_struct w 9999 ty xs ys (by rw [hf]; exact hu) hs
      rw [hf, eqFs_run 9998 w fields.toList h] at hr
      refine ⟨?_, ?_⟩
      · rw [Sem.run_bind, run_eqGuard_agg w .eql ty y z xs ys hg]
        simp only [Result.andThen_ok]
        rw [run_eql_struct w ty xs ys, hr]
        rfl
      · rw [Sem.run_bind, run_eqGuard_agg w .neq ty y z xs ys hg]
        simp only [Result.andThen_ok]
        rw [run_neq_struct w ty xs ys, hr]
        rfl
    · cases h
  · cases h
theorem eqE_ok (R : Re w0 F B m.K.get S w) (hρ : RhoOk B S a ρ) {ty yt : TypeId} {y z : Operand} {ne : Bool} {v : SV} (ho : o.op = .binOp (match ne with
    | true => .neq
    | false => .eql) ty y z yt) (h : eqE P ρ o ty y z ne = some v) : OpOk P w0 F B S m.nx o a w v m := by
  unfold eqE at h
  split at h
  · exact plain_ok R hρ h
  · split at h
    · rename_i hy
      simp only [Bool.and_eq_true] at hy
      split at h
      · rename_i c hc
        simp only [Option.some.injEq] at h
        subst h
        rw [← envE_ok hρ hy.1, ← envE_ok hρ hy.2] at hc
        obtain ⟨h1, h2⟩ := eqS_run hc w y z
        refine ok_pure R (by simp [bd]) ?_
        cases ne with
        | false =>
          unfold execOp
          simp only [ho]
          rw [Sem.run_bind, h1]
          rfl
        | true =>
          unfold execOp
          simp only [ho]
          rw [Sem.run_bind, h2]
          rfl
      · exact plain_ok R hρ h
    · exact plain_ok R hρ h
theorem plain_ok' (R : Re w0 F B m.K.get S w) (hρ : RhoOk B S a ρ) (h : (match plainE P ρ o with
      | some x => some (x, m)
      | none => none) = some (x, m')) : OpOk P w0 F B S m.nx o a w x m' := by
  cases hp : plainE P ρ o with
  | none => rw [hp] at h; cases h
  | some y =>
    rw [hp] at h
    simp only [Option.some.injEq, Prod.mk.injEq] at h
    obtain ⟨rfl, rfl⟩ := h
    exact plain_ok R hρ hp
theorem valsE_ok {n : Nat → Prop} (hρ : RhoOk B n a ρ) : ∀ (l : List Operand) {c : List SV}, valsE ρ l = some c → l.map a.eval = denL B c ∧ bdL n c
  | [], c, h => by simp [valsE] at h; subst h; simp [denL, bdL]
  | x :: l, c, h => by
    simp only [valsE] at h
    cases hx : ρ x with
    | none => rw [hx] at h; cases h
    | some y =>
      rw [hx] at h
      cases hl : valsE ρ l with
      | none => rw [hl] at h; cases h
      | some c' =>
        rw [hl] at h
        simp only [Option.some.injEq] at h; subst h
        obtain ⟨h1, h2⟩ := valsE_ok hρ l hl
        obtain ⟨h3, h4⟩ := hρ x y hx
        exact ⟨by simp [h1, h3, denL], by simp [bdL, h2, h4]⟩
theorem natE_den {s : SV} {n : Nat} (h : natE s = some n) (B : Pl) : ∃ k, den B s = .int k (Int.ofNat n) := by
  unfold natE at h
  split at h
  · rename_i k n
    simp only [Option.some.injEq] at h; subst h; exact ⟨k, by simp [den]⟩
  · cases h
theorem size_run {ty : TypeId} {n : Nat} (h : sizeE P ty = some n) (w : World) : (sizeOf ty).run P w = .ok n w := SX.run_info h w
theorem ok_new {k : Bx} {v : SV} (R : Re w0 F B m.K.get S w) (ht : tinyB m.nx = true) (hk : bdL S k.cs) (hv : bd (ext S m.nx (m.nx + 1)) v) (hz : k.sz = 0) (hS : ∀ j, S j → j < m.nx) (hd : ∀ B' : Pl, (B' m.nx).1 = w.heap.size → (∀ i, S i → B' i = B i) →
    (execOp a.eval o).run P w = .ok (.value (den B' v)) (w.alloc (.cells (denL B k.cs).toArray k.ty (0, 0)))) (hm : k.mp = false := by rfl) (he : k.es = [] := by rfl) : OpOk P w0 F B S m.nx o a w v (m.new k) := by
  obtain ⟨h1, h2⟩ := R.new k [] 0 ⟨hk, fun e => by rw [hm] at e; cases e⟩ (by simp [rowOk, hz]) hS
  rw [objOf_cells hm he, List.append_nil] at h1
  refine ⟨_, _, _, hd (setPl B m.nx (w.heap.size, 0)) (by simp [setPl]) (h2.on hS), Or.inl rfl, h2, by simp [Mm.new], ?_, hv⟩
  unfold Mm.new
  simp only [Tr.get_set ht]
  exact h1
theorem zip_map {β γ : Type} (f : β → γ) : ∀ (parts : List (Nat × Operand)) (g : Operand → γ) (c : List β), (parts.map (·.2)).map g = c.map f → ((parts.map (·.1)).zip c).map (fun q => (q.1, f q.2)) = parts.map fun q => (q.1, g q.2)
  | [], _, [], _ => rfl
  | [], _, _ :: _, h => by simp at h
  | q :: r, g, [], h => by simp at h
  | q :: r, g, y :: c, h => by
    simp only [List.map_cons, List.cons.injEq] at h
    simp [h.1, zip_map f r g c h.2]
theorem addr_add (b o k : Nat) : (⟨b, o, none⟩ : Addr).add k = ⟨b, o + k, none⟩ := by unfold Addr.add; split <;> simp_all
theorem zip_bd {n : Nat → Prop} : ∀ (l : List Nat) (c : List SV), bdL n c → ∀ q ∈ l.zip c, bd n q.2
  | [], _, _, q, hq => by simp at hq
  | i :: l, [], _, q, hq => by simp at hq
  | i :: l, y :: c, h, q, hq => by
    simp only [bdL] at h
    simp only [List.zip_cons_cons, List.mem_cons] at hq
    rcases hq with rfl | hq
    · exact h.1
    · exact zip_bd l c h.2 q hq
theorem bldE_run (B : Pl) {t : TypeId} {ps : List (Nat × SV)} {r : List SV} (h : bldE P t ps = some r) (w : World) : (Instr.build t (ps.map fun q => (q.1, den B q.2)).toArray).run P w = .ok (.agg (denL B r).toArray) w := by
  unfold bldE at h
  cases hz : SX.pev P (zeroValue t) with
  | none => rw [hz] at h; cases h
  | some z =>
    cases hu : P.underlying t with
    | none => rw [hz, hu] at h; cases h
    | some d =>
      rw [hz, hu] at h
      have hz' := SX.pev_run _ hz w
      have hu' := run_underlying hu w
      have hzc : z.cells = (denL B (z.cells.toList.map .v)).toArray := by rw [denL_v]
      cases d <;> simp only [reduceCtorEq] at h
      case struct fields =>
        cases hp : SX.pev P (fields.mapM fun f => do pure (f.offset, ← sizeOf f.type)) with
        | none => rw [hp] at h; cases h
        | some places =>
          rw [hp] at h
          simp only at h
          have hp' := SX.pev_run _ hp w
          have hf := fillE_run B ps h
          rw [← hzc] at hf
          unfold Instr.build
          simp only [Sem.run_bind, hz', Result.andThen_ok, hu', hp', hf, Sem.run_pure]
      case array len elem =>
        cases hp : sizeE P elem with
        | none => rw [hp] at h; cases h
        | some size =>
          rw [hp] at h
          simp only at h
          have hf := fillE_run B ps h
          rw [← hzc] at hf
          unfold Instr.build
          simp only [Sem.run_bind, hz', Result.andThen_ok, hu', size_run hp, hf, Sem.run_pure]
theorem bldE_bd {n : Nat → Prop} {t : TypeId} {ps : List (Nat × SV)} {r : List SV} (h : bldE P t ps = some r) (hb : ∀ q ∈ ps, bd n q.2) : bdL n r := by
  unfold bldE at h
  split at h
  · split at h
    · exact fillE_bd ps h (bdL_v _ _) hb
    · cases h
  · split at h
    · exact fillE_bd ps h (bdL_v _ _) hb
    · cases h
  · cases h
theorem bslE_run (B : Pl) {t : TypeId} {len : Nat} {ps : List (Nat × SV)} {k : Bx} (h : bslE P t len ps = some k) (w : World) : (Instr.buildSlice t len (ps.map fun q => (q.1, den B q.2)).toArray).run P w = .ok (.slice (some ⟨w.heap.size, 0, none⟩) len len) (w.alloc (.cells (denL B k.cs).toArray k.ty (0, 0))) := by
  unfold bslE at h
  cases hu : P.underlying t with
  | none => rw [hu] at h; cases h
  | some d =>
    rw [hu] at h
    cases d <;> simp only [reduceCtorEq] at h
    rename_i elem
    cases hi : sizeE P elem with
    | none => rw [hi] at h; simp at h
    | some size =>
      cases hz : SX.pev P (zeroValue elem) with
      | none => rw [hi, hz] at h; simp at h
      | some z =>
        rw [hi, hz] at h
        simp only at h
        cases hc : (Nat.beq (len * size) 0 || Nat.blt (2 ^ 24) (len * size)) with
        | true =>
          rw [hc] at h
          simp only at h
          split at h
          · rename_i hb
            have h1 := Nat.eq_of_beq_eq_true hb
            have h2 : ¬ len * size > 2 ^ 24 := by omega
            simp only [Option.some.injEq] at h
            subst h
            have hf' : Instr.fill (fun i => some (i * size, size)) ((Array.range (len * size)).map ((#[] : Array Value)[· % (#[] : Array Value).size]!)) (([] : List (Nat × SV)).map fun q => (q.1, den B q.2)) = some #[] := by
              rw [h1]
              simp [Instr.fill]
            simp only [Instr.buildSlice, Sem.run_bind, run_underlying hu w, Result.andThen_ok, size_run hi, if_neg h2, if_pos h1, Sem.run_pure, hf', newRow, newObj]
            rfl
          · cases h
        | false =>
          rw [hc] at h
          simp only at h
          simp only [Bool.or_eq_false_iff] at hc
          have h1 : ¬ len * size = 0 := fun e => by have := hc.1; rw [e] at this; cases this
          have h2 : ¬ len * size > 2 ^ 24 := fun e => by
            have := hc.2
            rw [show Nat.blt (2 ^ 24) (len * size) = true from by rw [Nat.blt, Nat.ble_eq]; exact e] at this; cases this
          cases hf : fillE (fun i => some (i * size, size)) (((Array.range (len * size)).map (z.cells[· % z.cells.size]!)).toList.map .v) ps with
          | none => rw [hf] at h; cases h
          | some cells =>
            rw [hf] at h
            simp only [Option.some.injEq] at h
            subst h
            have hf' := fillE_run B ps hf
            rw [denL_v] at hf'
            have e : ((Array.range (len * size)).map (z.cells[· % z.cells.size]!)).toList.toArray = (Array.range (len * size)).map (z.cells[· % z.cells.size]!) := Array.toArray_toList
            rw [e] at hf'
            simp only [Instr.buildSlice, Sem.run_bind, run_underlying hu w, Result.andThen_ok, size_run hi, if_neg h2, if_neg h1, Sem.run_pure, SX.pev_run _ hz, hf', newRow, newObj]
            rfl
theorem bslE_bd {n : Nat → Prop} {t : TypeId} {len : Nat} {ps : List (Nat × SV)} {k : Bx} (h : bslE P t len ps = some k) (hb : ∀ q ∈ ps, bd n q.2) : bdL n k.cs := by
  unfold bslE at h
  repeat' (split at h)
  all_goals (try (cases h; done))
  · simp only [Option.some.injEq] at h
    subst h
    simp [bdL]
  rename_i hf
  simp only [Option.some.injEq] at h
  subst h
  exact fillE_bd ps hf (bdL_v _ _) hb
theorem bslE_sz {t : TypeId} {len : Nat} {ps : List (Nat × SV)} {k : Bx} (h : bslE P t len ps = some k) : k.sz = 0 := by
  unfold bslE at h
  repeat' (split at h)
  all_goals (try (cases h; done))
  all_goals
    simp only [Option.some.injEq] at h
    subst h
    rfl
theorem bslE_es {t : TypeId} {len : Nat} {ps : List (Nat × SV)} {k : Bx} (h : bslE P t len ps = some k) : k.es = [] := by
  unfold bslE at h
  repeat' (split at h)
  all_goals (try (cases h; done))
  all_goals
    simp only [Option.some.injEq] at h
    subst h
    rfl
theorem mkE_es {t : TypeId} {a b : Nat} {k : Bx} (h : mkE P t a b = some k) : k.es = [] := by
  unfold mkE at h
  repeat' (split at h)
  all_goals (try (cases h; done))
  all_goals
    simp only [Option.some.injEq] at h
    subst h
    rfl
theorem bslE_mp {t : TypeId} {len : Nat} {ps : List (Nat × SV)} {k : Bx} (h : bslE P t len ps = some k) : k.mp = false := by
  unfold bslE at h
  repeat' (split at h)
  all_goals (try (cases h; done))
  all_goals
    simp only [Option.some.injEq] at h
    subst h
    rfl
theorem mkE_mp {t : TypeId} {a b : Nat} {k : Bx} (h : mkE P t a b = some k) : k.mp = false := by
  unfold mkE at h
  repeat' (split at h)
  all_goals (try (cases h; done))
  all_goals
    simp only [Option.some.injEq] at h
    subst h
    rfl
theorem fldE_run (B : Pl) {t : TypeId} {cs : List SV} {f : Nat} {x : SV} (h : fldE P t cs f = some x) (w : World) : (Instr.field t (.agg (denL B cs).toArray) f).run P w = .ok (den B x) w := by
  unfold fldE at h
  cases hu : P.underlying t with
  | none => rw [hu] at h; cases h
  | some d =>
    rw [hu] at h
    cases d <;> simp only [reduceCtorEq] at h
    rename_i fields
    cases hf : fields[f]? with
    | none => rw [hf] at h; cases h
    | some fl =>
      rw [hf] at h
      simp only at h
      cases hd : P.underlying fl.type with
      | none => rw [hd] at h; cases h
      | some d =>
        cases hi : sizeE P fl.type with
        | none => rw [hd, hi] at h; cases h
        | some n =>
          rw [hd, hi] at h
          simp only at h
          have hagg : (isAgg fl.type).run P w = .ok d.isRow w := by
            unfold isAgg
            rw [Sem.run_bind, run_underlying hd w]
            cases d <;> rfl
          simp only [Instr.field, Sem.run_bind, run_underlying hu w, Result.andThen_ok, hf, asAgg, Sem.run_pure, part, hagg]
          cases hr : d.isRow with
          | true =>
            rw [hr] at h
            simp only [Option.some.injEq] at h
            subst h
            simp only [if_true, Sem.run_bind, size_run hi, Result.andThen_ok, Sem.run_pure, mkAgg_den]
            congr 2
            apply Array.ext'
            simp [denL_map, List.extract_eq_take_drop, List.map_take, List.map_drop]
          | false =>
            rw [hr] at h
            simp only at h
            have hl := (List.getElem?_eq_some_iff.1 h).1
            have e := (List.getElem?_eq_some_iff.1 h).2
            have he : (denL B cs).toArray[fl.offset]? = some (den B x) := by simp [denL_map, hl, e]
            simp only [Bool.false_eq_true, if_false, he, Sem.run_pure]
theorem elE_run (B : Pl) {t : TypeId} {cs : List SV} {n : Nat} {x : SV} (h : elE P t cs n = some x) (k : IntKind) (w : World) : (Instr.index t (.agg (denL B cs).toArray) (.int k (Int.ofNat n))).run P w = .ok (den B x) w := by
  unfold elE at h
  cases hu : P.underlying t with
  | none => rw [hu] at h; cases h
  | some d =>
    rw [hu] at h
    cases d <;> simp only [reduceCtorEq] at h
    rename_i len elem
    split at h
    · rename_i d size hb hd hi
      have hlt : n < len := by rw [Nat.blt, Nat.ble_eq] at hb; exact hb
      have hagg : (isAgg elem).run P w = .ok d.isRow w := by
        unfold isAgg
        rw [Sem.run_bind, run_underlying hd w]
        cases d <;> rfl
      have hc : (0 ≤ (Int.ofNat n) ∧ (Int.ofNat n) < (len : Int)) := ⟨Int.natCast_nonneg n, by simpa using hlt⟩
      have htn : (Int.ofNat n).toNat = n := rfl
      simp only [Instr.index, asIntOf, Sem.run_bind, Sem.run_pure, Result.andThen_ok, run_underlying hu w, if_pos hc, size_run hi, htn, part, hagg]
      cases hr : d.isRow with
      | true =>
        rw [hr] at h
        simp only [Option.some.injEq] at h
        subst h
        simp only [if_true, Sem.run_bind, size_run hi, Result.andThen_ok, Sem.run_pure, mkAgg_den]
        congr 2
        apply Array.ext'
        simp [denL_map, List.extract_eq_take_drop, List.map_take, List.map_drop]
      | false =>
        rw [hr] at h
        simp only at h
        have hl := (List.getElem?_eq_some_iff.1 h).1
        have e := (List.getElem?_eq_some_iff.1 h).2
        have he : (denL B cs).toArray[n * size]? = some (den B x) := by simp [denL_map, hl, e]
        simp only [Bool.false_eq_true, if_false, he, Sem.run_pure]
    · cases h
theorem elE_bd {q : Nat → Prop} {t : TypeId} {cs : List SV} {n : Nat} {x : SV} (h : elE P t cs n = some x) (hb : bdL q cs) : bd q x := by
  unfold elE at h
  repeat' (split at h)
  all_goals (try (cases h; done))
  · simp only [Option.some.injEq] at h
    subst h
    exact mkAgg_bd (bdL_iff.2 fun x hx => bdL_iff.1 hb x (List.mem_of_mem_drop (List.mem_of_mem_take hx)))
  · exact bdL_iff.1 hb x (List.mem_of_getElem? h)
theorem fldE_bd {n : Nat → Prop} {t : TypeId} {cs : List SV} {f : Nat} {x : SV} (h : fldE P t cs f = some x) (hb : bdL n cs) : bd n x := by
  unfold fldE at h
  repeat' (split at h)
  all_goals (try (cases h; done))
  · simp only [Option.some.injEq] at h
    subst h
    refine mkAgg_bd (bdL_iff.2 fun x hx => bdL_iff.1 hb x (List.mem_of_mem_drop (List.mem_of_mem_take hx)))
  · exact bdL_iff.1 hb x (List.mem_of_getElem? h)
theorem bndE_ok (hρ : RhoOk B S a ρ) (w : World) (x : Option Operand) (d top n : Nat) (hx : bndE (x.map ρ) d top = some n) : (x.map a.eval = none ∧ n = d) ∨ ∃ v, x.map a.eval = some v ∧ n ≤ top ∧ ∀ top' code, top ≤ top' → (Instr.sliceBound v top' code).run P w = .ok n w := by
  cases x with
  | none => simp only [Option.map_none, bndE, Option.some.injEq] at hx; exact Or.inl ⟨rfl, hx.symm⟩
  | some x =>
    simp only [Option.map_some, bndE] at hx
    cases hr : ρ x with
    | none => rw [hr] at hx; cases hx
    | some s =>
      rw [hr] at hx
      simp only at hx
      cases hn : natE s with
      | none => rw [hn] at hx; cases hx
      | some k =>
        rw [hn] at hx
        simp only at hx
        cases hb' : Nat.ble k top with
        | false => rw [hb'] at hx; cases hx
        | true =>
          rw [hb'] at hx
          simp only [Option.some.injEq] at hx
          subst hx
          obtain ⟨q, hq⟩ := natE_den hn B
          have he := (hρ x s hr).1
          have hle : k ≤ top := by simpa using hb'
          refine Or.inr ⟨.int q (Int.ofNat k), by simp only [Option.map_some, he, hq], hle, fun top' code ht => ?_⟩
          simp only [Instr.sliceBound, asIntOf, Sem.run_bind, Sem.run_pure, Result.andThen_ok]
          rw [if_pos (by simp; omega)]
          rfl
theorem bnds_ok (hρ : RhoOk B S a ρ) (w : World) {lo hi : Option Operand} {l c c' hv lv : Nat} (hcc : c ≤ c') (hh : bndE (hi.map ρ) l c = some hv) (hl : bndE (lo.map ρ) 0 hv = some lv) :
    (Instr.sliceBounds true l c' (lo.map a.eval) (hi.map a.eval) none).run P w = .ok (lv, hv, c') w := by
  unfold Instr.sliceBounds
  rcases bndE_ok (P := P) hρ w hi l c hv hh with ⟨e1, e1'⟩ | ⟨v1, e1, _, f1⟩
  · rcases bndE_ok (P := P) hρ w lo 0 hv lv hl with ⟨e2, e2'⟩ | ⟨v2, e2, _, f2⟩
    · rw [e1, e2, e1', e2']; rfl
    · rw [e1, e2]
      simp only [Sem.run_bind, Sem.run_pure, Result.andThen_ok]
      rw [← e1', f2 _ _ (Nat.le_refl _)]; rfl
  · rcases bndE_ok (P := P) hρ w lo 0 hv lv hl with ⟨e2, e2'⟩ | ⟨v2, e2, _, f2⟩
    · rw [e1, e2, e2']
      simp only [Sem.run_bind, Sem.run_pure, Result.andThen_ok, f1 _ _ hcc]
    · rw [e1, e2]
      simp only [Sem.run_bind, Sem.run_pure, Result.andThen_ok, f1 _ _ hcc, f2 _ _ (Nat.le_refl _)]
theorem beq_false_of {a b : Nat} (h : a ≠ b) : Nat.beq a b = false := by
  cases hq : Nat.beq a b with
  | false => rfl
  | true => exact absurd (Nat.eq_of_beq_eq_true hq) h
theorem slcE_ok (hρ : RhoOk B S a ρ) {t : TypeId} {x : SV} {lo hi mx : Option Operand} {z : SV} (hb : bd S x) (h : slcE P ρ t x lo hi mx = some z) :
    (Instr.sliceAt t (den B x) (lo.map a.eval) (hi.map a.eval) (mx.map a.eval)).run P w = .ok (den B z) w ∧ bd S z := by
  unfold slcE at h
  split at h
  · rename_i elem i off l c hu
    cases hh : bndE (hi.map ρ) l c with
    | none => rw [hh] at h; simp at h
    | some hv =>
      cases hs : sizeE P elem with
      | none => rw [hh, hs] at h; simp at h
      | some size =>
        rw [hh, hs] at h
        simp only at h
        cases hl : bndE (lo.map ρ) 0 hv with
        | none => rw [hl] at h; cases h
        | some lv =>
          rw [hl] at h
          simp only [Option.some.injEq] at h
          subst h
          have hbs := bnds_ok (P := P) hρ w (Nat.le_refl c) hh hl
          refine ⟨?_, by simpa [bd] using hb⟩
          simp only [den, Instr.sliceAt, Sem.run_bind, run_underlying hu w, Result.andThen_ok, Instr.slice, Option.map_none, Sem.run_pure, hbs, size_run hs]
          congr 2
          by_cases hc : c = lv
          · subst hc
            rw [if_pos rfl]
            simp [Nat.beq_refl]
          · rw [if_neg hc, beq_false_of hc]
            simp [addr_add]
  · rename_i elem i off l c hu
    cases hh : bndE (hi.map ρ) l c with
    | none => rw [hh] at h; simp at h
    | some hv =>
      cases hs : sizeE P elem with
      | none => rw [hh, hs] at h; simp at h
      | some size =>
        rw [hh, hs] at h
        simp only at h
        cases hl : bndE (lo.map ρ) 0 hv with
        | none => rw [hl] at h; cases h
        | some lv =>
          rw [hl] at h
          have hbs := bnds_ok (P := P) hρ w (c' := (B i).2 + c) (by omega) hh hl
          have hr : ∀ v, Value.slice (if (B i).2 + c = lv then some ⟨(B i).1, off, none⟩ else some ⟨(B i).1, off + lv * size, none⟩) (hv - lv) ((B i).2 + c - lv) = v → (Instr.sliceAt t (den B (.r i off l c)) (lo.map a.eval) (hi.map a.eval) none).run P w = .ok v w := by
            rintro v rfl
            simp only [den, Instr.sliceAt, Sem.run_bind, run_underlying hu w, Result.andThen_ok, Instr.slice, Option.map_none, Sem.run_pure, hbs, size_run hs]
            simp [addr_add]
          have hlh : lv ≤ hv := by
            rcases bndE_ok (P := P) hρ w lo 0 hv lv hl with ⟨_, e2'⟩ | ⟨_, _, f, _⟩ <;> omega
          cases hx : Nat.ble hv c with
          | false => rw [hx] at h; cases h
          | true =>
            rw [hx] at h
            simp only [Option.some.injEq] at h
            have hx' : hv ≤ c := by simpa using hx
            cases hc : Nat.beq c lv with
            | true =>
              rw [hc] at h
              simp only at h
              subst h
              have hc' : c = lv := Nat.eq_of_beq_eq_true hc
              have hhv : hv = lv := by omega
              refine ⟨hr _ ?_, by simpa [bd] using hb⟩
              simp only [den]
              congr 1
              · by_cases h0 : (B i).2 = 0
                · rw [if_pos (by omega), if_pos h0]
                · rw [if_neg (by omega), if_neg h0]
              · omega
              · omega
            | false =>
              rw [hc] at h
              simp only at h
              subst h
              have hc' : c ≠ lv := fun e => by rw [e, Nat.beq_refl] at hc; cases hc
              refine ⟨hr _ ?_, by simpa [bd] using hb⟩
              simp only [den]
              rw [if_neg (by omega)]
              congr 1
              omega
  · rename_i elem i off q hu
    cases hh : bndE (hi.map ρ) 0 0 with
    | none => rw [hh] at h; simp at h
    | some hv =>
      cases hs : sizeE P elem with
      | none => rw [hh, hs] at h; simp at h
      | some size =>
        rw [hh, hs] at h
        simp only at h
        cases hl : bndE (lo.map ρ) 0 hv with
        | none => rw [hl] at h; cases h
        | some lv =>
          rw [hl] at h
          simp only [Option.some.injEq] at h
          subst h
          have hbs := bnds_ok (P := P) hρ w (c' := (B i).2) (by omega) hh hl
          have h0 : hv = 0 := by
            rcases bndE_ok (P := P) hρ w hi 0 0 hv hh with ⟨_, e2'⟩ | ⟨_, _, f, _⟩ <;> omega
          subst h0
          have h1 : lv = 0 := by
            rcases bndE_ok (P := P) hρ w lo 0 0 lv hl with ⟨_, e2'⟩ | ⟨_, _, f, _⟩ <;> omega
          subst h1
          refine ⟨?_, hb⟩
          simp only [den, Instr.sliceAt, Sem.run_bind, run_underlying hu w, Result.andThen_ok, Instr.slice, Option.map_none, Sem.run_pure, hbs, size_run hs]
          simp [addr_add]
  · cases h
theorem mkE_run (B : Pl) {t : TypeId} {a b : Nat} {k : Bx} (h : mkE P t a b = some k) (kl kc : IntKind) (w : World) : (Instr.makeSlice t (.int kl (Int.ofNat a)) (.int kc (Int.ofNat b))).run P w = .ok (.slice (some ⟨w.heap.size, 0, none⟩) a b) (w.alloc (.cells (denL B k.cs).toArray k.ty (0, 0))) ∧ k.sz = 0 ∧ ∀ S : Nat → Prop, bdL S k.cs := by
  unfold mkE at h
  cases hu : P.underlying t with
  | none => rw [hu] at h; cases h
  | some d =>
    rw [hu] at h
    cases d <;> (try (cases h; done))
    rename_i e
    simp only at h
    cases hi : P.info? e with
    | none => rw [hi] at h; cases h
    | some i =>
      rw [hi] at h
      simp only at h
      cases hz : i.zero with
      | none => rw [hz] at h; cases h
      | some z =>
        rw [hz] at h
        simp only at h
        cases hc : (Nat.ble a b && Nat.ble b 100000 && Nat.ble i.bytes 100000) with
        | false => rw [hc] at h; cases h
        | true =>
          rw [hc] at h
          simp only [Option.some.injEq] at h
          subst h
          simp only [Bool.and_eq_true, Nat.ble_eq] at hc
          obtain ⟨⟨h1, h2⟩, h3⟩ := hc
          have hb : i.bytes * b ≤ 100000 * 100000 := Nat.mul_le_mul h3 h2
          have hr := run_make (P := P) w t e i z hu hi hz kl kc (Int.ofNat a) (Int.ofNat b) (by simp) (by simpa using h1) (by simp only [Int.ofNat_eq_natCast]; rw [← Int.natCast_mul]; omega) (by simp; omega)
          refine ⟨?_, rfl, fun S => bdL_v _ _⟩
          rw [hr, denL_v]
          have e : madeCells z.cells ((Int.ofNat b).toNat * i.size) = ((List.range (b * i.size)).map fun j => z.cells[j % z.cells.size]!).toArray := by
            apply Array.ext'
            simp [madeCells]
          rw [e]
          rfl
theorem isNil_run {t : TypeId} {u v : SV} (h : isNil P t u v = true) (B : Pl) (x y : Operand) (op : BinOp) (hop : op = .eql ∨ op = .neq) (w : World) :
    (do eqGuard op t x y (den B u) (den B v); binOp op t (den B u) (den B v) : Sem Value).run P w = .ok (.bool (op == .neq)) w := by
  unfold isNil at h
  cases hu : P.underlying t with
  | none => rw [hu] at h; cases h
  | some d =>
    rw [hu] at h
    obtain ⟨dd, hd⟩ : ∃ dd, Op.maxDepth = dd + 1 := ⟨9999, rfl⟩
    have key : ∀ X Y : Value, (eqGuard op t x y X Y).run P w = .ok () w → (Op.equalIn (dd + 1) t X Y).run P w = .ok false w → (binOp op t X Y = if op = .eql then (do pure (.bool (← Op.equal t X Y))) else do pure (.bool (!(← Op.equal t X Y)))) →
        (do eqGuard op t x y X Y; binOp op t X Y : Sem Value).run P w = .ok (.bool (op == .neq)) w := by
      intro X Y h1 h2 h3
      rw [Sem.run_bind, h1, Result.andThen_ok, h3]
      unfold Op.equal
      rw [hd]
      rcases hop with rfl | rfl
      · rw [if_pos rfl, Sem.run_bind, h2]; rfl
      · rw [if_neg (by simp), Sem.run_bind, h2]; rfl
    split at h <;> (try (cases h; done)) <;> rename_i he <;> cases he <;> refine key _ _ ?_ ?_ ?_
    all_goals first
      | (simp only [Op.equalIn, den, Sem.run_bind, run_underlying hu w, Result.andThen_ok]; rfl)
      | (rcases hop with rfl | rfl <;> simp only [den] <;> rfl)
end
end Go.Proofs.Ytnlcjlhcghgaoaa.EX
