/-
  Merged: Ec, Ed
-/
import Derived.Test.YtfhmdlihnidjoaaPe1
import Derived.Laws.MakeOwn
import Derived.Laws.StructEq
import Derived.Laws.BytesString
import Derived.Laws.IdiomStrings
namespace Go.Proofs.Ytfhmdlihnidjoaa.EX
set_option linter.unusedVariables false
set_option linter.unusedSimpArgs false
set_option linter.unusedSectionVars false
set_option maxRecDepth 100000
set_option maxHeartbeats 1000000
open Go Go.RowKit
variable [FC]
def Qca (P : Program) (ty : TypeId) : Option Nat := (P.info? ty).map (·.size)
def bldE (P : Program) (t : TypeId) (parts : List (Nat × SV)) : Option (List SV) :=
  match SX.pev P (zeroValue t), P.underlying t with
  | some z, some (.struct fields) => match SX.pev P (fields.mapM fun f => do pure (f.offset, ← sizeOf f.type)) with
    | some places => Qfp (places[·]?) (z.cells.toList.map .v) parts
    | none => none
  | some z, some (.array _ elem) => match Qca P elem with
    | some size => Qfp (fun i => some (i * size, size)) (z.cells.toList.map .v) parts
    | none => none
  | _, _ => none
def QjG (P : Program) (t : TypeId) (len : Nat) (parts : List (Nat × SV)) : Option Bx :=
  match P.underlying t with
  | some (.slice elem) => match Qca P elem, SX.pev P (zeroValue elem) with
    | some size, some z => match Nat.beq (len * size) 0 || Nat.blt (2 ^ 24) (len * size) with
      | true => match Nat.beq (len * size) 0, parts with
        | true, [] => some ⟨elem, [], 0, false, []⟩
        | _, _ => none
      | false => match Qfp (fun i => some (i * size, size)) (((Array.range (len * size)).map (z.cells[· % z.cells.size]!)).toList.map .v) parts with
        | some cells => some ⟨elem, cells, 0, false, []⟩
        | none => none
    | _, _ => none
  | _ => none
def fldE (P : Program) (t : TypeId) (cs : List SV) (f : Nat) : Option SV :=
  match P.underlying t with
  | some (.struct fields) => match fields[f]? with
    | some fl => match P.underlying fl.type, Qca P fl.type with
      | some d, some n => match d.isRow with
        | true => some (Qgk ((cs.drop fl.offset).take n))
        | false => cs[fl.offset]?
      | _, _ => none
    | none => none
  | _ => none
def idxE (P : Program) (t : TypeId) (len n : Nat) : Option Nat :=
  match P.underlying t with
  | some (.slice elem) => match Nat.blt n len, Qca P elem with
    | true, some size => some (n * size)
    | _, _ => none
  | _ => none
def aidxE (P : Program) (t : TypeId) (n : Nat) : Option Nat :=
  match P.underlying t with
  | some (.array len elem) => match Nat.blt n len, Qca P elem with
    | true, some size => some (n * size)
    | _, _ => none
  | _ => none
def isIfc : TypeDesc → Bool
  | .interface _ => true
  | _ => false
def mkIf (ty : TypeId) (v : SV) : SV :=
  match v with
  | .v z => .v (.iface ty z)
  | .y z => .y (.iface ty z)
  | v => .e ty v
theorem mkIf_den (B : Pl) (ty : TypeId) (v : SV) : den B (mkIf ty v) = .iface ty (den B v) := by unfold mkIf; split <;> simp [den]
theorem mkIf_bd {n : Nat → Prop} {ty : TypeId} {v : SV} (h : bd n v) : bd n (mkIf ty v) := by unfold mkIf; split <;> simp_all [bd]
def tasE (P : Program) (ty : TypeId) (x : SV) (asserted : TypeId) (ok : Bool) : Option SV :=
  match (P.underlying asserted).map isIfc, Nat.beq ty asserted with
  | some false, true => some (match ok with
    | true => .t [x, .v (.bool true)]
    | false => x)
  | _, _ => none
def QhF (P : Program) (ty : TypeId) (x y : SV) : Bool :=
  match P.underlying ty, x, y with
  | some (.pointer _), .p _ _, .v (.pointer none) => true
  | some (.slice _), .s _ _ _ _, .v (.slice none _ _) => true
  | some (.slice _), .r _ _ _ _, .v (.slice none _ _) => true
  | some (.slice _), .z _ _ _, .v (.slice none _ _) => true
  | some (.slice _), .q _ _ _ _, .v (.slice none _ _) => true
  | some (.pointer _), .a _ _, .v (.pointer none) => true
  | some (.func _ _ _), .f _ _ _, .v .nilFunc => true
  | some (.interface _), .e _ _, .v .nilIface => true
  | _, _, _ => false
def QdT : Option (Option SV) → Nat → Nat → Option Nat
  | none, d, _ => some d
  | some x, _, top => match x with
    | some s => match Qgi s with
      | some n => match Nat.ble n top with
        | true => some n
        | false => none
      | none => none
    | none => none
def Qj9 (P : Program) (ρ : Rho) (t : TypeId) (x : SV) (lo hi mx : Option Operand) : Option SV :=
  match P.underlying t, x, mx with
  | some (.slice elem), .s i o len cap, none => match QdT (hi.map ρ) len cap, Qca P elem with
    | some h, some size => match QdT (lo.map ρ) 0 h with
      | some l => some (.s i (match Nat.beq cap l with
        | true => o
        | false => o + l * size) (h - l) (cap - l))
      | none => none
    | _, _ => none
  | some (.slice elem), .r i o len x, none => match QdT (hi.map ρ) len x, Qca P elem with
    | some h, some size => match QdT (lo.map ρ) 0 h with
      | some l => match Nat.ble h x with
        | true => some (match Nat.beq x l with
          | true => .z i o (o + l * size)
          | false => .r i (o + l * size) (h - l) (x - l))
        | false => none
      | none => none
    | _, _ => none
  | some (.slice elem), .z i o q, none => match QdT (hi.map ρ) 0 0, Qca P elem with
    | some h, some size => match QdT (lo.map ρ) 0 h with
      | some l => some (.z i o q)
      | none => none
    | _, _ => none
  | _, _, _ => none
def Qgb (P : Program) (ρ : Rho) (o : Oper) : Option SV :=
  match o.op.operands.toList.all (isVE ρ) with
  | true => Qa4 P ρ o
  | false => none
def mkE (P : Program) (t : TypeId) (a b : Nat) : Option Bx :=
  match P.underlying t with
  | some (.slice e) => match P.info? e with
    | some i => match i.zero with
      | some z => match Nat.ble a b && Nat.ble b 100000 && Nat.ble i.bytes 100000 with
        | true => some ⟨e, ((List.range (b * i.size)).map fun j => z.cells[j % z.cells.size]!).map .v, 0, false, []⟩
        | false => none
      | none => none
    | none => none
  | _ => none
def elE (P : Program) (t : TypeId) (cs : List SV) (n : Nat) : Option SV :=
  match P.underlying t with
  | some (.array len elem) => match Nat.blt n len, P.underlying elem, Qca P elem with
    | true, some d, some size => match d.isRow with
      | true => some (Qgk ((cs.drop (n * size)).take size))
      | false => cs[n * size]?
    | _, _, _ => none
  | _ => none
def elX (P : Program) (t : TypeId) (cs : List SV) (ix : Option SV) : Option SV := match ix with
  | some iv => match Qgi iv with
    | some n => elE P t cs n
    | none => none
  | none => none
def eqT : TypeDesc → Value → Value → Option Bool
  | .int _, .int k a, .int k' b => match decide (k = k') with
    | true => some (a == b)
    | false => none
  | .bool, .bool a, .bool b => some (a == b)
  | .string, .string a, .string b => some (a.toList == b.toList)
  | _, _, _ => none
def eqFs (P : Program) (xs ys : Array Value) : List Field → Option Bool
  | [] => some true
  | f :: l => match P.underlying f.type, xs[f.offset]?, ys[f.offset]? with
    | some d, some a, some b => match eqT d a b, eqFs P xs ys l, decide (f.name = "_") with
      | some x, some y, false => some (x && y)
      | _, _, _ => none
    | _, _, _ => none
def eqS (P : Program) (ty : TypeId) (u v : Value) : Option Bool := match P.underlying ty, u, v with
  | some (.struct fields), .agg xs, .agg ys => match P.stoodInHeld ty, P.eqGuardType P.depth ty with
    | false, false => eqFs P xs ys fields.toList
    | _, _ => none
  | _, _, _ => none
def eqE (P : Program) (ρ : Rho) (o : Oper) (ty : TypeId) (y z : Operand) (ne : Bool) : Option SV :=
  match isVE ρ y && isVE ρ z with
  | true => Qa4 P ρ o
  | false => match isYE ρ y && isYE ρ z with
    | true => match eqS P ty (QjE ρ y) (QjE ρ z) with
      | some c => some (.y (.bool (match ne with
        | true => !c
        | false => c)))
      | none => Qa4 P ρ o
    | false => Qa4 P ρ o
def QeR (kd : IntKind) (n : Int) : List SV → Option (Option SV)
  | [] => some none
  | k :: v :: l => match k with
    | .v (.int kd' n') => match decide (kd = kd'), decide (n = n') with
      | true, true => some (some v)
      | true, false => QeR kd n l
      | _, _ => none
    | _ => none
  | [_] => none
def QfS : TypeDesc → Bool
  | .int _ => true
  | _ => false
def mkmE (m : Mm) (t : TypeId) (b : Bool) : Option (SV × Mm) := match b with
  | true => some (.m m.nx, m.new ⟨t, [], 0, true, []⟩)
  | false => none
def insE (P : Program) (m : Mm) (t : TypeId) (x k v : Option SV) : Option (SV × Mm) := match P.underlying t, x, k, v with
  | some (.map kt et), some (.m i), some (.v (.int kd n)), some v => match (P.underlying kt).map QfS, m.K.get i, Qay i with
    | some true, some b, true => match b.mp, QeR kd n b.es with
      | true, some none => some (.v undef, m.upd i ⟨b.ty, [], 0, true, b.es ++ [.v (.int kd n), v]⟩)
      | _, _ => none
    | _, _, _ => none
  | _, _, _, _ => none
def lkV (ok : Bool) (r : Option SV) (z : Value) : SV := match ok with
  | true => .t [r.getD (.v z), .v (.bool r.isSome)]
  | false => r.getD (.v z)
def lkE (P : Program) (m : Mm) (t : TypeId) (x ix : Option SV) (ok : Bool) : Option (SV × Mm) := match P.underlying t, x, ix with
  | some (.map kt et), some (.m i), some (.v (.int kd n)) => match (P.underlying kt).map QfS, m.K.get i, SX.pev P (zeroValue et) with
    | some true, some b, some z => match b.mp, QeR kd n b.es with
      | true, some r => some (lkV ok r z, m)
      | _, _ => none
    | _, _, _ => none
  | _, _, _ => none
def opE0 (P : Program) (ρ : Rho) (m : Mm) (o : Oper) : Option (SV × Mm) :=
  match o.op with
  | .move x => match ρ x with
    | some v => some (v, m)
    | none => none
  | .assign x => match ρ x with
    | some v => some (v, m)
    | none => none
  | .load ty x => match ρ x with
    | some (.p i off) => match m.K.get i with
      | some k => match ldE P ty k.cs off with
        | some v => some (v, m)
        | none => none
      | none => none
    | _ => none
  | .store ty x y => match ρ x, ρ y with
    | some (.p i off), some v => match m.K.get i, Qay i with
      | some k, true => match stE P ty k.cs off v with
        | some cs => some (.v undef, m.upd i ⟨k.ty, cs, k.sz, k.mp, k.es⟩)
        | none => none
      | _, _ => none
    | _, _ => none
  | .alloc ty => match SX.zeroS P ty, Qay m.nx with
    | some cs, true => some (.p m.nx 0, m.new ⟨ty, cs.map .v, 0, false, []⟩)
    | _, _ => none
  | .box ty x => match ρ x, Qay m.nx with
    | some v, true => some (.p m.nx 0, m.new ⟨ty, Qbo v, 0, false, []⟩)
    | _, _ => none
  | .build t parts => match Qgb P ρ o with
    | some x => some (x, m)
    | none => match Qdb ρ (parts.toList.map (·.2)) with
      | some vs => match bldE P t ((parts.toList.map (·.1)).zip vs) with
        | some cs => some (Qgk cs, m)
        | none => none
      | none => none
  | .buildSlice t len parts => match Qdb ρ (parts.toList.map (·.2)), Qay m.nx with
    | some vs, true => match QjG P t len ((parts.toList.map (·.1)).zip vs) with
      | some k => some (.s m.nx 0 len len, m.new k)
      | none => none
    | _, _ => none
  | .fieldAddr t x f => match ρ x with
    | some (.p i off) => match SX.fieldS P t f with
      | some q => some (.p i (off + q), m)
      | none => none
    | _ => none
  | .indexAddr t x ix => match ρ x, ρ ix with
    | some (.s i off l _), some iv => match Qgi iv with
      | some n => match idxE P t l n with
        | some q => some (.p i (off + q), m)
        | none => none
      | none => none
    | some (.r i off l _), some iv => match Qgi iv with
      | some n => match idxE P t l n with
        | some q => some (.p i (off + q), m)
        | none => none
      | none => none
    | some (.p i off), some iv => match Qgi iv with
      | some n => match aidxE P t n with
        | some q => some (.p i (off + q), m)
        | none => none
      | none => none
    | _, _ => none
  | .makeFunc (.func fn) first caps => match Qdb ρ first.toList, Qdb ρ caps.toList with
    | some a, some b => some (.f fn a b, m)
    | _, _ => none
  | .field t x f => match ρ x with
    | some (.g cs) => match fldE P t cs f with
      | some v => some (v, m)
      | none => none
    | _ => match Qa4 P ρ o with
      | some x => some (x, m)
      | none => none
  | .index t x ix => match ρ x with
    | some (.g cs) => match elX P t cs (ρ ix) with
      | some v => some (v, m)
      | none => none
    | _ => match Qa4 P ρ o with
      | some x => some (x, m)
      | none => none
  | .makeInterface ty x => match ρ x, (P.underlying ty).map isIfc with
    | some v, some false => some (mkIf ty v, m)
    | _, _ => none
  | .typeAssert x xt t ok => match ρ x with
    | some (.e ty v) => match tasE P ty v t ok with
      | some z => some (z, m)
      | none => none
    | _ => match Qa4 P ρ o with
      | some x => some (x, m)
      | none => none
  | .extract x ix => match ρ x with
    | some (.t cs) => match cs[ix]? with
      | some z => some (z, m)
      | none => none
    | _ => match Qa4 P ρ o with
      | some x => some (x, m)
      | none => none
  | .pick c x y => match ρ c with
    | some (.v (.bool true)) => match ρ x with
      | some z => some (z, m)
      | none => none
    | some (.v (.bool false)) => match ρ y with
      | some z => some (z, m)
      | none => none
    | _ => none
  | .nilCheck x => match ρ x with
    | some (.p i off) => some (.p i off, m)
    | some (.s i off l c) => some (.s i off l c, m)
    | some (.r i off l c) => some (.r i off l c, m)
    | some (.f g a b) => some (.f g a b, m)
    | some (.e t v) => some (.e t v, m)
    | _ => match Qa4 P ρ o with
      | some x => some (x, m)
      | none => none
  | .slice t x lo hi mx => match ρ x with
    | some (.s i off l c) => match Qj9 P ρ t (.s i off l c) lo hi mx with
      | some z => some (z, m)
      | none => none
    | some (.r i off l c) => match Qj9 P ρ t (.r i off l c) lo hi mx with
      | some z => some (z, m)
      | none => none
    | some (.z i off q) => match Qj9 P ρ t (.z i off q) lo hi mx with
      | some z => some (z, m)
      | none => none
    | _ => match Qa4 P ρ o with
      | some x => some (x, m)
      | none => none
  | .binOp .eql ty x y _ => match ρ x, ρ y with
    | some u, some v => match QhF P ty u v with
      | true => some (.v (.bool false), m)
      | false => match eqE P ρ o ty x y false with
        | some x => some (x, m)
        | none => none
    | _, _ => none
  | .binOp .neq ty x y _ => match ρ x, ρ y with
    | some u, some v => match QhF P ty u v with
      | true => some (.v (.bool true), m)
      | false => match eqE P ρ o ty x y true with
        | some x => some (x, m)
        | none => none
    | _, _ => none
  | .makeSlice t l c => match ρ l, ρ c, Qay m.nx with
    | some lv, some cv, true => match Qgi lv, Qgi cv with
      | some a, some b => match mkE P t a b with
        | some k => some (.s m.nx 0 a b, m.new k)
        | none => none
      | _, _ => none
    | _, _, _ => none
  | .makeMap t none => mkmE m t (Qay m.nx)
  | .insert t x k v => insE P m t (ρ x) (ρ k) (ρ v)
  | .lookup t x ix ok => lkE P m t (ρ x) (ρ ix) ok
  | .call ⟨.builtin .len, ⟨[x]⟩, ⟨[t]⟩⟩ => match ρ x, P.underlying t with
    | some (.s _ _ l _), some (.slice _) => some (.v (goInt l), m)
    | some (.r _ _ l _), some (.slice _) => some (.v (goInt l), m)
    | some (.z _ _ _), some (.slice _) => some (.v (goInt (0 : Nat)), m)
    | _, _ => match Qa4 P ρ o with
      | some x => some (x, m)
      | none => none
  | _ => match Qa4 P ρ o with
    | some x => some (x, m)
    | none => none
def Qeh (P : Program) (w0 : World) (F : List RF) (B : Pl) (S : Nat → Prop) (nx : Nat) (o : Oper) (a : Act) (w : World) (x : SV) (m' : Mm) : Prop :=
  ∃ r w' B', (execOp a.eval o).run P w = .ok r w' ∧ (r = .value (den B' x) ∨ (r = .skip ∧ x = .v undef)) ∧ Ag nx m'.nx B B' ∧ nx ≤ m'.nx ∧ Re w0 F B' m'.K.get (ext S nx m'.nx) w' ∧ bd (ext S nx m'.nx) x
section
variable {P : Program} {w0 : World} {F : List RF} {B : Pl} {S : Nat → Prop} {m m' : Mm} {a : Act} {w : World} {ρ : Rho} {o : Oper} {x : SV}
def Qbu (B : Pl) (nx : Nat → Prop) (a : Act) (ρ : Rho) : Prop := ∀ y v, ρ y = some v → a.eval y = den B v ∧ bd nx v
theorem Qar (R : Re w0 F B m.K.get S w) (hb : bd S x) (h : (execOp a.eval o).run P w = .ok (.value (den B x)) w) : Qeh P w0 F B S m.nx o a w x m :=
  ⟨_, w, B, h, Or.inl rfl, Ag.refl _ _ _, Nat.le_refl _, by rw [Qai]; exact R, by rw [Qai]; exact hb⟩
theorem Qd1 (R : Re w0 F B m.K.get S w) (hρ : Qbu B S a ρ) (h : Qa4 P ρ o = some x) : Qeh P w0 F B S m.nx o a w x m := by
  unfold Qa4 at h
  cases hs : SX.notSel o.op with
  | false => rw [hs] at h; cases h
  | true =>
    rw [hs] at h
    simp only at h
    have hne : ∀ cs b, o.op ≠ .select cs b := fun cs b e => by rw [e] at hs; cases hs
    cases ha : o.op.operands.toList.all (isVE ρ) with
    | true =>
      rw [ha] at h
      simp only at h
      have he : execOp a.eval o = execOp (QjE ρ) o := SX.execOp_congr o (fun z hz => by
        have hv := (List.all_eq_true.1 ha) z hz
        unfold isVE at hv
        unfold QjE
        cases hr : ρ z with
        | none => rw [hr] at hv; cases hv
        | some q =>
          rw [hr] at hv
          cases q with
          | v q => have := (hρ z _ hr).1; simpa [den] using this
          | _ => cases hv) hne
      cases hp : SX.pev P (execOp (QjE ρ) o) with
      | none => rw [hp] at h; cases h
      | some nx =>
        rw [hp] at h
        cases nx <;> simp only [reduceCtorEq, Option.some.injEq] at h
        subst h
        exact Qar R (by simp [bd]) (by rw [he, SX.pev_run _ hp w]; simp [den])
    | false =>
      rw [ha] at h
      simp only at h
      cases hy : o.op.operands.toList.all (isYE ρ) with
      | false => rw [hy] at h; cases h
      | true =>
        rw [hy] at h
        simp only at h
        have he : execOp a.eval o = execOp (QjE ρ) o := SX.execOp_congr o (fun z hz => by
          have hv := (List.all_eq_true.1 hy) z hz
          unfold isYE at hv
          unfold QjE
          cases hr : ρ z with
          | none => rw [hr] at hv; cases hv
          | some q =>
            rw [hr] at hv
            cases q with
            | v q => have := (hρ z _ hr).1; simpa [den] using this
            | y q => have := (hρ z _ hr).1; simpa [den] using this
            | g l =>
              have := (hρ z _ hr).1
              obtain ⟨r, hr'⟩ := Option.isSome_iff_exists.1 hv
              simp only [hr']
              rw [this, den, QdY B hr']
            | _ => cases hv) hne
        cases hp : SX.pev P (execOp (QjE ρ) o) with
        | none => rw [hp] at h; cases h
        | some nx =>
          rw [hp] at h
          cases nx <;> simp only [reduceCtorEq, Option.some.injEq] at h
          subst h
          exact Qar R (by simp [bd]) (by rw [he, SX.pev_run _ hp w]; simp [den])
theorem Qlk (hρ : Qbu B S a ρ) {z : Operand} (hv : isYE ρ z = true) : a.eval z = QjE ρ z := by
  unfold isYE at hv
  unfold QjE
  cases hr : ρ z with
  | none => rw [hr] at hv; cases hv
  | some q =>
    rw [hr] at hv
    cases q with
    | v q => have := (hρ z _ hr).1; simpa [den] using this
    | y q => have := (hρ z _ hr).1; simpa [den] using this
    | g l =>
      have := (hρ z _ hr).1
      obtain ⟨r, hr'⟩ := Option.isSome_iff_exists.1 hv
      simp only [hr']
      rw [this, den, QdY B hr']
    | _ => cases hv
theorem eqT_run {t : TypeId} {d : TypeDesc} {u v : Value} {c : Bool} (hu : P.underlying t = some d) (h : eqT d u v = some c) (n off : Nat) {xs ys : Array Value} (hx : xs[off]? = some u) (hy : ys[off]? = some v) (w : World) :
    (part t xs off).run P w = .ok u w ∧ (part t ys off).run P w = .ok v w ∧ (Op.equalIn (n + 1) t u v).run P w = .ok c w := by
  unfold eqT at h
  split at h
  · rename_i q k a k' b
    split at h
    · rename_i hk
      simp only [decide_eq_true_eq] at hk
      simp only [Option.some.injEq] at h
      subst hk; subst h
      exact ⟨by simp [part, isAgg, run_underlying hu, hx], by simp [part, isAgg, run_underlying hu, hy], run_equalIn_int w n t k q a b hu⟩
    · cases h
  · rename_i a b
    simp only [Option.some.injEq] at h
    subst h
    exact ⟨by simp [part, isAgg, run_underlying hu, hx], by simp [part, isAgg, run_underlying hu, hy], run_equalIn_bool' w n t a b hu⟩
  · rename_i a b
    simp only [Option.some.injEq] at h
    subst h
    exact ⟨by simp [part, isAgg, run_underlying hu, hx], by simp [part, isAgg, run_underlying hu, hy], run_equalIn_string w n t a b hu⟩
  · cases h
theorem QiK {xs ys : Array Value} (n : Nat) (w : World) : ∀ (l : List Field) {c : Bool}, eqFs P xs ys l = some c → (Op.eqFields (n + 1) xs ys l).run P w = .ok c w
  | [], c, h => by
    simp only [eqFs, Option.some.injEq] at h
    subst h
    simp [Op.eqFields]
  | f :: l, c, h => by
    simp only [eqFs] at h
    split at h
    · rename_i d u v hd hx hy
      split at h
      · rename_i x y he hl hn
        simp only [Option.some.injEq] at h
        subst h
        obtain ⟨h1, h2, h3⟩ := eqT_run hd he n f.offset hx hy w
        have h4 := QiK n w l hl
        have hn' : f.name ≠ "_" := by simpa using hn
        simp only [Op.eqFields, hn', ne_eq, not_false_eq_true, if_true, Sem.run_bind, h1, h2, h3, Result.andThen_ok]
        cases x with
        | false => simp
        | true => simpa using h4
      · cases h
    · cases h
theorem eqS_run {ty : TypeId} {u v : Value} {c : Bool} (h : eqS P ty u v = some c) (w : World) (y z : Operand) : (do eqGuard .eql ty y z u v; binOp .eql ty u v).run P w = .ok (.bool c) w ∧ (do eqGuard .neq ty y z u v; binOp .neq ty u v).run P w = .ok (.bool (!c)) w := by
  unfold eqS at h
  split at h
  · rename_i fields xs ys hu
    split at h
    · rename_i hs hg
      have hf : P.fieldsOf ty = fields := by unfold Program.fieldsOf; rw [hu]
      have hr := run_equalIn_struct w 9999 ty xs ys (by rw [hf]; exact hu) hs
      rw [hf, QiK 9998 w fields.toList h] at hr
      refine ⟨?_, ?_⟩
      · rw [Sem.run_bind, run_eqGuard_agg w .eql ty y z xs ys hg]
        simp only [Result.andThen_ok]
        rw [run_eql_struct w ty xs ys, hr]
        rfl
      · rw [Sem.run_bind, run_eqGuard_agg w .neq ty y z xs ys hg]
        simp only [Result.andThen_ok]
        rw [run_neq_struct w ty xs ys, hr]
        rfl
    · cases h
  · cases h
theorem eqE_ok (R : Re w0 F B m.K.get S w) (hρ : Qbu B S a ρ) {ty yt : TypeId} {y z : Operand} {ne : Bool} {v : SV} (ho : o.op = .binOp (match ne with
    | true => .neq
    | false => .eql) ty y z yt) (h : eqE P ρ o ty y z ne = some v) : Qeh P w0 F B S m.nx o a w v m := by
  unfold eqE at h
  split at h
  · exact Qd1 R hρ h
  · split at h
    · rename_i hy
      simp only [Bool.and_eq_true] at hy
      split at h
      · rename_i c hc
        simp only [Option.some.injEq] at h
        subst h
        rw [← Qlk hρ hy.1, ← Qlk hρ hy.2] at hc
        obtain ⟨h1, h2⟩ := eqS_run hc w y z
        refine Qar R (by simp [bd]) ?_
        cases ne with
        | false =>
          unfold execOp
          simp only [ho]
          rw [Sem.run_bind, h1]
          rfl
        | true =>
          unfold execOp
          simp only [ho]
          rw [Sem.run_bind, h2]
          rfl
      · exact Qd1 R hρ h
    · exact Qd1 R hρ h
theorem QkB (R : Re w0 F B m.K.get S w) (hρ : Qbu B S a ρ) (h : (match Qa4 P ρ o with
      | some x => some (x, m)
      | none => none) = some (x, m')) : Qeh P w0 F B S m.nx o a w x m' := by
  cases hp : Qa4 P ρ o with
  | none => rw [hp] at h; cases h
  | some y =>
    rw [hp] at h
    simp only [Option.some.injEq, Prod.mk.injEq] at h
    obtain ⟨rfl, rfl⟩ := h
    exact Qd1 R hρ hp
theorem QcW {n : Nat → Prop} (hρ : Qbu B n a ρ) : ∀ (l : List Operand) {c : List SV}, Qdb ρ l = some c → l.map a.eval = Qaj B c ∧ bdL n c
  | [], c, h => by simp [Qdb] at h; subst h; simp [Qaj, bdL]
  | x :: l, c, h => by
    simp only [Qdb] at h
    cases hx : ρ x with
    | none => rw [hx] at h; cases h
    | some y =>
      rw [hx] at h
      cases hl : Qdb ρ l with
      | none => rw [hl] at h; cases h
      | some c' =>
        rw [hl] at h
        simp only [Option.some.injEq] at h; subst h
        obtain ⟨h1, h2⟩ := QcW hρ l hl
        obtain ⟨h3, h4⟩ := hρ x y hx
        exact ⟨by simp [h1, h3, Qaj], by simp [bdL, h2, h4]⟩
theorem QcC {s : SV} {n : Nat} (h : Qgi s = some n) (B : Pl) : ∃ k, den B s = .int k (Int.ofNat n) := by
  unfold Qgi at h
  split at h
  · rename_i k n
    simp only [Option.some.injEq] at h; subst h; exact ⟨k, by simp [den]⟩
  · cases h
theorem QaT {ty : TypeId} {n : Nat} (h : Qca P ty = some n) (w : World) : (sizeOf ty).run P w = .ok n w := SX.run_info h w
theorem Qiq {k : Bx} {v : SV} (R : Re w0 F B m.K.get S w) (ht : Qay m.nx = true) (hk : bdL S k.cs) (hv : bd (ext S m.nx (m.nx + 1)) v) (hz : k.sz = 0) (hS : ∀ j, S j → j < m.nx) (hd : ∀ B' : Pl, (B' m.nx).1 = w.heap.size → (∀ i, S i → B' i = B i) →
    (execOp a.eval o).run P w = .ok (.value (den B' v)) (w.alloc (.cells (Qaj B k.cs).toArray k.ty (0, 0)))) (hm : k.mp = false := by rfl) (he : k.es = [] := by rfl) : Qeh P w0 F B S m.nx o a w v (m.new k) := by
  obtain ⟨h1, h2⟩ := R.new k [] 0 ⟨hk, fun e => by rw [hm] at e; cases e⟩ (by simp [Qe5, hz]) hS
  rw [QdO hm he, List.append_nil] at h1
  refine ⟨_, _, _, hd (QbD B m.nx (w.heap.size, 0)) (by simp [QbD]) (h2.on hS), Or.inl rfl, h2, by simp [Mm.new], ?_, hv⟩
  unfold Mm.new
  simp only [Tr.get_set ht]
  exact h1
theorem Qhj {β γ : Type} (f : β → γ) : ∀ (parts : List (Nat × Operand)) (g : Operand → γ) (c : List β), (parts.map (·.2)).map g = c.map f → ((parts.map (·.1)).zip c).map (fun q => (q.1, f q.2)) = parts.map fun q => (q.1, g q.2)
  | [], _, [], _ => rfl
  | [], _, _ :: _, h => by simp at h
  | q :: r, g, [], h => by simp at h
  | q :: r, g, y :: c, h => by
    simp only [List.map_cons, List.cons.injEq] at h
    simp [h.1, Qhj f r g c h.2]
theorem QbC (b o k : Nat) : (⟨b, o, none⟩ : Addr).add k = ⟨b, o + k, none⟩ := by unfold Addr.add; split <;> simp_all
theorem QjK {n : Nat → Prop} : ∀ (l : List Nat) (c : List SV), bdL n c → ∀ q ∈ l.zip c, bd n q.2
  | [], _, _, q, hq => by simp at hq
  | i :: l, [], _, q, hq => by simp at hq
  | i :: l, y :: c, h, q, hq => by
    simp only [bdL] at h
    simp only [List.zip_cons_cons, List.mem_cons] at hq
    rcases hq with rfl | hq
    · exact h.1
    · exact QjK l c h.2 q hq
theorem bldE_run (B : Pl) {t : TypeId} {ps : List (Nat × SV)} {r : List SV} (h : bldE P t ps = some r) (w : World) : (Instr.build t (ps.map fun q => (q.1, den B q.2)).toArray).run P w = .ok (.agg (Qaj B r).toArray) w := by
  unfold bldE at h
  cases hz : SX.pev P (zeroValue t) with
  | none => rw [hz] at h; cases h
  | some z =>
    cases hu : P.underlying t with
    | none => rw [hz, hu] at h; cases h
    | some d =>
      rw [hz, hu] at h
      have hz' := SX.pev_run _ hz w
      have hu' := run_underlying hu w
      have hzc : z.cells = (Qaj B (z.cells.toList.map .v)).toArray := by rw [Qfr]
      cases d <;> simp only [reduceCtorEq] at h
      case struct fields =>
        cases hp : SX.pev P (fields.mapM fun f => do pure (f.offset, ← sizeOf f.type)) with
        | none => rw [hp] at h; cases h
        | some places =>
          rw [hp] at h
          simp only at h
          have hp' := SX.pev_run _ hp w
          have hf := Qec B ps h
          rw [← hzc] at hf
          unfold Instr.build
          simp only [Sem.run_bind, hz', Result.andThen_ok, hu', hp', hf, Sem.run_pure]
      case array len elem =>
        cases hp : Qca P elem with
        | none => rw [hp] at h; cases h
        | some size =>
          rw [hp] at h
          simp only at h
          have hf := Qec B ps h
          rw [← hzc] at hf
          unfold Instr.build
          simp only [Sem.run_bind, hz', Result.andThen_ok, hu', QaT hp, hf, Sem.run_pure]
theorem bldE_bd {n : Nat → Prop} {t : TypeId} {ps : List (Nat × SV)} {r : List SV} (h : bldE P t ps = some r) (hb : ∀ q ∈ ps, bd n q.2) : bdL n r := by
  unfold bldE at h
  split at h
  · split at h
    · exact QeT ps h (Qhb _ _) hb
    · cases h
  · split at h
    · exact QeT ps h (Qhb _ _) hb
    · cases h
  · cases h
theorem bslE_run (B : Pl) {t : TypeId} {len : Nat} {ps : List (Nat × SV)} {k : Bx} (h : QjG P t len ps = some k) (w : World) : (Instr.buildSlice t len (ps.map fun q => (q.1, den B q.2)).toArray).run P w = .ok (.slice (some ⟨w.heap.size, 0, none⟩) len len) (w.alloc (.cells (Qaj B k.cs).toArray k.ty (0, 0))) := by
  unfold QjG at h
  cases hu : P.underlying t with
  | none => rw [hu] at h; cases h
  | some d =>
    rw [hu] at h
    cases d <;> simp only [reduceCtorEq] at h
    rename_i elem
    cases hi : Qca P elem with
    | none => rw [hi] at h; simp at h
    | some size =>
      cases hz : SX.pev P (zeroValue elem) with
      | none => rw [hi, hz] at h; simp at h
      | some z =>
        rw [hi, hz] at h
        simp only at h
        cases hc : (Nat.beq (len * size) 0 || Nat.blt (2 ^ 24) (len * size)) with
        | true =>
          rw [hc] at h
          simp only at h
          split at h
          · rename_i hb
            have h1 := Nat.eq_of_beq_eq_true hb
            have h2 : ¬ len * size > 2 ^ 24 := by omega
            simp only [Option.some.injEq] at h
            subst h
            have hf' : Instr.fill (fun i => some (i * size, size)) ((Array.range (len * size)).map ((#[] : Array Value)[· % (#[] : Array Value).size]!)) (([] : List (Nat × SV)).map fun q => (q.1, den B q.2)) = some #[] := by
              rw [h1]
              simp [Instr.fill]
            simp only [Instr.buildSlice, Sem.run_bind, run_underlying hu w, Result.andThen_ok, QaT hi, if_neg h2, if_pos h1, Sem.run_pure, hf', newRow, newObj]
            rfl
          · cases h
        | false =>
          rw [hc] at h
          simp only at h
          simp only [Bool.or_eq_false_iff] at hc
          have h1 : ¬ len * size = 0 := fun e => by have := hc.1; rw [e] at this; cases this
          have h2 : ¬ len * size > 2 ^ 24 := fun e => by
            have := hc.2
            rw [show Nat.blt (2 ^ 24) (len * size) = true from by rw [Nat.blt, Nat.ble_eq]; exact e] at this; cases this
          cases hf : Qfp (fun i => some (i * size, size)) (((Array.range (len * size)).map (z.cells[· % z.cells.size]!)).toList.map .v) ps with
          | none => rw [hf] at h; cases h
          | some cells =>
            rw [hf] at h
            simp only [Option.some.injEq] at h
            subst h
            have hf' := Qec B ps hf
            rw [Qfr] at hf'
            have e : ((Array.range (len * size)).map (z.cells[· % z.cells.size]!)).toList.toArray = (Array.range (len * size)).map (z.cells[· % z.cells.size]!) := Array.toArray_toList
            rw [e] at hf'
            simp only [Instr.buildSlice, Sem.run_bind, run_underlying hu w, Result.andThen_ok, QaT hi, if_neg h2, if_neg h1, Sem.run_pure, SX.pev_run _ hz, hf', newRow, newObj]
            rfl
theorem bslE_bd {n : Nat → Prop} {t : TypeId} {len : Nat} {ps : List (Nat × SV)} {k : Bx} (h : QjG P t len ps = some k) (hb : ∀ q ∈ ps, bd n q.2) : bdL n k.cs := by
  unfold QjG at h
  repeat' (split at h)
  all_goals (try (cases h; done))
  · simp only [Option.some.injEq] at h
    subst h
    simp [bdL]
  rename_i hf
  simp only [Option.some.injEq] at h
  subst h
  exact QeT ps hf (Qhb _ _) hb
section
variable {t : TypeId} {len : Nat} {ps : List (Nat × SV)} {k : Bx} (h : QjG P t len ps = some k)
include t len ps k h
theorem bslE_sz : k.sz = 0 := by
  unfold QjG at h
  repeat' (split at h)
  all_goals (try (cases h; done))
  all_goals
    simp only [Option.some.injEq] at h
    subst h
    rfl
theorem bslE_es : k.es = [] := by
  unfold QjG at h
  repeat' (split at h)
  all_goals (try (cases h; done))
  all_goals
    simp only [Option.some.injEq] at h
    subst h
    rfl
end
theorem mkE_es {t : TypeId} {a b : Nat} {k : Bx} (h : mkE P t a b = some k) : k.es = [] := by
  unfold mkE at h
  repeat' (split at h)
  all_goals (try (cases h; done))
  all_goals
    simp only [Option.some.injEq] at h
    subst h
    rfl
theorem bslE_mp {t : TypeId} {len : Nat} {ps : List (Nat × SV)} {k : Bx} (h : QjG P t len ps = some k) : k.mp = false := by
  unfold QjG at h
  repeat' (split at h)
  all_goals (try (cases h; done))
  all_goals
    simp only [Option.some.injEq] at h
    subst h
    rfl
theorem mkE_mp {t : TypeId} {a b : Nat} {k : Bx} (h : mkE P t a b = some k) : k.mp = false := by
  unfold mkE at h
  repeat' (split at h)
  all_goals (try (cases h; done))
  all_goals
    simp only [Option.some.injEq] at h
    subst h
    rfl
theorem fldE_run (B : Pl) {t : TypeId} {cs : List SV} {f : Nat} {x : SV} (h : fldE P t cs f = some x) (w : World) : (Instr.field t (.agg (Qaj B cs).toArray) f).run P w = .ok (den B x) w := by
  unfold fldE at h
  cases hu : P.underlying t with
  | none => rw [hu] at h; cases h
  | some d =>
    rw [hu] at h
    cases d <;> simp only [reduceCtorEq] at h
    rename_i fields
    cases hf : fields[f]? with
    | none => rw [hf] at h; cases h
    | some fl =>
      rw [hf] at h
      simp only at h
      cases hd : P.underlying fl.type with
      | none => rw [hd] at h; cases h
      | some d =>
        cases hi : Qca P fl.type with
        | none => rw [hd, hi] at h; cases h
        | some n =>
          rw [hd, hi] at h
          simp only at h
          have hagg : (isAgg fl.type).run P w = .ok d.isRow w := by
            unfold isAgg
            rw [Sem.run_bind, run_underlying hd w]
            cases d <;> rfl
          simp only [Instr.field, Sem.run_bind, run_underlying hu w, Result.andThen_ok, hf, asAgg, Sem.run_pure, part, hagg]
          cases hr : d.isRow with
          | true =>
            rw [hr] at h
            simp only [Option.some.injEq] at h
            subst h
            simp only [if_true, Sem.run_bind, QaT hi, Result.andThen_ok, Sem.run_pure, Qdh]
            congr 2
            apply Array.ext'
            simp [QaA, List.extract_eq_take_drop, List.map_take, List.map_drop]
          | false =>
            rw [hr] at h
            simp only at h
            have hl := (List.getElem?_eq_some_iff.1 h).1
            have e := (List.getElem?_eq_some_iff.1 h).2
            have he : (Qaj B cs).toArray[fl.offset]? = some (den B x) := by simp [QaA, hl, e]
            simp only [Bool.false_eq_true, if_false, he, Sem.run_pure]
theorem elE_run (B : Pl) {t : TypeId} {cs : List SV} {n : Nat} {x : SV} (h : elE P t cs n = some x) (k : IntKind) (w : World) : (Instr.index t (.agg (Qaj B cs).toArray) (.int k (Int.ofNat n))).run P w = .ok (den B x) w := by
  unfold elE at h
  cases hu : P.underlying t with
  | none => rw [hu] at h; cases h
  | some d =>
    rw [hu] at h
    cases d <;> simp only [reduceCtorEq] at h
    rename_i len elem
    split at h
    · rename_i d size hb hd hi
      have hlt : n < len := by rw [Nat.blt, Nat.ble_eq] at hb; exact hb
      have hagg : (isAgg elem).run P w = .ok d.isRow w := by
        unfold isAgg
        rw [Sem.run_bind, run_underlying hd w]
        cases d <;> rfl
      have hc : (0 ≤ (Int.ofNat n) ∧ (Int.ofNat n) < (len : Int)) := ⟨Int.natCast_nonneg n, by simpa using hlt⟩
      have htn : (Int.ofNat n).toNat = n := rfl
      simp only [Instr.index, asIntOf, Sem.run_bind, Sem.run_pure, Result.andThen_ok, run_underlying hu w, if_pos hc, QaT hi, htn, part, hagg]
      cases hr : d.isRow with
      | true =>
        rw [hr] at h
        simp only [Option.some.injEq] at h
        subst h
        simp only [if_true, Sem.run_bind, QaT hi, Result.andThen_ok, Sem.run_pure, Qdh]
        congr 2
        apply Array.ext'
        simp [QaA, List.extract_eq_take_drop, List.map_take, List.map_drop]
      | false =>
        rw [hr] at h
        simp only at h
        have hl := (List.getElem?_eq_some_iff.1 h).1
        have e := (List.getElem?_eq_some_iff.1 h).2
        have he : (Qaj B cs).toArray[n * size]? = some (den B x) := by simp [QaA, hl, e]
        simp only [Bool.false_eq_true, if_false, he, Sem.run_pure]
    · cases h
theorem elE_bd {q : Nat → Prop} {t : TypeId} {cs : List SV} {n : Nat} {x : SV} (h : elE P t cs n = some x) (hb : bdL q cs) : bd q x := by
  unfold elE at h
  repeat' (split at h)
  all_goals (try (cases h; done))
  · simp only [Option.some.injEq] at h
    subst h
    exact Qd5 (QaC.2 fun x hx => QaC.1 hb x (List.mem_of_mem_drop (List.mem_of_mem_take hx)))
  · exact QaC.1 hb x (List.mem_of_getElem? h)
theorem fldE_bd {n : Nat → Prop} {t : TypeId} {cs : List SV} {f : Nat} {x : SV} (h : fldE P t cs f = some x) (hb : bdL n cs) : bd n x := by
  unfold fldE at h
  repeat' (split at h)
  all_goals (try (cases h; done))
  · simp only [Option.some.injEq] at h
    subst h
    refine Qd5 (QaC.2 fun x hx => QaC.1 hb x (List.mem_of_mem_drop (List.mem_of_mem_take hx)))
  · exact QaC.1 hb x (List.mem_of_getElem? h)
theorem Qb9 (hρ : Qbu B S a ρ) (w : World) (x : Option Operand) (d top n : Nat) (hx : QdT (x.map ρ) d top = some n) : (x.map a.eval = none ∧ n = d) ∨ ∃ v, x.map a.eval = some v ∧ n ≤ top ∧ ∀ top' code, top ≤ top' → (Instr.sliceBound v top' code).run P w = .ok n w := by
  cases x with
  | none => simp only [Option.map_none, QdT, Option.some.injEq] at hx; exact Or.inl ⟨rfl, hx.symm⟩
  | some x =>
    simp only [Option.map_some, QdT] at hx
    cases hr : ρ x with
    | none => rw [hr] at hx; cases hx
    | some s =>
      rw [hr] at hx
      simp only at hx
      cases hn : Qgi s with
      | none => rw [hn] at hx; cases hx
      | some k =>
        rw [hn] at hx
        simp only at hx
        cases hb' : Nat.ble k top with
        | false => rw [hb'] at hx; cases hx
        | true =>
          rw [hb'] at hx
          simp only [Option.some.injEq] at hx
          subst hx
          obtain ⟨q, hq⟩ := QcC hn B
          have he := (hρ x s hr).1
          have hle : k ≤ top := by simpa using hb'
          refine Or.inr ⟨.int q (Int.ofNat k), by simp only [Option.map_some, he, hq], hle, fun top' code ht => ?_⟩
          simp only [Instr.sliceBound, asIntOf, Sem.run_bind, Sem.run_pure, Result.andThen_ok]
          rw [if_pos (by simp; omega)]
          rfl
theorem Qgx (hρ : Qbu B S a ρ) (w : World) {lo hi : Option Operand} {l c c' hv lv : Nat} (hcc : c ≤ c') (hh : QdT (hi.map ρ) l c = some hv) (hl : QdT (lo.map ρ) 0 hv = some lv) :
    (Instr.sliceBounds true l c' (lo.map a.eval) (hi.map a.eval) none).run P w = .ok (lv, hv, c') w := by
  unfold Instr.sliceBounds
  rcases Qb9 (P := P) hρ w hi l c hv hh with ⟨e1, e1'⟩ | ⟨v1, e1, _, f1⟩
  · rcases Qb9 (P := P) hρ w lo 0 hv lv hl with ⟨e2, e2'⟩ | ⟨v2, e2, _, f2⟩
    · rw [e1, e2, e1', e2']; rfl
    · rw [e1, e2]
      simp only [Sem.run_bind, Sem.run_pure, Result.andThen_ok]
      rw [← e1', f2 _ _ (Nat.le_refl _)]; rfl
  · rcases Qb9 (P := P) hρ w lo 0 hv lv hl with ⟨e2, e2'⟩ | ⟨v2, e2, _, f2⟩
    · rw [e1, e2, e2']
      simp only [Sem.run_bind, Sem.run_pure, Result.andThen_ok, f1 _ _ hcc]
    · rw [e1, e2]
      simp only [Sem.run_bind, Sem.run_pure, Result.andThen_ok, f1 _ _ hcc, f2 _ _ (Nat.le_refl _)]
theorem Qdp {a b : Nat} (h : a ≠ b) : Nat.beq a b = false := by
  cases hq : Nat.beq a b with
  | false => rfl
  | true => exact absurd (Nat.eq_of_beq_eq_true hq) h
theorem Qhn (hρ : Qbu B S a ρ) {t : TypeId} {x : SV} {lo hi mx : Option Operand} {z : SV} (hb : bd S x) (h : Qj9 P ρ t x lo hi mx = some z) :
    (Instr.sliceAt t (den B x) (lo.map a.eval) (hi.map a.eval) (mx.map a.eval)).run P w = .ok (den B z) w ∧ bd S z := by
  unfold Qj9 at h
  split at h
  · rename_i elem i off l c hu
    cases hh : QdT (hi.map ρ) l c with
    | none => rw [hh] at h; simp at h
    | some hv =>
      cases hs : Qca P elem with
      | none => rw [hh, hs] at h; simp at h
      | some size =>
        rw [hh, hs] at h
        simp only at h
        cases hl : QdT (lo.map ρ) 0 hv with
        | none => rw [hl] at h; cases h
        | some lv =>
          rw [hl] at h
          simp only [Option.some.injEq] at h
          subst h
          have hbs := Qgx (P := P) hρ w (Nat.le_refl c) hh hl
          refine ⟨?_, by simpa [bd] using hb⟩
          simp only [den, Instr.sliceAt, Sem.run_bind, run_underlying hu w, Result.andThen_ok, Instr.slice, Option.map_none, Sem.run_pure, hbs, QaT hs]
          congr 2
          by_cases hc : c = lv
          · subst hc
            rw [if_pos rfl]
            simp [Nat.beq_refl]
          · rw [if_neg hc, Qdp hc]
            simp [QbC]
  · rename_i elem i off l c hu
    cases hh : QdT (hi.map ρ) l c with
    | none => rw [hh] at h; simp at h
    | some hv =>
      cases hs : Qca P elem with
      | none => rw [hh, hs] at h; simp at h
      | some size =>
        rw [hh, hs] at h
        simp only at h
        cases hl : QdT (lo.map ρ) 0 hv with
        | none => rw [hl] at h; cases h
        | some lv =>
          rw [hl] at h
          have hbs := Qgx (P := P) hρ w (c' := (B i).2 + c) (by omega) hh hl
          have hr : ∀ v, Value.slice (if (B i).2 + c = lv then some ⟨(B i).1, off, none⟩ else some ⟨(B i).1, off + lv * size, none⟩) (hv - lv) ((B i).2 + c - lv) = v → (Instr.sliceAt t (den B (.r i off l c)) (lo.map a.eval) (hi.map a.eval) none).run P w = .ok v w := by
            rintro v rfl
            simp only [den, Instr.sliceAt, Sem.run_bind, run_underlying hu w, Result.andThen_ok, Instr.slice, Option.map_none, Sem.run_pure, hbs, QaT hs]
            simp [QbC]
          have hlh : lv ≤ hv := by
            rcases Qb9 (P := P) hρ w lo 0 hv lv hl with ⟨_, e2'⟩ | ⟨_, _, f, _⟩ <;> omega
          cases hx : Nat.ble hv c with
          | false => rw [hx] at h; cases h
          | true =>
            rw [hx] at h
            simp only [Option.some.injEq] at h
            have hx' : hv ≤ c := by simpa using hx
            cases hc : Nat.beq c lv with
            | true =>
              rw [hc] at h
              simp only at h
              subst h
              have hc' : c = lv := Nat.eq_of_beq_eq_true hc
              have hhv : hv = lv := by omega
              refine ⟨hr _ ?_, by simpa [bd] using hb⟩
              simp only [den]
              congr 1
              · by_cases h0 : (B i).2 = 0
                · rw [if_pos (by omega), if_pos h0]
                · rw [if_neg (by omega), if_neg h0]
              · omega
              · omega
            | false =>
              rw [hc] at h
              simp only at h
              subst h
              have hc' : c ≠ lv := fun e => by rw [e, Nat.beq_refl] at hc; cases hc
              refine ⟨hr _ ?_, by simpa [bd] using hb⟩
              simp only [den]
              rw [if_neg (by omega)]
              congr 1
              omega
  · rename_i elem i off q hu
    cases hh : QdT (hi.map ρ) 0 0 with
    | none => rw [hh] at h; simp at h
    | some hv =>
      cases hs : Qca P elem with
      | none => rw [hh, hs] at h; simp at h
      | some size =>
        rw [hh, hs] at h
        simp only at h
        cases hl : QdT (lo.map ρ) 0 hv with
        | none => rw [hl] at h; cases h
        | some lv =>
          rw [hl] at h
          simp only [Option.some.injEq] at h
          subst h
          have hbs := Qgx (P := P) hρ w (c' := (B i).2) (by omega) hh hl
          have h0 : hv = 0 := by
            rcases Qb9 (P := P) hρ w hi 0 0 hv hh with ⟨_, e2'⟩ | ⟨_, _, f, _⟩ <;> omega
          subst h0
          have h1 : lv = 0 := by
            rcases Qb9 (P := P) hρ w lo 0 0 lv hl with ⟨_, e2'⟩ | ⟨_, _, f, _⟩ <;> omega
          subst h1
          refine ⟨?_, hb⟩
          simp only [den, Instr.sliceAt, Sem.run_bind, run_underlying hu w, Result.andThen_ok, Instr.slice, Option.map_none, Sem.run_pure, hbs, QaT hs]
          simp [QbC]
  · cases h
theorem mkE_run (B : Pl) {t : TypeId} {a b : Nat} {k : Bx} (h : mkE P t a b = some k) (kl kc : IntKind) (w : World) : (Instr.makeSlice t (.int kl (Int.ofNat a)) (.int kc (Int.ofNat b))).run P w = .ok (.slice (some ⟨w.heap.size, 0, none⟩) a b) (w.alloc (.cells (Qaj B k.cs).toArray k.ty (0, 0))) ∧ k.sz = 0 ∧ ∀ S : Nat → Prop, bdL S k.cs := by
  unfold mkE at h
  cases hu : P.underlying t with
  | none => rw [hu] at h; cases h
  | some d =>
    rw [hu] at h
    cases d <;> (try (cases h; done))
    rename_i e
    simp only at h
    cases hi : P.info? e with
    | none => rw [hi] at h; cases h
    | some i =>
      rw [hi] at h
      simp only at h
      cases hz : i.zero with
      | none => rw [hz] at h; cases h
      | some z =>
        rw [hz] at h
        simp only at h
        cases hc : (Nat.ble a b && Nat.ble b 100000 && Nat.ble i.bytes 100000) with
        | false => rw [hc] at h; cases h
        | true =>
          rw [hc] at h
          simp only [Option.some.injEq] at h
          subst h
          simp only [Bool.and_eq_true, Nat.ble_eq] at hc
          obtain ⟨⟨h1, h2⟩, h3⟩ := hc
          have hb : i.bytes * b ≤ 100000 * 100000 := Nat.mul_le_mul h3 h2
          have hr := run_make (P := P) w t e i z hu hi hz kl kc (Int.ofNat a) (Int.ofNat b) (by simp) (by simpa using h1) (by simp only [Int.ofNat_eq_natCast]; rw [← Int.natCast_mul]; omega) (by simp; omega)
          refine ⟨?_, rfl, fun S => Qhb _ _⟩
          rw [hr, Qfr]
          have e : madeCells z.cells ((Int.ofNat b).toNat * i.size) = ((List.range (b * i.size)).map fun j => z.cells[j % z.cells.size]!).toArray := by
            apply Array.ext'
            simp [madeCells]
          rw [e]
          rfl
theorem QgW {t : TypeId} {u v : SV} (h : QhF P t u v = true) (B : Pl) (x y : Operand) (op : BinOp) (hop : op = .eql ∨ op = .neq) (w : World) :
    (do eqGuard op t x y (den B u) (den B v); binOp op t (den B u) (den B v) : Sem Value).run P w = .ok (.bool (op == .neq)) w := by
  unfold QhF at h
  cases hu : P.underlying t with
  | none => rw [hu] at h; cases h
  | some d =>
    rw [hu] at h
    obtain ⟨dd, hd⟩ : ∃ dd, Op.maxDepth = dd + 1 := ⟨9999, rfl⟩
    have key : ∀ X Y : Value, (eqGuard op t x y X Y).run P w = .ok () w → (Op.equalIn (dd + 1) t X Y).run P w = .ok false w → (binOp op t X Y = if op = .eql then (do pure (.bool (← Op.equal t X Y))) else do pure (.bool (!(← Op.equal t X Y)))) →
        (do eqGuard op t x y X Y; binOp op t X Y : Sem Value).run P w = .ok (.bool (op == .neq)) w := by
      intro X Y h1 h2 h3
      rw [Sem.run_bind, h1, Result.andThen_ok, h3]
      unfold Op.equal
      rw [hd]
      rcases hop with rfl | rfl
      · rw [if_pos rfl, Sem.run_bind, h2]; rfl
      · rw [if_neg (by simp), Sem.run_bind, h2]; rfl
    split at h <;> (try (cases h; done)) <;> rename_i he <;> cases he <;> refine key _ _ ?_ ?_ ?_
    all_goals first
      | (simp only [Op.equalIn, den, Sem.run_bind, run_underlying hu w, Result.andThen_ok]; rfl)
      | (rcases hop with rfl | rfl <;> simp only [den] <;> rfl)
end
section
variable {P : Program} {w0 : World} {F : List RF} {B : Pl} {S : Nat → Prop} {m m' : Mm} {a : Act} {w : World} {ρ : Rho} {o : Oper} {x : SV}
theorem Re.upd (R : Re w0 F B m.K.get S w) {i : Nat} {k : Bx} {w' : World} (ht : Qay i = true) (R' : Re w0 F B (QbO m.K.get i (some k)) S w') : Re w0 F B (m.upd i k).K.get S w' := by
  unfold Mm.upd
  simp only [Tr.get_set ht]
  exact R'
def KRel (B : Pl) (r : Option SV) (p : Option (Nat × Value)) : Prop := match r with
  | none => p = none
  | some v => ∃ a, p = some (a, den B v)
theorem Qiy (B : Pl) (q : IntKind) {kd : IntKind} {n : Int} : ∀ (es : List SV) {r : Option SV} (j i : Nat), QeR kd n es = some r → ∃ p, Instr.findNow (.int q) (.int kd n) (Qfq j (Qaj B es)) i = some p ∧ KRel B r p
  | [], r, j, i, h => by
    simp only [QeR, Option.some.injEq] at h
    subst h
    exact ⟨none, rfl, rfl⟩
  | [_], r, j, i, h => by simp [QeR] at h
  | k :: v :: l, r, j, i, h => by
    unfold QeR at h
    split at h
    · rename_i kd' n'
      simp only [Qaj, den, Qfq, Instr.findNow, Instr.sameNow]
      split at h
      · rename_i h1 h2
        simp only [decide_eq_true_eq] at h1 h2
        simp only [Option.some.injEq] at h
        subst h
        subst h1; subst h2
        exact ⟨some (i, den B v), by simp, _, rfl⟩
      · rename_i h1 h2
        simp only [decide_eq_true_eq, decide_eq_false_iff_not] at h1 h2
        subst h1
        obtain ⟨p, h3, h4⟩ := Qiy B q l (j + 1) (i + 1) h
        refine ⟨p, ?_, h4⟩
        have : (n == n') = false := by simpa using h2
        simp only [if_true, this]
        exact h3
      · cases h
    · cases h
theorem Qk3 {S : Nat → Prop} {kd : IntKind} {n : Int} : ∀ (es : List SV) {v : SV}, QeR kd n es = some (some v) → bdL S es → bd S v
  | [], v, h, _ => by simp [QeR] at h
  | [_], v, h, _ => by simp [QeR] at h
  | k :: u :: l, v, h, hb => by
    simp only [bdL] at hb
    unfold QeR at h
    split at h
    · split at h
      · simp only [Option.some.injEq] at h
        subst h
        exact hb.2.1
      · exact Qk3 l h hb.2.2
      · cases h
    · cases h
theorem Qg2 (B : Pl) {kd : IntKind} {n : Int} (k v : Value) : ∀ (es : List SV) (j : Nat), QeR kd n es = some none → Qfq j (Qaj B es ++ [k, v]) = Qfq j (Qaj B es) ++ [{ key := k, val := v, born := j + (Qfq j (Qaj B es)).length }]
  | [], j, h => rfl
  | [_], j, h => by simp [QeR] at h
  | a :: u :: l, j, h => by
    unfold QeR at h
    split at h
    · split at h
      · cases h
      · simp only [Qaj, List.cons_append, Qfq, List.length_cons]
        rw [Qg2 B k v l (j + 1) h]
        simp only [List.cons.injEq, true_and, List.append_cancel_left_eq, MapEntry.mk.injEq, and_true]
        omega
      · cases h
    · cases h
theorem Qfg {d : Option TypeDesc} (h : d.map QfS = some true) : ∃ q, d = some (.int q) := by
  cases d with
  | none => cases h
  | some d => cases d <;> first | exact ⟨_, rfl⟩ | (simp [QfS] at h)
theorem QdR {B : Pl} {kt : TypeId} {q kd : IntKind} {n : Int} {es : List SV} {r : Option SV} (hu : P.underlying kt = some (.int q)) (h : QeR kd n es = some r) (w : World) : ∃ p, (Instr.findKey kt (.int kd n) (Qfq 0 (Qaj B es))).run P w = .ok p w ∧ KRel B r p := by
  obtain ⟨p, h1, h2⟩ := Qiy B q es 0 0 h
  refine ⟨p, ?_, h2⟩
  unfold Instr.findKey
  rw [Sem.run_bind, run_underlying hu w]
  simp only [Result.andThen_ok]
  rw [h1]
  rfl
theorem Qdn {kt : TypeId} {q kd : IntKind} {n : Int} (hu : P.underlying kt = some (.int q)) (b : Bool) (w : World) : (Instr.checkKey b 10000 kt (.int kd n)).run P w = .ok () w := by
  unfold Instr.checkKey
  rw [Sem.run_bind, run_underlying hu w]
  rfl
theorem Qk2 {kd : IntKind} {n : Int} : ∀ {es : List SV} {r : Option SV}, QeR kd n es = some r → itO es = none ∧ ∀ v, itO (es ++ [.v (.int kd n), v]) = none
  | [], r, h => ⟨rfl, fun v => rfl⟩
  | [_], r, h => by simp [QeR] at h
  | k :: u :: l, r, h => by
    unfold QeR at h
    split at h
    · exact ⟨rfl, fun v => rfl⟩
    · cases h
theorem Qgg {B : Pl} {kd : IntKind} {n : Int} {es : List SV} {r : Option SV} (h : QeR kd n es = some r) : objM B es = .map (Qfq 0 (Qaj B es)).toArray (Qfq 0 (Qaj B es)).length := by
  unfold objM
  rw [(Qk2 h).1]
theorem QkI {B : Pl} {kd : IntKind} {n : Int} {es : List SV} {r : Option SV} (h : QeR kd n es = some r) (v : SV) : objM B (es ++ [.v (.int kd n), v]) = .map (Qfq 0 (Qaj B (es ++ [.v (.int kd n), v]))).toArray (Qfq 0 (Qaj B (es ++ [.v (.int kd n), v]))).length := by
  unfold objM
  rw [(Qk2 h).2 v]
theorem Re.put (R : Re w0 F B m.K.get S w) {i : Nat} {k k' : Bx} (hk : m.K.get i = some k) {w' : World} {rest : List Value} (hg : w.grownBy w' (some (B i).1)) (hkb : bdK S k') (hr : Qe5 (B i).2 k' rest)
    (hh : w'.heap[(B i).1]? = some (Qcb B k' rest)) : Re w0 F B (QbO m.K.get i (some k')) S w' := by
  have hne : ∀ j kj, m.K.get j = some kj → j ≠ i → (B j).1 ≠ (B i).1 := fun j kj h hj he => hj (R.nd j i _ _ h hk he)
  have hold : ∀ j kj, QbO m.K.get i (some k') j = some kj → ∃ kj', m.K.get j = some kj' := fun j kj h => by
    unfold QbO at h
    by_cases e : j = i
    · subst e; exact ⟨_, hk⟩
    · rw [if_neg e] at h; exact ⟨_, h⟩
  refine ⟨fun j kj h => ?_, fun p q kp kq hp hq he => ?_, fun j kj h => ?_, fun f hf => ?_, ?_⟩
  · unfold QbO at h
    by_cases e : j = i
    · subst e; simp at h; subst h
      exact ⟨(R.bx j k hk).1, hkb, rest, hr, hh⟩
    · rw [if_neg e] at h
      obtain ⟨h1, h2, rest', h4, h3⟩ := R.bx j kj h
      exact ⟨h1, h2, rest', h4, by rw [hg.block _ (R.lt h) (fun e' => hne j _ h e (Option.some.inj e'))]; exact h3⟩
  · obtain ⟨_, g1⟩ := hold p kp hp
    obtain ⟨_, g2⟩ := hold q kq hq
    exact R.nd p q _ _ g1 g2 he
  · obtain ⟨_, g1⟩ := hold j kj h
    exact R.lo j _ g1
  · obtain ⟨h1, h2⟩ := R.fs f hf
    refine ⟨f.st w w' h1 (fun b hb => hg.block b (f.lt w h1 b hb) (fun e => h2 i k hk (Option.some.inj e ▸ hb))), fun j kj h => ?_⟩
    obtain ⟨_, g1⟩ := hold j kj h
    exact h2 j _ g1
  · have g := R.gr.1
    refine ⟨⟨hg.os.trans g.os, hg.tape.trans g.tape, hg.output.trans g.output, Nat.le_trans g.size hg.size, fun b hb hne' => ?_⟩, R.gr.2⟩
    rw [hg.block b (Nat.lt_of_lt_of_le hb g.size) (fun e => by have := R.lo i k hk; have := Option.some.inj e; omega)]
    exact g.block b hb hne'
theorem mkmE_ok {t : TypeId} {x : SV} {m' : Mm} (R : Re w0 F B m.K.get S w) (hS : ∀ j, S j → j < m.nx) (ho : o.op = .makeMap t none) (h : mkmE m t (Qay m.nx) = some (x, m')) : Qeh P w0 F B S m.nx o a w x m' := by
  unfold mkmE at h
  cases ht : Qay m.nx with
  | false => rw [ht] at h; cases h
  | true =>
    rw [ht] at h
    simp only [Option.some.injEq, Prod.mk.injEq] at h
    obtain ⟨rfl, rfl⟩ := h
    obtain ⟨h1, h2⟩ := R.new ⟨t, [], 0, true, []⟩ [] 0 ⟨by simp [bdL], fun _ => ⟨rfl, rfl, by simp [bdL]⟩⟩ (by simp [Qe5]) hS
    refine ⟨.value (.map (some w.heap.size)), w.alloc (Qcb B ⟨t, [], 0, true, []⟩ []), _, ?_, Or.inl (by simp [den, QbD]), h2, by simp [Mm.new], ?_, by simp [bd, Mm.new, ext]⟩
    · unfold execOp
      simp only [ho, Option.map_none]
      rfl
    · unfold Mm.new
      simp only [Tr.get_set ht]
      exact h1
theorem insE_ok {t : TypeId} {y k v : Operand} {x : SV} {m' : Mm} (R : Re w0 F B m.K.get S w) (hρ : Qbu B S a ρ) (ho : o.op = .insert t y k v) (h : insE P m t (ρ y) (ρ k) (ρ v) = some (x, m')) : Qeh P w0 F B S m.nx o a w x m' := by
  unfold insE at h
  split at h
  · rename_i kt et i kd n v' hu hy hk hv
    split at h
    · rename_i b hi hb ht
      split at h
      · rename_i hmp hke
        simp only [Option.some.injEq, Prod.mk.injEq] at h
        obtain ⟨rfl, rfl⟩ := h
        obtain ⟨q, hq⟩ := Qfg hi
        obtain ⟨e1, _⟩ := hρ _ _ hy
        obtain ⟨e2, _⟩ := hρ _ _ hk
        obtain ⟨e3, b3⟩ := hρ _ _ hv
        simp only [den] at e1 e2
        obtain ⟨_, hbk, rest, ⟨hr1, _⟩, hh⟩ := R.bx i b hb
        obtain ⟨hcs, hsz, hbe⟩ := hbk.2 hmp
        unfold Qcb at hh
        rw [hmp] at hh
        simp only [Qgg hke] at hh
        obtain ⟨p, hf, rfl⟩ := QdR (B := B) hq hke w
        have hlt := R.lt hb
        have hobj : Qcb B ⟨b.ty, [], 0, true, b.es ++ [.v (.int kd n), v']⟩ [] = .map ((Qfq 0 (Qaj B b.es)).toArray.push { key := .int kd n, val := den B v', born := (Qfq 0 (Qaj B b.es)).length }) ((Qfq 0 (Qaj B b.es)).length + 1) := by
          unfold Qcb
          simp only [QkI hke, QaR, Qaj, den]
          rw [Qg2 B _ _ _ 0 hke]
          simp
        have hrun : (Instr.mapUpdate t (.map (some (B i).1)) (.int kd n) (den B v')).run P w = .ok () { w with heap := w.heap.setIfInBounds (B i).1 (Qcb B ⟨b.ty, [], 0, true, b.es ++ [.v (.int kd n), v']⟩ []) } := by
          rw [hobj]
          unfold Instr.mapUpdate
          rw [Sem.run_bind, run_underlying hu w]
          simp only [Result.andThen_ok]
          rw [Sem.run_bind]
          have hg : (getObj (B i).1).run P w = .ok (.map (Qfq 0 (Qaj B b.es)).toArray (Qfq 0 (Qaj B b.es)).length) w := by
            simp only [getObj, Sem.run, hh]
          rw [hg]
          simp only [Result.andThen_ok]
          rw [Sem.run_bind, Qdn hq false w]
          simp only [Result.andThen_ok]
          rw [Sem.run_bind, hf]
          simp only [Result.andThen_ok]
          simp only [setObj, Sem.run, hh]
        refine ⟨.skip, { w with heap := w.heap.setIfInBounds (B i).1 (Qcb B ⟨b.ty, [], 0, true, b.es ++ [.v (.int kd n), v']⟩ []) }, B, ?_, Or.inr ⟨rfl, rfl⟩, Ag.refl _ _ _, Nat.le_refl _, ?_, by simp [bd]⟩
        · unfold execOp
          simp only [ho, e1, e2, e3, Sem.run_bind, hrun, Result.andThen_ok, Sem.run_pure]
        · simp only [Mm.upd, Tr.get_set ht]
          rw [Qai]
          refine R.put hb (rest := []) ⟨rfl, rfl, rfl, by simp, fun j hj hne => ?_⟩ ⟨by simp [bdL], fun _ => ⟨rfl, rfl, Qbb.2 ⟨hbe, by simp [bdL, bd, b3]⟩⟩⟩ (by simp [Qe5]) ?_
          · simp only [Array.getElem?_setIfInBounds]
            rw [if_neg (fun e => hne (by rw [e]))]
          · simp [Array.getElem?_setIfInBounds, hlt]
      · cases h
    · cases h
  · cases h
theorem lkE_ok {t : TypeId} {y k : Operand} {ok : Bool} {x : SV} {m' : Mm} (R : Re w0 F B m.K.get S w) (hρ : Qbu B S a ρ) (ho : o.op = .lookup t y k ok) (h : lkE P m t (ρ y) (ρ k) ok = some (x, m')) : Qeh P w0 F B S m.nx o a w x m' := by
  unfold lkE at h
  split at h
  · rename_i kt et i kd n hu hy hk
    split at h
    · rename_i b z hi hb hz
      split at h
      · rename_i r hmp hke
        simp only [Option.some.injEq, Prod.mk.injEq] at h
        obtain ⟨rfl, rfl⟩ := h
        obtain ⟨q, hq⟩ := Qfg hi
        obtain ⟨e1, _⟩ := hρ _ _ hy
        obtain ⟨e2, _⟩ := hρ _ _ hk
        simp only [den] at e1 e2
        obtain ⟨_, hbk, rest, _, hh⟩ := R.bx i b hb
        obtain ⟨hcs, hsz, hbe⟩ := hbk.2 hmp
        unfold Qcb at hh
        rw [hmp] at hh
        simp only [Qgg hke] at hh
        obtain ⟨p, hf, hp⟩ := QdR (B := B) hq hke w
        have hg : (getObj (B i).1).run P w = .ok (.map (Qfq 0 (Qaj B b.es)).toArray (Qfq 0 (Qaj B b.es)).length) w := by
          simp only [getObj, Sem.run, hh]
        have hbd : bd S (lkV ok r z) := by
          have hv : bd S (r.getD (.v z)) := by
            cases r with
            | none => simp [bd]
            | some v => exact Qk3 _ hke hbe
          cases ok with
          | true => simp only [lkV, bd, bdL]; exact ⟨hv, trivial, trivial⟩
          | false => exact hv
        have hrun : (Instr.lookup t (.map (some (B i).1)) (.int kd n) ok).run P w = .ok (den B (lkV ok r z)) w := by
          unfold Instr.lookup
          rw [Sem.run_bind, run_underlying hu w]
          simp only [Result.andThen_ok, Sem.run_bind, hg, Sem.run_pure, Qdn hq, hf]
          cases r with
          | none =>
            have hp' : p = none := hp
            subst hp'
            simp only [Sem.run_bind, SX.pev_run _ hz w, Result.andThen_ok, Sem.run_pure]
            cases ok <;> simp [lkV, den, Qaj, Sem.run_pure]
          | some v =>
            obtain ⟨a', hp'⟩ : ∃ a, p = some (a, den B v) := hp
            subst hp'
            simp only [Sem.run_pure, Result.andThen_ok]
            cases ok <;> simp [lkV, den, Qaj, Sem.run_pure]
        exact Qar R hbd (by unfold execOp; simp only [ho, e1, e2, Sem.run_bind, hrun, Result.andThen_ok, Sem.run_pure])
      · cases h
    · cases h
  · cases h
theorem Qje (hS : ∀ j, S j → j < m.nx) (R : Re w0 F B m.K.get S w) (hρ : Qbu B S a ρ) (h : opE0 P ρ m o = some (x, m')) : Qeh P w0 F B S m.nx o a w x m' := by
  have plain : (match Qa4 P ρ o with
      | some x => some (x, m)
      | none => none) = some (x, m') → Qeh P w0 F B S m.nx o a w x m' := QkB R hρ
  unfold opE0 at h
  split at h
  · -- move
    rename_i y ho
    cases hy : ρ y with
    | none => rw [hy] at h; cases h
    | some v =>
      rw [hy] at h
      simp only [Option.some.injEq, Prod.mk.injEq] at h
      obtain ⟨rfl, rfl⟩ := h
      obtain ⟨h1, h2⟩ := hρ y v hy
      exact Qar R h2 (by unfold execOp; simp only [ho, h1]; rfl)
  · -- assign
    rename_i y ho
    cases hy : ρ y with
    | none => rw [hy] at h; cases h
    | some v =>
      rw [hy] at h
      simp only [Option.some.injEq, Prod.mk.injEq] at h
      obtain ⟨rfl, rfl⟩ := h
      obtain ⟨h1, h2⟩ := hρ y v hy
      exact Qar R h2 (by unfold execOp; simp only [ho, h1]; rfl)
  · -- load
    rename_i ty y ho
    cases hy : ρ y with
    | none => rw [hy] at h; cases h
    | some v =>
      rw [hy] at h
      cases v with
      | p i off =>
        simp only at h
        cases hk : m.K.get i with
        | none => rw [hk] at h; cases h
        | some k =>
          rw [hk] at h
          simp only at h
          cases hl : ldE P ty k.cs off with
          | none => rw [hl] at h; cases h
          | some v =>
            rw [hl] at h
            simp only [Option.some.injEq, Prod.mk.injEq] at h
            obtain ⟨rfl, rfl⟩ := h
            obtain ⟨h1, h2⟩ := hρ y _ hy
            obtain ⟨h3, h4⟩ := R.ld hk hl
            exact Qar R h4 (by unfold execOp; simp only [ho, h1, den, Instr.loadAt, Instr.sureAddr, Sem.run_bind, Sem.run_pure, Result.andThen_ok, h3])
      | _ => simp at h
  · -- store
    rename_i ty y z ho
    cases hy : ρ y with
    | none => rw [hy] at h; simp at h
    | some u =>
      cases hz : ρ z with
      | none => rw [hy, hz] at h; cases u <;> simp at h
      | some v =>
        rw [hy, hz] at h
        cases u with
        | p i off =>
          simp only at h
          cases hk : m.K.get i with
          | none => rw [hk] at h; cases h
          | some k =>
            cases ht : Qay i with
            | false => rw [hk, ht] at h; cases h
            | true =>
              rw [hk, ht] at h
              simp only at h
              cases hs : stE P ty k.cs off v with
              | none => rw [hs] at h; cases h
              | some cs =>
                rw [hs] at h
                simp only [Option.some.injEq, Prod.mk.injEq] at h
                obtain ⟨rfl, rfl⟩ := h
                obtain ⟨h1, h2⟩ := hρ y _ hy
                obtain ⟨h3, h4⟩ := hρ z _ hz
                obtain ⟨w', hr, R'⟩ := R.st hk h4 hs
                refine ⟨.skip, w', B, ?_, Or.inr ⟨rfl, rfl⟩, Ag.refl _ _ _, Nat.le_refl _, by simp only [Mm.upd]; rw [Qai]; exact R.upd ht R', by simp [bd]⟩
                unfold execOp
                simp only [ho, h1, h3, den, Instr.storeAt, Instr.sureAddr, Sem.run_bind, Sem.run_pure, Result.andThen_ok, hr]
        | _ => simp at h
  · -- alloc
    rename_i ty ho
    cases hz : SX.zeroS P ty with
    | none => rw [hz] at h; cases h
    | some cs =>
      cases ht : Qay m.nx with
      | false => rw [hz, ht] at h; cases h
      | true =>
        rw [hz, ht] at h
        simp only [Option.some.injEq, Prod.mk.injEq] at h
        obtain ⟨rfl, rfl⟩ := h
        obtain ⟨z, hz1, hz2⟩ := SX.zeroS_run hz w
        refine Qiq R ht (Qhb _ _) (by simp [bd, ext]) rfl hS fun B' hB _ => ?_
        have hr : (Instr.alloc ty true (.tuple #[])).run P w = .ok (.pointer (some ⟨w.heap.size, 0, none⟩)) (w.alloc (.cells cs.toArray ty (0, 0))) := by
          simp only [Instr.alloc, Sem.run_bind, hz2, Result.andThen_ok, newVar, newRow, newObj]
          rw [← hz1]
          rfl
        unfold execOp
        simp only [ho, Sem.run_bind, hr, Result.andThen_ok, Sem.run_pure, den, hB, Qfr]
  · -- box
    rename_i ty y ho
    cases hy : ρ y with
    | none => rw [hy] at h; simp at h
    | some v =>
      cases ht : Qay m.nx with
      | false => rw [hy, ht] at h; simp at h
      | true =>
        rw [hy, ht] at h
        simp only [Option.some.injEq, Prod.mk.injEq] at h
        obtain ⟨rfl, rfl⟩ := h
        obtain ⟨h1, h2⟩ := hρ y _ hy
        refine Qiq R ht (Qfs h2) (by simp [bd, ext]) rfl hS fun B' hB hag => ?_
        unfold execOp
        simp only [ho, h1, Instr.box, newVar, newRow, newObj, Sem.run_bind, Sem.run_pure, Result.andThen_ok, den, hB, Qet]
        rfl
  · -- build
    rename_i t parts ho
    cases hp : Qgb P ρ o with
    | some y =>
      rw [hp] at h
      simp only [Option.some.injEq, Prod.mk.injEq] at h
      obtain ⟨rfl, rfl⟩ := h
      unfold Qgb at hp
      split at hp
      · exact Qd1 R hρ hp
      · cases hp
    | none =>
      rw [hp] at h
      simp only at h
      cases hv : Qdb ρ (parts.toList.map (·.2)) with
      | none => rw [hv] at h; cases h
      | some vs =>
        rw [hv] at h
        simp only at h
        cases hb : bldE P t ((parts.toList.map (·.1)).zip vs) with
        | none => rw [hb] at h; cases h
        | some cs =>
          rw [hb] at h
          simp only [Option.some.injEq, Prod.mk.injEq] at h
          obtain ⟨rfl, rfl⟩ := h
          obtain ⟨h1, h2⟩ := QcW hρ _ hv
          refine Qar R (Qd5 (bldE_bd hb (QjK _ _ h2))) ?_
          have hr := bldE_run B hb w
          rw [QaA] at h1
          rw [Qhj (den B) parts.toList a.eval vs h1] at hr
          unfold execOp
          have e : (parts.map fun (i, x) => (i, a.eval x)) = (parts.toList.map fun q => (q.1, a.eval q.2)).toArray := by apply Array.ext'; simp
          simp only [ho, e, Sem.run_bind, hr, Result.andThen_ok, Sem.run_pure, Qdh]
  · -- buildSlice
    rename_i t len parts ho
    cases hv : Qdb ρ (parts.toList.map (·.2)) with
    | none => rw [hv] at h; simp at h
    | some vs =>
      cases ht : Qay m.nx with
      | false => rw [hv, ht] at h; simp at h
      | true =>
        rw [hv, ht] at h
        simp only at h
        cases hb : QjG P t len ((parts.toList.map (·.1)).zip vs) with
        | none => rw [hb] at h; cases h
        | some k =>
          rw [hb] at h
          simp only [Option.some.injEq, Prod.mk.injEq] at h
          obtain ⟨rfl, rfl⟩ := h
          obtain ⟨h1, h2⟩ := QcW hρ _ hv
          refine Qiq R ht (bslE_bd hb (QjK _ _ h2)) (by simp [bd, ext]) (bslE_sz hb) hS (fun B' hB _ => ?_) (bslE_mp hb) (bslE_es hb)
          have hr := bslE_run B hb w
          rw [QaA] at h1
          rw [Qhj (den B) parts.toList a.eval vs h1] at hr
          unfold execOp
          have e : (parts.map fun (i, x) => (i, a.eval x)) = (parts.toList.map fun q => (q.1, a.eval q.2)).toArray := by apply Array.ext'; simp
          simp only [ho, e, Sem.run_bind, hr, Result.andThen_ok, Sem.run_pure, den, hB]
  · -- fieldAddr
    rename_i t y f ho
    cases hy : ρ y with
    | none => rw [hy] at h; cases h
    | some v =>
      rw [hy] at h
      cases v with
      | p i off =>
        simp only at h
        cases hf : SX.fieldS P t f with
        | none => rw [hf] at h; cases h
        | some q =>
          rw [hf] at h
          simp only [Option.some.injEq, Prod.mk.injEq] at h
          obtain ⟨rfl, rfl⟩ := h
          obtain ⟨h1, h2⟩ := hρ y _ hy
          exact Qar R (by simpa [bd] using h2) (by unfold execOp; simp only [ho, h1, den, Sem.run_bind, SX.fieldS_run hf, Result.andThen_ok, Sem.run_pure])
      | _ => simp at h
  · -- indexAddr
    rename_i t y ix ho
    have slice : ∀ i off l cv iv n q, ρ y = some iv → den B iv = .slice (some ⟨(B i).1, off, none⟩) l cv → S i → (∃ k, a.eval ix = .int k (Int.ofNat n)) → idxE P t l n = some q → Qeh P w0 F B S m.nx o a w (.p i (off + q)) m := by
      intro i off l cv iv n q h1 h2 h3 ⟨k, h4⟩ h5
      refine Qar R (by simpa [bd] using h3) ?_
      have he := (hρ y _ h1).1
      unfold idxE at h5
      cases hu : P.underlying t with
      | none => rw [hu] at h5; cases h5
      | some d =>
        rw [hu] at h5
        cases d <;> (try (cases h5; done))
        rename_i elem
        simp only at h5
        cases hn : Nat.blt n l with
        | false => rw [hn] at h5; cases h5
        | true =>
          cases hs : Qca P elem with
          | none => rw [hn, hs] at h5; cases h5
          | some size =>
            rw [hn, hs] at h5
            simp only [Option.some.injEq] at h5
            subst h5
            have hlt : n < l := by rw [Nat.blt, Nat.ble_eq] at hn; exact hn
            unfold execOp
            simp only [ho, he, h2, h4, Instr.indexAt, asIntOf, Sem.run_bind, Sem.run_pure, Result.andThen_ok, run_underlying hu w]
            rw [if_pos ⟨by simp, by simpa using hlt⟩]
            simp only [Sem.run_bind, QaT hs, Result.andThen_ok, Sem.run_pure, den, QbC]
            rfl
    cases hy : ρ y with
    | none => rw [hy] at h; simp at h
    | some u =>
      cases hi : ρ ix with
      | none => rw [hy, hi] at h; cases u <;> simp at h
      | some iv =>
        rw [hy, hi] at h
        obtain ⟨g1, g2⟩ := hρ y _ hy
        have hiv := hρ ix _ hi
        cases u with
        | s i off l c =>
          simp only at h
          cases hn : Qgi iv with
          | none => rw [hn] at h; cases h
          | some n =>
            rw [hn] at h; simp only at h
            cases hq : idxE P t l n with
            | none => rw [hq] at h; cases h
            | some q =>
              rw [hq] at h
              simp only [Option.some.injEq, Prod.mk.injEq] at h
              obtain ⟨rfl, rfl⟩ := h
              obtain ⟨k, hk⟩ := QcC hn B
              exact slice i off l c _ n q hy (by simp [den]) (by simpa [bd] using g2) ⟨k, hiv.1.trans hk⟩ hq
        | r i off l c =>
          simp only at h
          cases hn : Qgi iv with
          | none => rw [hn] at h; cases h
          | some n =>
            rw [hn] at h; simp only at h
            cases hq : idxE P t l n with
            | none => rw [hq] at h; cases h
            | some q =>
              rw [hq] at h
              simp only [Option.some.injEq, Prod.mk.injEq] at h
              obtain ⟨rfl, rfl⟩ := h
              obtain ⟨k, hk⟩ := QcC hn B
              exact slice i off l _ _ n q hy (by simp only [den]; rfl) (by simpa [bd] using g2) ⟨k, hiv.1.trans hk⟩ hq
        | p i off =>
          simp only at h
          cases hn : Qgi iv with
          | none => rw [hn] at h; cases h
          | some n =>
            rw [hn] at h; simp only at h
            cases hq : aidxE P t n with
            | none => rw [hq] at h; cases h
            | some q =>
              rw [hq] at h
              simp only [Option.some.injEq, Prod.mk.injEq] at h
              obtain ⟨rfl, rfl⟩ := h
              obtain ⟨k, hk⟩ := QcC hn B
              have h4 := hiv.1.trans hk
              refine Qar R (by simpa [bd] using g2) ?_
              unfold aidxE at hq
              cases hu : P.underlying t with
              | none => rw [hu] at hq; cases hq
              | some d =>
                rw [hu] at hq
                cases d <;> (try (cases hq; done))
                rename_i len elem
                simp only at hq
                cases hnl : Nat.blt n len with
                | false => rw [hnl] at hq; cases hq
                | true =>
                  cases hs : Qca P elem with
                  | none => rw [hnl, hs] at hq; cases hq
                  | some size =>
                    rw [hnl, hs] at hq
                    simp only [Option.some.injEq] at hq
                    subst hq
                    have hlt : n < len := by rw [Nat.blt, Nat.ble_eq] at hnl; exact hnl
                    unfold execOp
                    simp only [ho, g1, den, h4, Instr.indexAt, Instr.sureAddr, asIntOf, Sem.run_bind, Sem.run_pure, Result.andThen_ok, run_underlying hu w]
                    rw [if_pos ⟨by simp, by simpa using hlt⟩]
                    simp only [Sem.run_bind, QaT hs, Result.andThen_ok, Sem.run_pure, den, QbC]
                    rfl
        | _ => simp at h
  · -- makeFunc
    rename_i fn first caps ho
    cases h1 : Qdb ρ first.toList with
    | none => rw [h1] at h; simp at h
    | some fs =>
      cases h2 : Qdb ρ caps.toList with
      | none => rw [h1, h2] at h; simp at h
      | some cs =>
        rw [h1, h2] at h
        simp only [Option.some.injEq, Prod.mk.injEq] at h
        obtain ⟨rfl, rfl⟩ := h
        obtain ⟨g1, g2⟩ := QcW hρ _ h1
        obtain ⟨g3, g4⟩ := QcW hρ _ h2
        refine Qar R (by simp [bd, g2, g4]) ?_
        have e1 : first.map a.eval = (Qaj B fs).toArray := by apply Array.ext'; simp [g1]
        have e2 : caps.map a.eval = (Qaj B cs).toArray := by apply Array.ext'; simp [g3]
        unfold execOp
        simp only [ho, Instr.makeFunc, Sem.run_bind, Sem.run_pure, Result.andThen_ok, den, e1, e2]
  · -- field
    rename_i t y f ho
    split at h
    · rename_i cs hy
      cases hf : fldE P t cs f with
      | none => rw [hf] at h; cases h
      | some v =>
        rw [hf] at h
        simp only [Option.some.injEq, Prod.mk.injEq] at h
        obtain ⟨rfl, rfl⟩ := h
        obtain ⟨h1, h2⟩ := hρ y _ hy
        have hr := fldE_run B hf w
        exact Qar R (fldE_bd hf (by simpa [bd] using h2)) (by unfold execOp; simp only [ho, h1, den, Sem.run_bind, hr, Result.andThen_ok, Sem.run_pure])
    · exact plain h
  · -- index
    rename_i t y ix ho
    split at h
    · rename_i cs hy
      cases hf : elX P t cs (ρ ix) with
      | none => rw [hf] at h; cases h
      | some v =>
        rw [hf] at h
        simp only [Option.some.injEq, Prod.mk.injEq] at h
        obtain ⟨rfl, rfl⟩ := h
        unfold elX at hf
        split at hf
        · rename_i iv hiv
          split at hf
          · rename_i n hn
            obtain ⟨h1, h2⟩ := hρ y _ hy
            obtain ⟨k, hk⟩ := QcC hn B
            have h3 := (hρ ix _ hiv).1.trans hk
            have hr := elE_run B hf k w
            exact Qar R (elE_bd hf (by simpa [bd] using h2)) (by unfold execOp; simp only [ho, h1, h3, den, Sem.run_bind, hr, Result.andThen_ok, Sem.run_pure])
          · cases hf
        · cases hf
    · exact plain h
  · -- makeInterface
    rename_i ty y ho
    split at h
    · rename_i v hy hu
      simp only [Option.some.injEq, Prod.mk.injEq] at h
      obtain ⟨rfl, rfl⟩ := h
      obtain ⟨h1, h2⟩ := hρ y _ hy
      cases hd : P.underlying ty with
      | none => rw [hd] at hu; cases hu
      | some d =>
        rw [hd] at hu
        refine Qar R (mkIf_bd h2) ?_
        unfold execOp
        simp only [ho, h1, Instr.makeInterface, Sem.run_bind, run_underlying hd w, Result.andThen_ok, mkIf_den]
        cases d <;> first | (cases hu; done) | rfl
    · cases h
  · -- typeAssert
    rename_i y xt t ok ho
    split at h
    · rename_i ty v hy
      cases hf : tasE P ty v t ok with
      | none => rw [hf] at h; cases h
      | some z =>
        rw [hf] at h
        simp only [Option.some.injEq, Prod.mk.injEq] at h
        obtain ⟨rfl, rfl⟩ := h
        obtain ⟨h1, h2⟩ := hρ y _ hy
        simp only [bd] at h2
        unfold tasE at hf
        split at hf
        · rename_i hu hb
          simp only [Option.some.injEq] at hf
          have ht : ty = t := Nat.eq_of_beq_eq_true hb
          subst ht
          cases hd : P.underlying ty with
          | none => rw [hd] at hu; cases hu
          | some d =>
            rw [hd] at hu
            have hr : (execOp a.eval o).run P w = .ok (.value (if ok then .tuple #[den B v, .bool true] else den B v)) w := by
              unfold execOp
              simp only [ho, h1, den, Instr.typeAssert, Sem.run_bind, run_underlying hd w, Result.andThen_ok]
              cases d <;> first | (cases hu; done) | (simp only [if_true]; rfl)
            cases ok with
            | true => simp only at hf; subst hf; exact Qar R (by simp [bd, bdL, h2]) (by rw [hr]; simp [den, Qaj])
            | false => simp only at hf; subst hf; exact Qar R h2 (by rw [hr]; simp)
        · cases hf
    · exact plain h
  · -- extract
    rename_i y ix ho
    split at h
    · rename_i cs hy
      cases hf : cs[ix]? with
      | none => rw [hf] at h; cases h
      | some z =>
        rw [hf] at h
        simp only [Option.some.injEq, Prod.mk.injEq] at h
        obtain ⟨rfl, rfl⟩ := h
        obtain ⟨h1, h2⟩ := hρ y _ hy
        simp only [bd] at h2
        have e : (Qaj B cs).toArray[ix]? = some (den B z) := by
          have hl := (List.getElem?_eq_some_iff.1 hf).1
          have e := (List.getElem?_eq_some_iff.1 hf).2
          simp [QaA, hl, e]
        exact Qar R (QaC.1 h2 z (List.mem_of_getElem? hf)) (by unfold execOp; simp only [ho, h1, den, Instr.extract, e, Sem.run_bind, Sem.run_pure, Result.andThen_ok])
    · exact plain h
  · -- pick
    rename_i c y z ho
    split at h
    · rename_i hc
      cases hy : ρ y with
      | none => rw [hy] at h; cases h
      | some v =>
        rw [hy] at h
        simp only [Option.some.injEq, Prod.mk.injEq] at h
        obtain ⟨rfl, rfl⟩ := h
        obtain ⟨h1, h2⟩ := hρ y _ hy
        have h3 := (hρ c _ hc).1
        exact Qar R h2 (by unfold execOp; simp only [ho, h1, h3, den, asBool, Sem.run_bind, Sem.run_pure, Result.andThen_ok, if_true])
    · rename_i hc
      cases hy : ρ z with
      | none => rw [hy] at h; cases h
      | some v =>
        rw [hy] at h
        simp only [Option.some.injEq, Prod.mk.injEq] at h
        obtain ⟨rfl, rfl⟩ := h
        obtain ⟨h1, h2⟩ := hρ z _ hy
        have h3 := (hρ c _ hc).1
        exact Qar R h2 (by unfold execOp; simp only [ho, h1, h3, den, asBool, Sem.run_bind, Sem.run_pure, Result.andThen_ok, Bool.false_eq_true, if_false])
    · cases h
  · -- nilCheck
    rename_i y ho
    split at h
    case h_6 => exact plain h
    all_goals
      rename_i hy
      simp only [Option.some.injEq, Prod.mk.injEq] at h
      obtain ⟨rfl, rfl⟩ := h
      obtain ⟨h1, h2⟩ := hρ y _ hy
      exact Qar R h2 (by unfold execOp; simp only [ho, h1, den]; rfl)
  · -- slice
    rename_i t y lo hi mx ho
    split at h
    · rename_i i off l c hy
      cases hf : Qj9 P ρ t (.s i off l c) lo hi mx with
      | none => rw [hf] at h; cases h
      | some z =>
        rw [hf] at h
        simp only [Option.some.injEq, Prod.mk.injEq] at h
        obtain ⟨rfl, rfl⟩ := h
        obtain ⟨h1, h2⟩ := hρ y _ hy
        obtain ⟨h3, h4⟩ := Qhn (w := w) hρ h2 hf
        exact Qar R h4 (by unfold execOp; simp only [ho, h1, Sem.run_bind, h3, Result.andThen_ok, Sem.run_pure])
    · rename_i i off l c hy
      cases hf : Qj9 P ρ t (.r i off l c) lo hi mx with
      | none => rw [hf] at h; cases h
      | some z =>
        rw [hf] at h
        simp only [Option.some.injEq, Prod.mk.injEq] at h
        obtain ⟨rfl, rfl⟩ := h
        obtain ⟨h1, h2⟩ := hρ y _ hy
        obtain ⟨h3, h4⟩ := Qhn (w := w) hρ h2 hf
        exact Qar R h4 (by unfold execOp; simp only [ho, h1, Sem.run_bind, h3, Result.andThen_ok, Sem.run_pure])
    · rename_i i off q hy
      cases hf : Qj9 P ρ t (.z i off q) lo hi mx with
      | none => rw [hf] at h; cases h
      | some z =>
        rw [hf] at h
        simp only [Option.some.injEq, Prod.mk.injEq] at h
        obtain ⟨rfl, rfl⟩ := h
        obtain ⟨h1, h2⟩ := hρ y _ hy
        obtain ⟨h3, h4⟩ := Qhn (w := w) hρ h2 hf
        exact Qar R h4 (by unfold execOp; simp only [ho, h1, Sem.run_bind, h3, Result.andThen_ok, Sem.run_pure])
    · exact plain h
  · -- eql
    rename_i ty y z yt ho
    cases hy : ρ y with
    | none => rw [hy] at h; simp at h
    | some u =>
      cases hz : ρ z with
      | none => rw [hy, hz] at h; simp at h
      | some v =>
        rw [hy, hz] at h
        simp only at h
        cases hn : QhF P ty u v with
        | false =>
          rw [hn] at h
          simp only at h
          cases he : eqE P ρ o ty y z false with
          | none => rw [he] at h; cases h
          | some q =>
            rw [he] at h
            simp only [Option.some.injEq, Prod.mk.injEq] at h
            obtain ⟨rfl, rfl⟩ := h
            exact eqE_ok R hρ (ne := false) ho he
        | true =>
          rw [hn] at h
          simp only [Option.some.injEq, Prod.mk.injEq] at h
          obtain ⟨rfl, rfl⟩ := h
          have h1 := (hρ y _ hy).1
          have h2 := (hρ z _ hz).1
          have hr := QgW hn B y z .eql (Or.inl rfl) w
          exact Qar R (by simp [bd]) (by unfold execOp; rw [ho]; simp only [h1, h2]; rw [Sem.run_bind, hr]; rfl)
  · -- neq
    rename_i ty y z yt ho
    cases hy : ρ y with
    | none => rw [hy] at h; simp at h
    | some u =>
      cases hz : ρ z with
      | none => rw [hy, hz] at h; simp at h
      | some v =>
        rw [hy, hz] at h
        simp only at h
        cases hn : QhF P ty u v with
        | false =>
          rw [hn] at h
          simp only at h
          cases he : eqE P ρ o ty y z true with
          | none => rw [he] at h; cases h
          | some q =>
            rw [he] at h
            simp only [Option.some.injEq, Prod.mk.injEq] at h
            obtain ⟨rfl, rfl⟩ := h
            exact eqE_ok R hρ (ne := true) ho he
        | true =>
          rw [hn] at h
          simp only [Option.some.injEq, Prod.mk.injEq] at h
          obtain ⟨rfl, rfl⟩ := h
          have h1 := (hρ y _ hy).1
          have h2 := (hρ z _ hz).1
          have hr := QgW hn B y z .neq (Or.inr rfl) w
          exact Qar R (by simp [bd]) (by unfold execOp; rw [ho]; simp only [h1, h2]; rw [Sem.run_bind, hr]; rfl)
  · -- makeSlice
    rename_i t l c ho
    split at h
    · rename_i lv cv hl hc ht
      split at h
      · rename_i x y hx hy
        cases hk : mkE P t x y with
        | none => rw [hk] at h; cases h
        | some k =>
          rw [hk] at h
          simp only [Option.some.injEq, Prod.mk.injEq] at h
          obtain ⟨rfl, rfl⟩ := h
          obtain ⟨kl, h1⟩ := QcC hx B
          obtain ⟨kc, h2⟩ := QcC hy B
          obtain ⟨hr, hz, hb⟩ := mkE_run B hk kl kc w
          have e1 := (hρ l _ hl).1.trans h1
          have e2 := (hρ c _ hc).1.trans h2
          refine Qiq R ht (hb _) (by simp [bd, ext]) hz hS (fun B' hB _ => ?_) (mkE_mp hk) (mkE_es hk)
          unfold execOp
          simp only [ho, e1, e2, Sem.run_bind, hr, Result.andThen_ok, Sem.run_pure, den, hB]
      · cases h
    · cases h
  · -- makeMap
    rename_i t ho
    exact mkmE_ok R hS ho h
  · -- insert
    rename_i t y k v ho
    exact insE_ok R hρ ho h
  · -- lookup
    rename_i t y k ok ho
    exact lkE_ok R hρ ho h
  · -- len
    rename_i y t ho
    have key : ∀ (ad : Option Addr) (l c : Nat) (e : TypeId), a.eval y = .slice ad l c → P.underlying t = some (.slice e) → (execOp a.eval o).run P w = .ok (.value (goInt l)) w := by
      intro ad l c e h1 hu
      unfold execOp
      simp only [ho, resolve, Sem.run_bind, Sem.run_pure, Result.andThen_ok, invoke, builtin, Builtin.len_, h1, List.map_toArray, List.map_cons, List.map_nil]
      simp [Sem.run_bind, run_underlying hu w, h1]
    split at h
    · rename_i i off l c e hy hu
      simp only [Option.some.injEq, Prod.mk.injEq] at h
      obtain ⟨rfl, rfl⟩ := h
      exact Qar R (by simp [bd]) (by rw [key _ _ _ _ ((hρ y _ hy).1.trans (by simp only [den]; rfl)) hu]; simp [den])
    · rename_i i off l c e hy hu
      simp only [Option.some.injEq, Prod.mk.injEq] at h
      obtain ⟨rfl, rfl⟩ := h
      exact Qar R (by simp [bd]) (by rw [key _ _ _ _ ((hρ y _ hy).1.trans (by simp only [den]; rfl)) hu]; simp [den])
    · rename_i i off q e hy hu
      simp only [Option.some.injEq, Prod.mk.injEq] at h
      obtain ⟨rfl, rfl⟩ := h
      exact Qar R (by simp [bd]) (by rw [key _ _ _ _ ((hρ y _ hy).1.trans (by simp only [den]; rfl)) hu]; simp [den])
    · exact plain h
  · exact plain h
end
abbrev OxFn := Program → Rho → Option SV
def xLoad (ty : TypeId) (x : Operand) : OxFn := fun P ρ => match ρ x with
  | some (.a i off) => ldE P ty (FC.cs i) off
  | _ => none
def xField (t : TypeId) (x : Operand) (f : Nat) : OxFn := fun P ρ => match ρ x with
  | some (.a i off) => match SX.fieldS P t f with
    | some q => some (.a i (off + q))
    | none => none
  | _ => none
def xIdx2 (i off : Nat) (q : Option Nat) : Option SV := match q with
  | some q => some (.a i (off + q))
  | none => none
def xIndex (t : TypeId) (x ix : Operand) : OxFn := fun P ρ => match ρ x, ρ ix with
  | some (.q i off l _), some iv => match Qgi iv with
    | some n => xIdx2 i off (idxE P t l n)
    | none => none
  | _, _ => none
def xNil (x : Operand) : OxFn := fun _ ρ => match ρ x with
  | some (.q i off l c) => some (.q i off l c)
  | some (.a i off) => some (.a i off)
  | _ => none
def xSlice (t : TypeId) (x : Operand) (lo hi mx : Option Operand) : OxFn := fun P ρ => match ρ x with
  | some (.q i off l c) => match P.underlying t, mx with
    | some (.slice elem), none => match QdT (hi.map ρ) l c, Qca P elem with
      | some h, some size => match QdT (lo.map ρ) 0 h with
        | some b => some (.q i (match Nat.beq c b with
          | true => off
          | false => off + b * size) (h - b) (c - b))
        | none => none
      | _, _ => none
    | _, _ => none
  | _ => none
def arrE (P : Program) (t : TypeId) : Option (Nat × TypeId) := match P.underlying t with
  | some (.array n elem) => some (n, elem)
  | some (.pointer arr) => match P.underlying arr with
    | some (.array n elem) => some (n, elem)
    | _ => none
  | _ => none
def offE (m l off size : Nat) : Nat := match Nat.beq m l with
  | true => off
  | false => off + l * size
def xSlP (t : TypeId) (x : Operand) (lo hi mx : Option Operand) : OxFn := fun P ρ => match ρ x with
  | some (.p i off) => match arrE P t, mx with
    | some (n, elem), none => match QdT (hi.map ρ) n n, Qca P elem with
      | some h, some size => match QdT (lo.map ρ) 0 h with
        | some b => some (.s i (offE n b off size) (h - b) (n - b))
        | none => none
      | _, _ => none
    | _, _ => none
  | _ => none
def xSl3 (t : TypeId) (x : Operand) (lo hi mx : Option Operand) : OxFn := fun P ρ => match P.underlying t, hi, mx with
  | some (.slice elem), some y, some z => match QdT (some (ρ z)) 0 (match ρ x with
      | some (.s _ _ _ c) => c
      | some (.r _ _ _ c) => c
      | _ => 0) with
    | some m => match QdT (some (ρ y)) 0 m, Qca P elem with
      | some h, some size => match QdT (lo.map ρ) 0 h with
        | some b => match ρ x with
          | some (.s i off l c) => some (.s i (offE m b off size) (h - b) (m - b))
          | some (.r i off l c) => some (.s i (offE m b off size) (h - b) (m - b))
          | _ => none
        | none => none
      | _, _ => none
    | none => none
  | _, _, _ => none
def xCall (c : Call) : OxFn := fun P ρ => match c with
  | ⟨.builtin .len, ⟨[x]⟩, ⟨[t]⟩⟩ => match ρ x, P.underlying t with
    | some (.q _ _ l _), some (.slice _) => some (.y (goInt l))
    | _, _ => none
  | _ => none
def opXf (P : Program) (ρ : Rho) (o : Op) : Option SV :=
  match o with
  | .load ty x => xLoad ty x P ρ
  | .fieldAddr t x f => xField t x f P ρ
  | .indexAddr t x ix => xIndex t x ix P ρ
  | .nilCheck x => xNil x P ρ
  | .slice t x lo hi mx => match xSlice t x lo hi mx P ρ with
    | some y => some y
    | none => match xSlP t x lo hi mx P ρ with
      | some y => some y
      | none => xSl3 t x lo hi mx P ρ
  | .call c => xCall c P ρ
  | _ => none
def Qha : List SV → Option (List Int)
  | [] => some []
  | .v (.int .u8 n) :: l => match Qha l with
    | some r => some (n :: r)
    | none => none
  | .y (.int .u8 n) :: l => match Qha l with
    | some r => some (n :: r)
    | none => none
  | _ => none
def byteS (ns : List Int) : ByteArray := ns.foldl (fun r n => r.push (UInt8.ofNat n.toNat)) ByteArray.empty
def cvB (P : Program) (src dst : TypeId) (ns : Option (List Int)) (l : Nat) : Option SV :=
  match P.underlying src, P.underlying dst with
  | some (.slice e), some .string => match P.underlying e, ns with
    | some (.int .u8), some ns => match Nat.beq ns.length l with
      | true => some (.v (.string (byteS ns)))
      | false => none
    | _, _ => none
  | _, _ => none
def QiU (m : Mm) (i off l : Nat) : List SV := match m.K.get i with
  | some k => (k.cs.drop off).take l
  | none => []
def opXm (P : Program) (ρ : Rho) (m : Mm) (o : Op) : Option SV :=
  match o with
  | .convert src dst x => match ρ x with
    | some (.s i off l _) => cvB P src dst (Qha (QiU m i off l)) l
    | some (.r i off l _) => cvB P src dst (Qha (QiU m i off l)) l
    | some (.z _ _ _) => cvB P src dst (some []) 0
    | _ => none
  | _ => none
def Qb8 (s : ByteArray) : List SV := s.data.toList.map fun b => .v (.int .u8 b.toNat)
def opXs (P : Program) (ρ : Rho) (m : Mm) (o : Op) : Option (SV × Mm) :=
  match o with
  | .convert src dst x => match ρ x, P.underlying src, P.underlying dst, Qay m.nx with
    | some (.v (.string s)), some .string, some (.slice e), true => match P.underlying e, Nat.ble s.size 100000 with
      | some (.int .u8), true => some (.r m.nx 0 s.size s.size, m.new ⟨e, Qb8 s, 1, false, [.v (.int .u8 0)]⟩)
      | _, _ => none
    | _, _, _, _ => none
  | _ => none
def itB (s : ByteArray) (p : Nat) : Bx := ⟨0, [], 0, true, [.v (.string s), .v (.int .i64 (.ofNat p))]⟩
def nxI (m : Mm) (i : Nat) (s : ByteArray) (p : Nat) : Bool → Option (SV × Mm)
  | true => some (.v (.tuple #[.bool true, goInt p, .int .i32 (Utf8.decode s p).1]), m.upd i (itB s (p + (Utf8.decode s p).2)))
  | false => some (.v (.tuple #[.bool false]), m)
def opXi (P : Program) (ρ : Rho) (m : Mm) (o : Op) : Option (SV × Mm) :=
  match o with
  | .range t x => match ρ x, P.underlying t, Qay m.nx with
    | some (.v (.string s)), some .string, true => some (.p m.nx 0, m.new (itB s 0))
    | _, _, _ => none
  | .next x true => match ρ x with
    | some (.p i 0) => match m.K.get i, Qay i with
      | some k, true => match k.mp, itO k.es with
        | true, some (s, p) => nxI m i s p (Nat.blt p s.size)
        | _, _ => none
      | _, _ => none
    | _ => none
  | _ => none
def opX (P : Program) (ρ : Rho) (m : Mm) (o : Oper) : Option (SV × Mm) := match opXf P ρ o.op with
  | some x => some (x, m)
  | none => match opXm P ρ m o.op with
    | some x => some (x, m)
    | none => match opXs P ρ m o.op with
      | some r => some r
      | none => opXi P ρ m o.op
def opE (P : Program) (ρ : Rho) (m : Mm) (o : Oper) : Option (SV × Mm) := match opE0 P ρ m o with
  | some r => some r
  | none => opX P ρ m o
section
variable {P : Program} {w0 : World} {F : List RF} {B : Pl} {S : Nat → Prop} {m m' : Mm} {a : Act} {w : World} {ρ : Rho} {o : Oper} {x : SV}
theorem FcAt.cell (h : FcAt w) {i j : Nat} {x : SV} (hx : (FC.cs i)[j]? = some x) (B : Pl) : w.cell? ⟨FC.b i, FC.o i + j, none⟩ = some (den B x) ∧ bd S x := by
  obtain ⟨h1, h2⟩ := h.2 i j x hx
  refine ⟨?_, QbU (fun _ h => h.elim) h2⟩
  rw [h1, QfX (S := fun _ => False) (B := B) (B' := fun _ => (0, 0)) (fun _ h => h.elim) h2]
theorem Re.fc (R : Re w0 F B m.K.get S w) : FcAt w := R.gr.2.grown R.gr.1
theorem FcAt.ld (hf : FcAt w) {ty : TypeId} {i off : Nat} {x : SV} (hx : ldE P ty (FC.cs i) off = some x) (B : Pl) :
    (loadVar ty ⟨FC.b i, FC.o i + off, none⟩).run P w = .ok (den B x) w ∧ bd S x := by
  have hb : bdL S (FC.cs i) := QaC.2 fun x hx => by
    obtain ⟨j, hj⟩ := List.getElem?_of_mem hx
    exact (hf.cell hj B).2
  unfold ldE at hx
  cases hu : P.underlying ty with
  | none => rw [hu] at hx; simp at hx
  | some d =>
    cases hi : (P.info? ty).map (·.size) with
    | none => rw [hu, hi] at hx; simp at hx
    | some n =>
      rw [hu, hi] at hx
      simp only at hx
      cases hd : d.isRow with
      | true =>
        rw [hd] at hx; simp only at hx
        cases hn : Nat.ble (off + n) (FC.cs i).length with
        | false => rw [hn] at hx; cases hx
        | true =>
          rw [hn] at hx
          simp only [Option.some.injEq] at hx
          subst hx
          have hn' : off + n ≤ (FC.cs i).length := by simpa using hn
          have hbt : bdL S (((FC.cs i).drop off).take n) := by
            simp only [QaC] at hb ⊢
            exact fun x hx => hb x (List.mem_of_mem_drop (List.mem_of_mem_take hx))
          refine ⟨?_, Qd5 hbt⟩
          rw [Qdh]
          refine run_loadVar_mid w (FC.b i) (FC.o i + off) ty _ d ?_ hu hd ?_
          · intro j x hj
            rw [QaA, List.getElem?_map] at hj
            cases hq : (((FC.cs i).drop off).take n)[j]? with
            | none => rw [hq] at hj; cases hj
            | some y =>
              rw [hq] at hj
              simp only [Option.map_some, Option.some.injEq] at hj
              subst hj
              rw [Nat.add_assoc]
              refine (hf.cell (S := S) ?_ B).1
              rw [List.getElem?_take] at hq
              split at hq
              · rw [List.getElem?_drop] at hq; exact hq
              · cases hq
          · rw [hi, Qab]; simp; omega
      | false =>
        rw [hd] at hx; simp only at hx
        have hagg : (isAgg ty).run P w = .ok false w := by
          unfold isAgg
          rw [Sem.run_bind, run_underlying hu w]
          cases d <;> simp_all
        refine ⟨?_, QaC.1 hb x (List.mem_of_getElem? hx)⟩
        unfold loadVar
        rw [Sem.run_bind, hagg]
        simp only [Result.andThen_ok, Bool.false_eq_true, if_false]
        simp only [load, Sem.run, (hf.cell (S := S) hx B).1]
theorem Qfu (B : Pl) : ∀ {l : List SV} {ns : List Int}, Qha l = some ns → Qaj B l = ns.map (Value.int .u8)
  | [], ns, h => by simp [Qha] at h; subst h; simp [Qaj]
  | x :: l, ns, h => by
    unfold Qha at h
    split at h
    · rename_i e; cases e
    · rename_i n l' e
      simp only [List.cons.injEq] at e
      obtain ⟨rfl, rfl⟩ := e
      split at h
      · rename_i r hr
        simp only [Option.some.injEq] at h
        subst h
        simp [Qaj, den, Qfu B hr]
      · cases h
    · rename_i n l' e
      simp only [List.cons.injEq] at e
      obtain ⟨rfl, rfl⟩ := e
      split at h
      · rename_i r hr
        simp only [Option.some.injEq] at h
        subst h
        simp [Qaj, den, Qfu B hr]
      · cases h
    · cases h
theorem Qly (R : Re w0 F B m.K.get S w) {src dst : TypeId} {ns : Option (List Int)} {l c b off : Nat} {y : Operand} (ho : o.op = .convert src dst y) (hy : a.eval y = .slice (some ⟨b, off, none⟩) l c)
    (hc : ∀ n, ns = some n → ∀ (j : Nat) (v : Value), (n.map (Value.int .u8))[j]? = some v → w.cell? ⟨b, off + j, none⟩ = some v) (hx : cvB P src dst ns l = some x) : Qeh P w0 F B S m.nx o a w x m := by
  unfold cvB at hx
  split at hx
  · rename_i e hs hd
    split at hx
    · rename_i n he
      split at hx
      · rename_i hl
        simp only [Option.some.injEq] at hx
        subst hx
        have hl' := Nat.eq_of_beq_eq_true hl
        refine Qar R (by simp [bd]) ?_
        have hld : (loadCells ⟨b, off, none⟩ l).run P w = .ok (n.map (Value.int .u8)).toArray w := by
          have := run_loadCells_list (P := P) w ⟨b, off, none⟩ (n.map (Value.int .u8)) (fun j v hv => by rw [Addr.add_mid]; exact hc n rfl j v hv)
          rw [List.length_map, hl'] at this
          exact this
        have hrun := run_bytesToString w ⟨b, off, none⟩ l c n hld
        unfold execOp
        simp only [ho, hy, Sem.run_bind, run_convert_bytes_string w src dst e _ l c hs he hd, hrun, Result.andThen_ok, Sem.run_pure, den]
        rfl
      · cases hx
    · cases hx
  · cases hx
theorem Qg5 (R : Re w0 F B m.K.get S w) {i off l : Nat} {n : List Int} (h : Qha (QiU m i off l) = some n) (j : Nat) (v : Value) (hv : (n.map (Value.int .u8))[j]? = some v) : w.cell? ⟨(B i).1, off + j, none⟩ = some v := by
  have hd := Qfu B h
  rw [← hd] at hv
  unfold QiU at hv
  cases hk : m.K.get i with
  | none => rw [hk] at hv; simp [Qaj] at hv
  | some k =>
    rw [hk] at hv
    simp only [QaA, List.getElem?_map] at hv
    cases hq : ((k.cs.drop off).take l)[j]? with
    | none => rw [hq] at hv; cases hv
    | some y =>
      rw [hq] at hv
      simp only [Option.map_some, Option.some.injEq] at hv
      subst hv
      refine R.cell hk ?_
      rw [List.getElem?_take] at hq
      split at hq
      · rw [List.getElem?_drop] at hq; exact hq
      · cases hq
theorem Qgf (b off m l size : Nat) : (⟨b, offE m l off size, none⟩ : Addr) = if m = l then ⟨b, off, none⟩ else (⟨b, off, none⟩ : Addr).add (l * size) := by
  unfold offE
  by_cases h : m = l
  · subst h; rw [if_pos rfl]; simp [Nat.beq_refl]
  · rw [if_neg h, Qdp h]; simp [QbC]
theorem bndsP_ok (hρ : Qbu B S a ρ) (w : World) {lo hi : Option Operand} {n hv lv : Nat} (hh : QdT (hi.map ρ) n n = some hv) (hl : QdT (lo.map ρ) 0 hv = some lv) :
    (Instr.sliceBounds false n n (lo.map a.eval) (hi.map a.eval) none).run P w = .ok (lv, hv, n) w := by
  unfold Instr.sliceBounds
  rcases Qb9 (P := P) hρ w hi n n hv hh with ⟨e1, e1'⟩ | ⟨v1, e1, _, f1⟩
  · rcases Qb9 (P := P) hρ w lo 0 hv lv hl with ⟨e2, e2'⟩ | ⟨v2, e2, _, f2⟩
    · rw [e1, e2, e1', e2']; rfl
    · rw [e1, e2]
      simp only [Sem.run_bind, Sem.run_pure, Result.andThen_ok]
      rw [← e1', f2 _ _ (Nat.le_refl _)]; rfl
  · rcases Qb9 (P := P) hρ w lo 0 hv lv hl with ⟨e2, e2'⟩ | ⟨v2, e2, _, f2⟩
    · rw [e1, e2, e2']
      simp only [Sem.run_bind, Sem.run_pure, Result.andThen_ok, f1 _ _ (Nat.le_refl _)]
    · rw [e1, e2]
      simp only [Sem.run_bind, Sem.run_pure, Result.andThen_ok, f1 _ _ (Nat.le_refl _), f2 _ _ (Nat.le_refl _)]
theorem xSlP_ok (R : Re w0 F B m.K.get S w) (hρ : Qbu B S a ρ) {t : TypeId} {y : Operand} {lo hi mx : Option Operand} (ho : o.op = .slice t y lo hi mx) (h : xSlP t y lo hi mx P ρ = some x) : Qeh P w0 F B S m.nx o a w x m := by
  unfold xSlP at h
  split at h
  · rename_i i off hy
    split at h
    · rename_i n elem he
      split at h
      · rename_i hv size hh hs
        split at h
        · rename_i lv hl
          simp only [Option.some.injEq] at h
          subst h
          obtain ⟨h1, h2⟩ := hρ y _ hy
          have hbs := bndsP_ok (P := P) hρ w hh hl
          refine Qar R (by simpa [bd] using h2) ?_
          unfold execOp
          unfold arrE at he
          split at he
          · rename_i n' e' hu
            simp only [Option.some.injEq, Prod.mk.injEq] at he
            obtain ⟨rfl, rfl⟩ := he
            simp only [ho, h1, den, Instr.sliceAt, Instr.sureAddr, Sem.run_bind, run_underlying hu w, Result.andThen_ok, Option.map_none, Sem.run_pure, hbs, QaT hs, Qgf]
          · rename_i arr hu
            split at he
            · rename_i n' e' hu2
              simp only [Option.some.injEq, Prod.mk.injEq] at he
              obtain ⟨rfl, rfl⟩ := he
              simp only [ho, h1, den, Instr.sliceAt, Instr.slice, asAddr, Sem.run_bind, run_underlying hu w, run_underlying hu2 w, Result.andThen_ok, Option.map_none, Sem.run_pure, hbs, QaT hs, Qgf]
            · cases he
          · cases he
        · cases h
      · cases h
    · cases h
  · cases h
theorem QiV (hρ : Qbu B S a ρ) (w : World) {lo : Option Operand} {y z : Operand} {l c c' m' hv lv : Nat} (hcc : c ≤ c') (hm : QdT (some (ρ z)) 0 c = some m') (hh : QdT (some (ρ y)) 0 m' = some hv) (hl : QdT (lo.map ρ) 0 hv = some lv) :
    (Instr.sliceBounds true l c' (lo.map a.eval) (some (a.eval y)) (some (a.eval z))).run P w = .ok (lv, hv, m') w := by
  unfold Instr.sliceBounds
  rcases Qb9 (P := P) hρ w (some z) 0 c m' hm with ⟨e0, _⟩ | ⟨v0, e0, _, f0⟩
  · simp at e0
  rcases Qb9 (P := P) hρ w (some y) 0 m' hv hh with ⟨e1, _⟩ | ⟨v1, e1, _, f1⟩
  · simp at e1
  simp only [Option.map_some, Option.some.injEq] at e0 e1
  rcases Qb9 (P := P) hρ w lo 0 hv lv hl with ⟨e2, e2'⟩ | ⟨v2, e2, _, f2⟩
  · rw [e0, e1, e2, e2']
    simp only [Sem.run_bind, Sem.run_pure, Result.andThen_ok, f0 _ _ hcc, f1 _ _ (Nat.le_refl _)]
  · rw [e0, e1, e2]
    simp only [Sem.run_bind, Sem.run_pure, Result.andThen_ok, f0 _ _ hcc, f1 _ _ (Nat.le_refl _), f2 _ _ (Nat.le_refl _)]
theorem xSl3_ok (R : Re w0 F B m.K.get S w) (hρ : Qbu B S a ρ) {t : TypeId} {y : Operand} {lo hi mx : Option Operand} (ho : o.op = .slice t y lo hi mx) (h : xSl3 t y lo hi mx P ρ = some x) : Qeh P w0 F B S m.nx o a w x m := by
  unfold xSl3 at h
  split at h
  · rename_i elem y' z' hu
    split at h
    · rename_i m' hm
      split at h
      · rename_i hv size hh hs
        split at h
        · rename_i lv hl
          split at h
          · rename_i i off l c hy
            replace hm : QdT (some (ρ z')) 0 c = some m' := by rw [hy] at hm; exact hm
            simp only [Option.some.injEq] at h
            subst h
            obtain ⟨h1, h2⟩ := hρ y _ hy
            have hbs := QiV (P := P) (l := l) hρ w (Nat.le_refl c) hm hh hl
            refine Qar R (by simpa [bd] using h2) ?_
            unfold execOp
            simp only [ho, h1, den, Instr.sliceAt, Instr.slice, Sem.run_bind, run_underlying hu w, Result.andThen_ok, Option.map_some, Option.map_none, Sem.run_pure, hbs, QaT hs, Qgf]
            by_cases e : m' = lv <;> simp [e]
          · rename_i i off l c hy
            replace hm : QdT (some (ρ z')) 0 c = some m' := by rw [hy] at hm; exact hm
            simp only [Option.some.injEq] at h
            subst h
            obtain ⟨h1, h2⟩ := hρ y _ hy
            have hbs := QiV (P := P) (l := l) hρ w (c' := (B i).2 + c) (by omega) hm hh hl
            refine Qar R (by simpa [bd] using h2) ?_
            unfold execOp
            simp only [ho, h1, den, Instr.sliceAt, Instr.slice, Sem.run_bind, run_underlying hu w, Result.andThen_ok, Option.map_some, Option.map_none, Sem.run_pure, hbs, QaT hs, Qgf]
            by_cases e : m' = lv <;> simp [e]
          · cases h
        · cases h
      · cases h
    · cases h
  · cases h
theorem QeX (B : Pl) (s : ByteArray) : Qaj B (Qb8 s) = s.data.toList.map fun b => Value.int .u8 b.toNat := by
  rw [QaA]
  unfold Qb8
  rw [List.map_map]
  apply List.map_congr_left
  intro b _
  simp [den]
theorem Qi_ (S : Nat → Prop) (s : ByteArray) : bdL S (Qb8 s) := by
  refine QaC.2 fun x hx => ?_
  unfold Qb8 at hx
  obtain ⟨b, _, rfl⟩ := List.mem_map.1 hx
  simp [bd]
theorem Qjc (hS : ∀ j, S j → j < m.nx) (R : Re w0 F B m.K.get S w) (hρ : Qbu B S a ρ) (h : opXs P ρ m o.op = some (x, m')) : Qeh P w0 F B S m.nx o a w x m' := by
  unfold opXs at h
  split at h
  · rename_i src dst y ho
    split at h
    · rename_i s e hy hs hd ht
      split at h
      · rename_i he hn
        simp only [Option.some.injEq, Prod.mk.injEq] at h
        obtain ⟨rfl, rfl⟩ := h
        have hn' : s.size ≤ 100000 := by simpa using hn
        have hml : (100000 : Nat) ≤ maxLen := by unfold maxLen; omega
        obtain ⟨e1, -⟩ := hρ _ _ hy
        simp only [den] at e1
        have hr := run_bytes_of_string (P := P) w src dst e s hs hd he
        have hge := grownCap_ge w s.size 0 e
        have hcm : grownCap w s.size 0 e ≤ maxLen := grownCap_le_maxLen w s.size 0 e (by omega)
        have hdr : Re w0 F B m.K.get S w.drew := R.below ⟨rfl, rfl, rfl, Nat.le_refl _, fun _ _ => rfl⟩
        have hsl : (Qb8 s).length = s.size := by unfold Qb8; rw [List.length_map, Array.length_toList]; rfl
        obtain ⟨h1, h2⟩ := hdr.new ⟨e, Qb8 s, 1, false, [.v (.int .u8 0)]⟩ (List.replicate (grownCap w s.size 0 e - s.size) (.int .u8 0)) (grownCap w s.size 0 e - s.size) ⟨Qi_ S s, fun e => by cases e⟩ ⟨by simp, Or.inr (by
          simp only [hsl]; omega)⟩ hS
        have ha : (Qaj B (Qb8 s) ++ List.replicate (grownCap w s.size 0 e - s.size) (Value.int .u8 0)).toArray = bytesRow s (grownCap w s.size 0 e) := by
          apply Array.ext'; simp [QeX, bytesRow]
        have hl : (Qaj B (Qb8 s) ++ List.replicate (grownCap w s.size 0 e - s.size) (Value.int .u8 0)).length = (bytesRow s (grownCap w s.size 0 e)).size := by rw [← ha]; simp
        simp only [Qcb, fzOf, ha, hl] at h1
        refine ⟨_, _, _, (?_ : (execOp a.eval o).run P w = .ok (.value (.slice (some ⟨w.heap.size, 0, none⟩) s.size (grownCap w s.size 0 e))) (w.drew.alloc (.cells (bytesRow s (grownCap w s.size 0 e)) e ((bytesRow s (grownCap w s.size 0 e)).size, (bytesRow s (grownCap w s.size 0 e)).size + 1)))), Or.inl ?_, h2, by simp [Mm.new], ?_, by simp [bd, Mm.new, ext]⟩
        · unfold execOp
          simp only [ho, e1, Sem.run_bind, hr, Result.andThen_ok, Sem.run_pure]
        · simp only [den, QbD, if_true]
          congr 2
          omega
        · unfold Mm.new
          simp only [Tr.get_set ht]
          exact h1
      · cases h
    · cases h
  · cases h
theorem objOf_it (B : Pl) (s : ByteArray) (p : Nat) (rest : List Value) : Qcb B (itB s p) rest = .stringIter s p := rfl
theorem itB_bd (S : Nat → Prop) (s : ByteArray) (p : Nat) : bdK S (itB s p) := ⟨by simp [itB, bdL], fun _ => ⟨rfl, rfl, by simp [itB, bdL, bd]⟩⟩
theorem Qjd (hS : ∀ j, S j → j < m.nx) (R : Re w0 F B m.K.get S w) (hρ : Qbu B S a ρ) (h : opXi P ρ m o.op = some (x, m')) : Qeh P w0 F B S m.nx o a w x m' := by
  unfold opXi at h
  split at h
  · rename_i t y ho
    split at h
    · rename_i s hy hu ht
      simp only [Option.some.injEq, Prod.mk.injEq] at h
      obtain ⟨rfl, rfl⟩ := h
      obtain ⟨e1, -⟩ := hρ _ _ hy
      simp only [den] at e1
      obtain ⟨h1, h2⟩ := R.new (itB s 0) [] 0 (itB_bd S s 0) (by simp [Qe5, itB]) hS
      refine ⟨.value (.pointer (some ⟨w.heap.size, 0, none⟩)), w.alloc (.stringIter s 0), _, ?_, Or.inl (by simp [den, QbD]), h2, by simp [Mm.new], ?_, by simp [bd, Mm.new, ext]⟩
      · unfold execOp
        simp only [ho, e1]
        unfold Instr.range
        simp only [Sem.run_bind, run_underlying hu w, Result.andThen_ok, Sem.run_pure]
        rfl
      · unfold Mm.new
        simp only [Tr.get_set ht]
        exact h1
    · cases h
  · rename_i y ho
    split at h
    · rename_i i hy
      split at h
      · rename_i k hk ht
        split at h
        · rename_i s p hmp hit
          obtain ⟨e1, hb⟩ := hρ _ _ hy
          simp only [den] at e1
          obtain ⟨_, hbk, rest, ⟨hr1, _⟩, hh⟩ := R.bx i k hk
          unfold Qcb at hh
          rw [hmp] at hh
          simp only [objM, hit] at hh
          have hg : (getObj (B i).1).run P w = .ok (.stringIter s p) w := by simp only [getObj, Sem.run, hh]
          have hlt := R.lt hk
          cases hp : Nat.blt p s.size with
          | false =>
            rw [hp] at h
            simp only [nxI, Option.some.injEq, Prod.mk.injEq] at h
            obtain ⟨rfl, rfl⟩ := h
            have hp' : ¬ p < s.size := fun hlt' => by
              have : Nat.blt p s.size = true := by rw [Nat.blt, Nat.ble_eq]; exact hlt'
              rw [hp] at this; cases this
            refine Qar R (by simp [bd]) ?_
            unfold execOp
            simp only [ho, e1]
            unfold Instr.next
            simp only [Sem.run_bind, hg, Result.andThen_ok, if_neg hp', Sem.run_pure, den]
          | true =>
            rw [hp] at h
            simp only [nxI, Option.some.injEq, Prod.mk.injEq] at h
            obtain ⟨rfl, rfl⟩ := h
            have hp' : p < s.size := by rw [Nat.blt, Nat.ble_eq] at hp; exact hp
            have hso : (setObj (B i).1 (.stringIter s (p + (Utf8.decode s p).2))).run P w = .ok () { w with heap := w.heap.setIfInBounds (B i).1 (.stringIter s (p + (Utf8.decode s p).2)) } := by simp only [setObj, Sem.run, hh]
            refine ⟨.value (.tuple #[.bool true, goInt p, .int .i32 (Utf8.decode s p).1]), { w with heap := w.heap.setIfInBounds (B i).1 (.stringIter s (p + (Utf8.decode s p).2)) }, B, ?_, Or.inl (by simp [den]), Ag.refl _ _ _, Nat.le_refl _, ?_, by simp [bd]⟩
            · unfold execOp
              simp only [ho, e1]
              unfold Instr.next
              simp only [Sem.run_bind, hg, Result.andThen_ok, if_pos hp', hso, Sem.run_pure]
            · simp only [Mm.upd, Tr.get_set ht]
              rw [Qai]
              refine R.put hk (k' := itB s (p + (Utf8.decode s p).2)) (rest := []) ⟨rfl, rfl, rfl, by simp, fun j hj hne => ?_⟩ (itB_bd S s _) (by simp [Qe5, itB]) ?_
              · simp only [Array.getElem?_setIfInBounds]
                rw [if_neg (fun e => hne (by rw [e]))]
              · simp [Array.getElem?_setIfInBounds, hlt, objOf_it]
        · cases h
      · cases h
    · cases h
  · cases h
theorem QkG (hS : ∀ j, S j → j < m.nx) (R : Re w0 F B m.K.get S w) (hρ : Qbu B S a ρ) (h : opX P ρ m o = some (x, m')) : Qeh P w0 F B S m.nx o a w x m' := by
  unfold opX at h
  split at h
  · rename_i x0 hx
    simp only [Option.some.injEq, Prod.mk.injEq] at h
    obtain ⟨rfl, rfl⟩ := h
    unfold opXf at hx
    split at hx
    · -- load
      rename_i ty y ho
      unfold xLoad at hx
      split at hx
      · rename_i i off hy
        obtain ⟨h1, h2⟩ := hρ y _ hy
        obtain ⟨h3, h4⟩ := R.fc.ld (S := S) hx B
        exact Qar R h4 (by unfold execOp; simp only [ho, h1, den, Instr.loadAt, Instr.sureAddr, Sem.run_bind, Sem.run_pure, Result.andThen_ok, h3])
      · cases hx
    · -- fieldAddr
      rename_i t y f ho
      unfold xField at hx
      split at hx
      · rename_i i off hy
        split at hx
        · rename_i q hf
          simp only [Option.some.injEq] at hx
          subst hx
          obtain ⟨h1, h2⟩ := hρ y _ hy
          exact Qar R (by simp [bd]) (by unfold execOp; simp only [ho, h1, den, Sem.run_bind, SX.fieldS_run hf, Result.andThen_ok, Sem.run_pure, Nat.add_assoc])
        · cases hx
      · cases hx
    · -- indexAddr
      rename_i t y ix ho
      unfold xIndex at hx
      split at hx
      · rename_i i off l c iv hy hi
        split at hx
        · rename_i n hn
          unfold xIdx2 at hx
          split at hx
          · rename_i q hq
            simp only [Option.some.injEq] at hx
            subst hx
            obtain ⟨he, _⟩ := hρ y _ hy
            obtain ⟨k, hk⟩ := QcC hn B
            have h4 := (hρ ix _ hi).1.trans hk
            refine Qar R (by simp [bd]) ?_
            unfold idxE at hq
            cases hu : P.underlying t with
            | none => rw [hu] at hq; cases hq
            | some d =>
              rw [hu] at hq
              cases d <;> (try (cases hq; done))
              rename_i elem
              simp only at hq
              cases hn : Nat.blt n l with
              | false => rw [hn] at hq; cases hq
              | true =>
                cases hs : Qca P elem with
                | none => rw [hn, hs] at hq; cases hq
                | some size =>
                  rw [hn, hs] at hq
                  simp only [Option.some.injEq] at hq
                  subst hq
                  have hlt : n < l := by rw [Nat.blt, Nat.ble_eq] at hn; exact hn
                  unfold execOp
                  simp only [ho, he, h4, den, Instr.indexAt, asIntOf, Sem.run_bind, Sem.run_pure, Result.andThen_ok, run_underlying hu w]
                  rw [if_pos ⟨by simp, by simpa using hlt⟩]
                  simp only [Sem.run_bind, QaT hs, Result.andThen_ok, Sem.run_pure, den, QbC, Nat.add_assoc]
                  rfl
          · cases hx
        · cases hx
      · cases hx
    · -- nilCheck
      rename_i y ho
      unfold xNil at hx
      split at hx
      · rename_i hy
        simp only [Option.some.injEq] at hx
        subst hx
        obtain ⟨h1, h2⟩ := hρ y _ hy
        exact Qar R h2 (by unfold execOp; simp only [ho, h1, den]; rfl)
      · rename_i hy
        simp only [Option.some.injEq] at hx
        subst hx
        obtain ⟨h1, h2⟩ := hρ y _ hy
        exact Qar R h2 (by unfold execOp; simp only [ho, h1, den]; rfl)
      · cases hx
    · -- slice
      rename_i t y lo hi mx ho
      split at hx
      rotate_left
      · split at hx
        · rename_i y' hy'
          simp only [Option.some.injEq] at hx
          subst hx
          exact xSlP_ok R hρ ho hy'
        · exact xSl3_ok R hρ ho hx
      rename_i y' hx'
      simp only [Option.some.injEq] at hx
      subst hx
      revert hx'
      intro hx
      unfold xSlice at hx
      split at hx
      · rename_i i off l c hy
        split at hx
        · rename_i elem hu
          split at hx
          · rename_i hv size hh hs
            split at hx
            · rename_i lv hl
              simp only [Option.some.injEq] at hx
              subst hx
              obtain ⟨h1, h2⟩ := hρ y _ hy
              have hbs := Qgx (P := P) hρ w (Nat.le_refl c) hh hl
              refine Qar R (by simp [bd]) ?_
              unfold execOp
              simp only [ho, h1, den, Instr.sliceAt, Sem.run_bind, run_underlying hu w, Result.andThen_ok, Instr.slice, Option.map_none, Sem.run_pure, hbs, QaT hs]
              congr 3
              by_cases hc : c = lv
              · subst hc
                rw [if_pos rfl]
                simp [Nat.beq_refl]
              · rw [if_neg hc, Qdp hc]
                simp [QbC, Nat.add_assoc]
            · cases hx
          · cases hx
        · cases hx
      · cases hx
    · -- len
      rename_i c ho
      unfold xCall at hx
      split at hx
      · rename_i y t
        split at hx
        · rename_i i off l c e hy hu
          simp only [Option.some.injEq] at hx
          subst hx
          obtain ⟨h1, _⟩ := hρ y _ hy
          simp only [den] at h1
          refine Qar R (by simp [bd]) ?_
          unfold execOp
          simp only [ho, resolve, Sem.run_bind, Sem.run_pure, Result.andThen_ok, invoke, builtin, Builtin.len_, h1, List.map_toArray, List.map_cons, List.map_nil]
          simp [Sem.run_bind, run_underlying hu w, h1, den]
        · cases hx
      · cases hx
    · cases hx
  · split at h
    · rename_i x0 hx
      simp only [Option.some.injEq, Prod.mk.injEq] at h
      obtain ⟨rfl, rfl⟩ := h
      unfold opXm at hx
      split at hx
      · rename_i src dst y ho
        split at hx
        · rename_i i off l c hy
          have h1 := (hρ y _ hy).1
          simp only [den] at h1
          exact Qly R ho h1 (fun n hn j v hv => Qg5 R hn j v hv) hx
        · rename_i i off l c hy
          have h1 := (hρ y _ hy).1
          simp only [den] at h1
          exact Qly R ho h1 (fun n hn j v hv => Qg5 R hn j v hv) hx
        · rename_i i off c hy
          have h1 := (hρ y _ hy).1
          simp only [den] at h1
          exact Qly R ho h1 (fun n hn j v hv => by cases hn; simp at hv) hx
        · cases hx
      · cases hx
    · split at h
      · rename_i r hr
        simp only [Option.some.injEq] at h
        subst h
        exact Qjc hS R hρ hr
      · exact Qjd hS R hρ h
theorem QcM (hS : ∀ j, S j → j < m.nx) (R : Re w0 F B m.K.get S w) (hρ : Qbu B S a ρ) (h : opE P ρ m o = some (x, m')) : Qeh P w0 F B S m.nx o a w x m' := by
  unfold opE at h
  split at h
  · rename_i r hr
    simp only [Option.some.injEq] at h
    subst h
    exact Qje hS R hρ hr
  · exact QkG hS R hρ h
end
end Go.Proofs.Ytfhmdlihnidjoaa.EX
