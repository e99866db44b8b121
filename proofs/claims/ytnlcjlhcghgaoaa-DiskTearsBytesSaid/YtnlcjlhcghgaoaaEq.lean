
/-
  Runs by computation: the same machine in small pieces, so that the kernel opens little at each move.
-/
import Derived.Test.YtnlcjlhcghgaoaaEo
namespace Go.Proofs.Ytnlcjlhcghgaoaa.EX
open Go Go.RowKit
set_option linter.unusedVariables false
set_option linter.unusedSimpArgs false
set_option linter.unusedSectionVars false
set_option maxRecDepth 10000
variable [FC]

/-! ### One operation -/
def oRet (x : Option SV) (m : Mm) : Option (SV × Mm) := match x with
  | some v => some (v, m)
  | none => none
def oLoad2 (P : Program) (m : Mm) (ty : TypeId) (i off : Nat) : Option (SV × Mm) := match m.K.get i with
  | some k => oRet (ldE P ty k.cs off) m
  | none => none
def oLoad (P : Program) (m : Mm) (ty : TypeId) (x : Option SV) : Option (SV × Mm) := match x with
  | some (.p i off) => oLoad2 P m ty i off
  | _ => none
def oStore3 (m : Mm) (i : Nat) (k : Bx) (cs : Option (List SV)) : Option (SV × Mm) := match cs with
  | some cs => some (.v undef, m.upd i ⟨k.ty, cs, k.sz, k.mp, k.es⟩)
  | none => none
def oStore2 (P : Program) (m : Mm) (ty : TypeId) (i off : Nat) (v : SV) : Option (SV × Mm) := match m.K.get i, tinyB i with
  | some k, true => oStore3 m i k (stE P ty k.cs off v)
  | _, _ => none
def oStore (P : Program) (m : Mm) (ty : TypeId) (x y : Option SV) : Option (SV × Mm) := match x, y with
  | some (.p i off), some v => oStore2 P m ty i off v
  | _, _ => none
def oAlloc (m : Mm) (ty : TypeId) (z : Option (List Value)) (b : Bool) : Option (SV × Mm) := match z, b with
  | some cs, true => some (.p m.nx 0, m.new ⟨ty, cs.map .v, 0, false, []⟩)
  | _, _ => none
def oBox (m : Mm) (ty : TypeId) (z : Option SV) (b : Bool) : Option (SV × Mm) := match z, b with
  | some v, true => some (.p m.nx 0, m.new ⟨ty, cellsE v, 0, false, []⟩)
  | _, _ => none
def oBuild (P : Program) (ρ : Rho) (m : Mm) (o : Oper) (t : TypeId) (parts : Array (Nat × Operand)) : Option (SV × Mm) := match rawOnly P ρ o with
  | some x => some (x, m)
  | none => match valsE ρ (parts.toList.map (·.2)) with
    | some vs => match bldE P t ((parts.toList.map (·.1)).zip vs) with
      | some cs => some (mkAgg cs, m)
      | none => none
    | none => none
def oBuildSlice (P : Program) (ρ : Rho) (m : Mm) (t : TypeId) (len : Nat) (parts : Array (Nat × Operand)) : Option (SV × Mm) := match valsE ρ (parts.toList.map (·.2)), tinyB m.nx with
  | some vs, true => match bslE P t len ((parts.toList.map (·.1)).zip vs) with
    | some k => some (.s m.nx 0 len len, m.new k)
    | none => none
  | _, _ => none
def oFieldAddr (P : Program) (m : Mm) (t : TypeId) (f : Nat) (x : Option SV) : Option (SV × Mm) := match x with
  | some (.p i off) => match SX.fieldS P t f with
    | some q => some (.p i (off + q), m)
    | none => none
  | _ => none
def oIdx (i off : Nat) (m : Mm) (q : Option Nat) : Option (SV × Mm) := match q with
  | some q => some (.p i (off + q), m)
  | none => none
def oIndexAddr (P : Program) (m : Mm) (t : TypeId) (x y : Option SV) : Option (SV × Mm) := match x, y with
  | some (.s i off l _), some iv => match natE iv with
    | some n => oIdx i off m (idxE P t l n)
    | none => none
  | some (.r i off l _), some iv => match natE iv with
    | some n => oIdx i off m (idxE P t l n)
    | none => none
  | some (.p i off), some iv => match natE iv with
    | some n => oIdx i off m (aidxE P t n)
    | none => none
  | _, _ => none
def oMakeFunc (fn : FuncId) (a b : Option (List SV)) (m : Mm) : Option (SV × Mm) := match a, b with
  | some a, some b => some (.f fn a b, m)
  | _, _ => none
def oField (P : Program) (ρ : Rho) (m : Mm) (o : Oper) (t : TypeId) (f : Nat) (x : Option SV) : Option (SV × Mm) := match x with
  | some (.g cs) => oRet (fldE P t cs f) m
  | _ => oRet (plainE P ρ o) m
def oMakeIf (P : Program) (m : Mm) (ty : TypeId) (x : Option SV) : Option (SV × Mm) := match x, (P.underlying ty).map isIfc with
  | some v, some false => some (mkIf ty v, m)
  | _, _ => none
def oAssert (P : Program) (ρ : Rho) (m : Mm) (o : Oper) (t : TypeId) (ok : Bool) (x : Option SV) : Option (SV × Mm) := match x with
  | some (.e ty v) => oRet (tasE P ty v t ok) m
  | _ => oRet (plainE P ρ o) m
def oExtract (P : Program) (ρ : Rho) (m : Mm) (o : Oper) (ix : Nat) (x : Option SV) : Option (SV × Mm) := match x with
  | some (.t cs) => oRet (cs[ix]?) m
  | _ => oRet (plainE P ρ o) m
def oPick (m : Mm) (c x y : Option SV) : Option (SV × Mm) := match c with
  | some (.v (.bool true)) => oRet x m
  | some (.v (.bool false)) => oRet y m
  | _ => none
def oNil (P : Program) (ρ : Rho) (m : Mm) (o : Oper) (x : Option SV) : Option (SV × Mm) := match x with
  | some (.p i off) => some (.p i off, m)
  | some (.s i off l c) => some (.s i off l c, m)
  | some (.r i off l c) => some (.r i off l c, m)
  | some (.f g a b) => some (.f g a b, m)
  | some (.e t v) => some (.e t v, m)
  | _ => oRet (plainE P ρ o) m
def oSlice (P : Program) (ρ : Rho) (m : Mm) (o : Oper) (t : TypeId) (lo hi mx : Option Operand) (x : Option SV) : Option (SV × Mm) := match x with
  | some (.s i off l c) => oRet (slcE P ρ t (.s i off l c) lo hi mx) m
  | some (.r i off l c) => oRet (slcE P ρ t (.r i off l c) lo hi mx) m
  | some (.z i off q) => oRet (slcE P ρ t (.z i off q) lo hi mx) m
  | _ => oRet (plainE P ρ o) m
def oEq2 (P : Program) (ρ : Rho) (m : Mm) (o : Oper) (ty : TypeId) (x y : Operand) (z : Bool) (b : Bool) : Option (SV × Mm) := match b with
  | true => some (.v (.bool z), m)
  | false => oRet (eqE P ρ o ty x y z) m
def oEq (P : Program) (ρ : Rho) (m : Mm) (o : Oper) (ty : TypeId) (z : Bool) (xo yo : Operand) (x y : Option SV) : Option (SV × Mm) := match x, y with
  | some u, some v => oEq2 P ρ m o ty xo yo z (isNil P ty u v)
  | _, _ => none
def oBin (P : Program) (ρ : Rho) (m : Mm) (o : Oper) (b : BinOp) (ty : TypeId) (x y : Operand) : Option (SV × Mm) := match b with
  | .eql => oEq P ρ m o ty false x y (ρ x) (ρ y)
  | .neq => oEq P ρ m o ty true x y (ρ x) (ρ y)
  | _ => oRet (plainE P ρ o) m
def oMake2 (P : Program) (m : Mm) (t : TypeId) (a b : Option Nat) : Option (SV × Mm) := match a, b with
  | some a, some b => match mkE P t a b with
    | some k => some (.s m.nx 0 a b, m.new k)
    | none => none
  | _, _ => none
def oMake (P : Program) (m : Mm) (t : TypeId) (l c : Option SV) (b : Bool) : Option (SV × Mm) := match l, c, b with
  | some lv, some cv, true => oMake2 P m t (natE lv) (natE cv)
  | _, _, _ => none
def oLen (P : Program) (ρ : Rho) (m : Mm) (o : Oper) (x : Option SV) (d : Option TypeDesc) : Option (SV × Mm) := match x, d with
  | some (.s _ _ l _), some (.slice _) => some (.v (goInt l), m)
  | some (.r _ _ l _), some (.slice _) => some (.v (goInt l), m)
  | some (.z _ _ _), some (.slice _) => some (.v (goInt (0 : Nat)), m)
  | _, _ => oRet (plainE P ρ o) m
def oCall (P : Program) (ρ : Rho) (m : Mm) (o : Oper) (c : Call) : Option (SV × Mm) := match c with
  | ⟨.builtin .len, ⟨[x]⟩, ⟨[t]⟩⟩ => oLen P ρ m o (ρ x) (P.underlying t)
  | _ => oRet (plainE P ρ o) m
def oFn (P : Program) (ρ : Rho) (m : Mm) (o : Oper) (fn : Fn) (first caps : Array Operand) : Option (SV × Mm) := match fn with
  | .func fn => oMakeFunc fn (valsE ρ first.toList) (valsE ρ caps.toList) m
  | _ => oRet (plainE P ρ o) m
/-! The table of operations: its rows speak of nothing, so that the kernel copies none of them. -/
abbrev OpFn := Program → Rho → Mm → Oper → Option (SV × Mm)
def kPlain : OpFn := fun P ρ m o => oRet (plainE P ρ o) m
def kMove (x : Operand) : OpFn := fun _ ρ m _ => oRet (ρ x) m
def kPick (c x y : Operand) : OpFn := fun _ ρ m _ => oPick m (ρ c) (ρ x) (ρ y)
def kAlloc (ty : TypeId) : OpFn := fun P _ m _ => oAlloc m ty (SX.zeroS P ty) (tinyB m.nx)
def kBox (ty : TypeId) (x : Operand) : OpFn := fun _ ρ m _ => oBox m ty (ρ x) (tinyB m.nx)
def kBuild (t : TypeId) (parts : Array (Nat × Operand)) : OpFn := fun P ρ m o => oBuild P ρ m o t parts
def kBuildSlice (t : TypeId) (len : Nat) (parts : Array (Nat × Operand)) : OpFn := fun P ρ m _ => oBuildSlice P ρ m t len parts
def kPlain4 (_ : TypeId) (_ _ _ : Operand) : OpFn := kPlain
def kInsert (t : TypeId) (x k v : Operand) : OpFn := fun P ρ m _ => insE P m t (ρ x) (ρ k) (ρ v)
def kLoad (ty : TypeId) (x : Operand) : OpFn := fun P ρ m _ => oLoad P m ty (ρ x)
def kStore (ty : TypeId) (x y : Operand) : OpFn := fun P ρ m _ => oStore P m ty (ρ x) (ρ y)
def kPlainN (_ : Nat) : OpFn := kPlain
def kNil (x : Operand) : OpFn := fun P ρ m o => oNil P ρ m o (ρ x)
def kBin (b : BinOp) (ty : TypeId) (x y : Operand) (_ : TypeId) : OpFn := fun P ρ m o => oBin P ρ m o b ty x y
def kUn (_ : UnOp) (_ : TypeId) (_ : Operand) : OpFn := kPlain
def kConv (_ _ : TypeId) (_ : Operand) : OpFn := kPlain
def kArr (_ : TypeId) (_ : Operand) : OpFn := kPlain
def kMakeIf (ty : TypeId) (x : Operand) : OpFn := fun P ρ m _ => oMakeIf P m ty (ρ x)
def kFn (fn : Fn) (first caps : Array Operand) : OpFn := fun P ρ m o => oFn P ρ m o fn first caps
def kMakeMap (t : TypeId) (r : Option Operand) : OpFn := fun P ρ m o => match r with
  | none => mkmE m t (tinyB m.nx)
  | some _ => oRet (plainE P ρ o) m
def kMake (t : TypeId) (l c : Operand) : OpFn := fun P ρ m _ => oMake P m t (ρ l) (ρ c) (tinyB m.nx)
def kSlice (t : TypeId) (x : Operand) (lo hi mx : Option Operand) : OpFn := fun P ρ m o => oSlice P ρ m o t lo hi mx (ρ x)
def kFieldAddr (t : TypeId) (x : Operand) (f : Nat) : OpFn := fun P ρ m _ => oFieldAddr P m t f (ρ x)
def kField (t : TypeId) (x : Operand) (f : Nat) : OpFn := fun P ρ m o => oField P ρ m o t f (ρ x)
def kIndexAddr (t : TypeId) (x ix : Operand) : OpFn := fun P ρ m _ => oIndexAddr P m t (ρ x) (ρ ix)
def kPlainT (_ : TypeId) (_ _ : Operand) : OpFn := kPlain
def oIndex (P : Program) (ρ : Rho) (m : Mm) (o : Oper) (t : TypeId) (ix : Operand) (x : Option SV) : Option (SV × Mm) := match x with
  | some (.g cs) => oRet (elX P t cs (ρ ix)) m
  | _ => oRet (plainE P ρ o) m
def kIndex (t : TypeId) (x ix : Operand) : OpFn := fun P ρ m o => oIndex P ρ m o t ix (ρ x)
def kLookup (t : TypeId) (x ix : Operand) (ok : Bool) : OpFn := fun P ρ m _ => lkE P m t (ρ x) (ρ ix) ok
def kNext (_ : Operand) (_ : Bool) : OpFn := kPlain
def kEntry (_ : Operand) : OpFn := kPlain
def kAssert (x : Operand) (_ t : TypeId) (ok : Bool) : OpFn := fun P ρ m o => oAssert P ρ m o t ok (ρ x)
def kExtract (x : Operand) (ix : Nat) : OpFn := fun P ρ m o => oExtract P ρ m o ix (ρ x)
def kCall (c : Call) : OpFn := fun P ρ m o => oCall P ρ m o c
def kGo (_ : Call) : OpFn := kPlain
def kSend (_ _ : Operand) : OpFn := kPlain
def kRecv (_ : TypeId) (_ : Operand) (_ : Bool) : OpFn := kPlain
def kSelect (_ : Array SelectCase) (_ : Bool) : OpFn := kPlain
noncomputable def opK : Op → OpFn := @Op.rec (fun _ => OpFn) kMove kMove kPick kAlloc kBox kBuild kBuildSlice kInsert kLoad kStore kPlainN kPlainN kNil kBin kUn kConv kArr kMakeIf kFn kMakeMap kArr kMake kSlice kFieldAddr kField kIndexAddr kIndex kLookup kPlain4 kPlainT kPlain4 kArr kNext kEntry kAssert kExtract kCall kGo kGo kEntry kSend kRecv kSelect
noncomputable def opF0 (P : Program) (ρ : Rho) (m : Mm) (o : Oper) : Option (SV × Mm) := opK o.op P ρ m o
theorem opF0_eq (P : Program) (ρ : Rho) (m : Mm) (o : Oper) : opF0 P ρ m o = opE0 P ρ m o := by
  obtain ⟨dst, op, ty, pos, after, guard⟩ := o
  cases op
  case call c =>
    obtain ⟨cal, ⟨args⟩, ⟨tys⟩⟩ := c
    cases cal with
    | builtin b =>
      cases b <;> try rfl
      rcases args with _ | ⟨x, _ | ⟨y, r⟩⟩ <;> try rfl
      rcases tys with _ | ⟨t, _ | ⟨t', r'⟩⟩ <;> rfl
    | _ => rfl
  case binOp b xt x y yt => cases b <;> rfl
  case makeFunc fn a b => cases fn <;> rfl
  case makeMap t r => cases r <;> rfl
  all_goals rfl
noncomputable def opF (P : Program) (ρ : Rho) (m : Mm) (o : Oper) : Option (SV × Mm) := match opF0 P ρ m o with
  | some r => some r
  | none => opX P ρ m o
theorem opF_eq (P : Program) (ρ : Rho) (m : Mm) (o : Oper) : opF P ρ m o = opE P ρ m o := by
  unfold opF opE
  rw [opF0_eq]
  cases opE0 P ρ m o <;> rfl
end Go.Proofs.Ytnlcjlhcghgaoaa.EX
