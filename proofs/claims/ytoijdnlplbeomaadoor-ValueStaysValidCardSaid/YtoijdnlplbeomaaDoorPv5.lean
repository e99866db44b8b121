/-
  Merged: Eq, Er, Es, Ep, Vm0, Kni
-/
import Derived.Test.YtoijdnlplbeomaaDoorPv4

/-
  Runs by computation: the same machine in small pieces, so that the kernel opens little at each move.
-/
namespace Go.Proofs.YtoijdnlplbeomaaDoor.EX
open Go Go.RowKit
set_option linter.unusedVariables false
set_option linter.unusedSimpArgs false
set_option linter.unusedSectionVars false
set_option maxRecDepth 10000
variable [FC]

/-! ### One operation -/
def oRet (x : Option SV) (m : Mm) : Option (SV × Mm) := match x with
  | some v => some (v, m)
  | none => none
def oLoad2 (P : Program) (m : Mm) (ty : TypeId) (i off : Nat) : Option (SV × Mm) := match m.K.get i with
  | some k => oRet (ldE P ty k.cs off) m
  | none => none
def oLoad (P : Program) (m : Mm) (ty : TypeId) (x : Option SV) : Option (SV × Mm) := match x with
  | some (.p i off) => oLoad2 P m ty i off
  | _ => none
def oStore3 (m : Mm) (i : Nat) (k : Bx) (cs : Option (List SV)) : Option (SV × Mm) := match cs with
  | some cs => some (.v undef, m.upd i ⟨k.ty, cs, k.sz, k.mp, k.es⟩)
  | none => none
def oStore2 (P : Program) (m : Mm) (ty : TypeId) (i off : Nat) (v : SV) : Option (SV × Mm) := match m.K.get i, tinyB i with
  | some k, true => oStore3 m i k (stE P ty k.cs off v)
  | _, _ => none
def oStore (P : Program) (m : Mm) (ty : TypeId) (x y : Option SV) : Option (SV × Mm) := match x, y with
  | some (.p i off), some v => oStore2 P m ty i off v
  | _, _ => none
def oAlloc (m : Mm) (ty : TypeId) (z : Option (List Value)) (b : Bool) : Option (SV × Mm) := match z, b with
  | some cs, true => some (.p m.nx 0, m.new ⟨ty, cs.map .v, 0, false, []⟩)
  | _, _ => none
def oBox (m : Mm) (ty : TypeId) (z : Option SV) (b : Bool) : Option (SV × Mm) := match z, b with
  | some v, true => some (.p m.nx 0, m.new ⟨ty, cellsE v, 0, false, []⟩)
  | _, _ => none
def oBuild (P : Program) (ρ : Rho) (m : Mm) (o : Oper) (t : TypeId) (parts : Array (Nat × Operand)) : Option (SV × Mm) := match rawOnly P ρ o with
  | some x => some (x, m)
  | none => match valsE ρ (parts.toList.map (·.2)) with
    | some vs => match bldE P t ((parts.toList.map (·.1)).zip vs) with
      | some cs => some (mkAgg cs, m)
      | none => none
    | none => none
def oBuildSlice (P : Program) (ρ : Rho) (m : Mm) (t : TypeId) (len : Nat) (parts : Array (Nat × Operand)) : Option (SV × Mm) := match valsE ρ (parts.toList.map (·.2)), tinyB m.nx with
  | some vs, true => match bslE P t len ((parts.toList.map (·.1)).zip vs) with
    | some k => some (.s m.nx 0 len len, m.new k)
    | none => none
  | _, _ => none
def oFieldAddr (P : Program) (m : Mm) (t : TypeId) (f : Nat) (x : Option SV) : Option (SV × Mm) := match x with
  | some (.p i off) => match SX.fieldS P t f with
    | some q => some (.p i (off + q), m)
    | none => none
  | _ => none
def oIdx (i off : Nat) (m : Mm) (q : Option Nat) : Option (SV × Mm) := match q with
  | some q => some (.p i (off + q), m)
  | none => none
def oIndexAddr (P : Program) (m : Mm) (t : TypeId) (x y : Option SV) : Option (SV × Mm) := match x, y with
  | some (.s i off l _), some iv => match natE iv with
    | some n => oIdx i off m (idxE P t l n)
    | none => none
  | some (.r i off l _), some iv => match natE iv with
    | some n => oIdx i off m (idxE P t l n)
    | none => none
  | some (.p i off), some iv => match natE iv with
    | some n => oIdx i off m (aidxE P t n)
    | none => none
  | _, _ => none
def oMakeFunc (fn : FuncId) (a b : Option (List SV)) (m : Mm) : Option (SV × Mm) := match a, b with
  | some a, some b => some (.f fn a b, m)
  | _, _ => none
def oField (P : Program) (ρ : Rho) (m : Mm) (o : Oper) (t : TypeId) (f : Nat) (x : Option SV) : Option (SV × Mm) := match x with
  | some (.g cs) => oRet (fldE P t cs f) m
  | _ => oRet (plainE P ρ o) m
def oMakeIf (P : Program) (m : Mm) (ty : TypeId) (x : Option SV) : Option (SV × Mm) := match x, (P.underlying ty).map isIfc with
  | some v, some false => some (mkIf ty v, m)
  | _, _ => none
def oAssert (P : Program) (ρ : Rho) (m : Mm) (o : Oper) (t : TypeId) (ok : Bool) (x : Option SV) : Option (SV × Mm) := match x with
  | some (.e ty v) => oRet (tasE P ty v t ok) m
  | _ => oRet (plainE P ρ o) m
def oExtract (P : Program) (ρ : Rho) (m : Mm) (o : Oper) (ix : Nat) (x : Option SV) : Option (SV × Mm) := match x with
  | some (.t cs) => oRet (cs[ix]?) m
  | _ => oRet (plainE P ρ o) m
def oPick (m : Mm) (c x y : Option SV) : Option (SV × Mm) := match c with
  | some (.v (.bool true)) => oRet x m
  | some (.v (.bool false)) => oRet y m
  | _ => none
def oNil (P : Program) (ρ : Rho) (m : Mm) (o : Oper) (x : Option SV) : Option (SV × Mm) := match x with
  | some (.p i off) => some (.p i off, m)
  | some (.s i off l c) => some (.s i off l c, m)
  | some (.r i off l c) => some (.r i off l c, m)
  | some (.f g a b) => some (.f g a b, m)
  | some (.e t v) => some (.e t v, m)
  | _ => oRet (plainE P ρ o) m
def oSlice (P : Program) (ρ : Rho) (m : Mm) (o : Oper) (t : TypeId) (lo hi mx : Option Operand) (x : Option SV) : Option (SV × Mm) := match x with
  | some (.s i off l c) => oRet (slcE P ρ t (.s i off l c) lo hi mx) m
  | some (.r i off l c) => oRet (slcE P ρ t (.r i off l c) lo hi mx) m
  | some (.z i off q) => oRet (slcE P ρ t (.z i off q) lo hi mx) m
  | _ => oRet (plainE P ρ o) m
def oEq2 (P : Program) (ρ : Rho) (m : Mm) (o : Oper) (ty : TypeId) (x y : Operand) (z : Bool) (b : Bool) : Option (SV × Mm) := match b with
  | true => some (.v (.bool z), m)
  | false => oRet (eqE P ρ o ty x y z) m
def oEq (P : Program) (ρ : Rho) (m : Mm) (o : Oper) (ty : TypeId) (z : Bool) (xo yo : Operand) (x y : Option SV) : Option (SV × Mm) := match x, y with
  | some u, some v => oEq2 P ρ m o ty xo yo z (isNil P ty u v)
  | _, _ => none
def oBin (P : Program) (ρ : Rho) (m : Mm) (o : Oper) (b : BinOp) (ty : TypeId) (x y : Operand) : Option (SV × Mm) := match b with
  | .eql => oEq P ρ m o ty false x y (ρ x) (ρ y)
  | .neq => oEq P ρ m o ty true x y (ρ x) (ρ y)
  | _ => oRet (plainE P ρ o) m
def oMake2 (P : Program) (m : Mm) (t : TypeId) (a b : Option Nat) : Option (SV × Mm) := match a, b with
  | some a, some b => match mkE P t a b with
    | some k => some (.s m.nx 0 a b, m.new k)
    | none => none
  | _, _ => none
def oMake (P : Program) (m : Mm) (t : TypeId) (l c : Option SV) (b : Bool) : Option (SV × Mm) := match l, c, b with
  | some lv, some cv, true => oMake2 P m t (natE lv) (natE cv)
  | _, _, _ => none
def oLen (P : Program) (ρ : Rho) (m : Mm) (o : Oper) (x : Option SV) (d : Option TypeDesc) : Option (SV × Mm) := match x, d with
  | some (.s _ _ l _), some (.slice _) => some (.v (goInt l), m)
  | some (.r _ _ l _), some (.slice _) => some (.v (goInt l), m)
  | some (.z _ _ _), some (.slice _) => some (.v (goInt (0 : Nat)), m)
  | _, _ => oRet (plainE P ρ o) m
def oCall (P : Program) (ρ : Rho) (m : Mm) (o : Oper) (c : Call) : Option (SV × Mm) := match c with
  | ⟨.builtin .len, ⟨[x]⟩, ⟨[t]⟩⟩ => oLen P ρ m o (ρ x) (P.underlying t)
  | _ => oRet (plainE P ρ o) m
def oFn (P : Program) (ρ : Rho) (m : Mm) (o : Oper) (fn : Fn) (first caps : Array Operand) : Option (SV × Mm) := match fn with
  | .func fn => oMakeFunc fn (valsE ρ first.toList) (valsE ρ caps.toList) m
  | _ => oRet (plainE P ρ o) m
/-! The table of operations: its rows speak of nothing, so that the kernel copies none of them. -/
abbrev OpFn := Program → Rho → Mm → Oper → Option (SV × Mm)
def kPlain : OpFn := fun P ρ m o => oRet (plainE P ρ o) m
def kMove (x : Operand) : OpFn := fun _ ρ m _ => oRet (ρ x) m
def kPick (c x y : Operand) : OpFn := fun _ ρ m _ => oPick m (ρ c) (ρ x) (ρ y)
def kAlloc (ty : TypeId) : OpFn := fun P _ m _ => oAlloc m ty (SX.zeroS P ty) (tinyB m.nx)
def kBox (ty : TypeId) (x : Operand) : OpFn := fun _ ρ m _ => oBox m ty (ρ x) (tinyB m.nx)
def kBuild (t : TypeId) (parts : Array (Nat × Operand)) : OpFn := fun P ρ m o => oBuild P ρ m o t parts
def kBuildSlice (t : TypeId) (len : Nat) (parts : Array (Nat × Operand)) : OpFn := fun P ρ m _ => oBuildSlice P ρ m t len parts
def kPlain4 (_ : TypeId) (_ _ _ : Operand) : OpFn := kPlain
def kInsert (t : TypeId) (x k v : Operand) : OpFn := fun P ρ m _ => insE P m t (ρ x) (ρ k) (ρ v)
def kLoad (ty : TypeId) (x : Operand) : OpFn := fun P ρ m _ => oLoad P m ty (ρ x)
def kStore (ty : TypeId) (x y : Operand) : OpFn := fun P ρ m _ => oStore P m ty (ρ x) (ρ y)
def kPlainN (_ : Nat) : OpFn := kPlain
def kNil (x : Operand) : OpFn := fun P ρ m o => oNil P ρ m o (ρ x)
def kBin (b : BinOp) (ty : TypeId) (x y : Operand) (_ : TypeId) : OpFn := fun P ρ m o => oBin P ρ m o b ty x y
def kUn (_ : UnOp) (_ : TypeId) (_ : Operand) : OpFn := kPlain
def kConv (_ _ : TypeId) (_ : Operand) : OpFn := kPlain
def kArr (_ : TypeId) (_ : Operand) : OpFn := kPlain
def kMakeIf (ty : TypeId) (x : Operand) : OpFn := fun P ρ m _ => oMakeIf P m ty (ρ x)
def kFn (fn : Fn) (first caps : Array Operand) : OpFn := fun P ρ m o => oFn P ρ m o fn first caps
def kMakeMap (t : TypeId) (r : Option Operand) : OpFn := fun P ρ m o => match r with
  | none => mkmE m t (tinyB m.nx)
  | some _ => oRet (plainE P ρ o) m
def kMake (t : TypeId) (l c : Operand) : OpFn := fun P ρ m _ => oMake P m t (ρ l) (ρ c) (tinyB m.nx)
def kSlice (t : TypeId) (x : Operand) (lo hi mx : Option Operand) : OpFn := fun P ρ m o => oSlice P ρ m o t lo hi mx (ρ x)
def kFieldAddr (t : TypeId) (x : Operand) (f : Nat) : OpFn := fun P ρ m _ => oFieldAddr P m t f (ρ x)
def kField (t : TypeId) (x : Operand) (f : Nat) : OpFn := fun P ρ m o => oField P ρ m o t f (ρ x)
def kIndexAddr (t : TypeId) (x ix : Operand) : OpFn := fun P ρ m _ => oIndexAddr P m t (ρ x) (ρ ix)
def kPlainT (_ : TypeId) (_ _ : Operand) : OpFn := kPlain
def oIndex (P : Program) (ρ : Rho) (m : Mm) (o : Oper) (t : TypeId) (ix : Operand) (x : Option SV) : Option (SV × Mm) := match x with
  | some (.g cs) => oRet (elX P t cs (ρ ix)) m
  | _ => oRet (plainE P ρ o) m
def kIndex (t : TypeId) (x ix : Operand) : OpFn := fun P ρ m o => oIndex P ρ m o t ix (ρ x)
def kLookup (t : TypeId) (x ix : Operand) (ok : Bool) : OpFn := fun P ρ m _ => lkE P m t (ρ x) (ρ ix) ok
def kNext (_ : Operand) (_ : Bool) : OpFn := kPlain
def kEntry (_ : Operand) : OpFn := kPlain
def kAssert (x : Operand) (_ t : TypeId) (ok : Bool) : OpFn := fun P ρ m o => oAssert P ρ m o t ok (ρ x)
def kExtract (x : Operand) (ix : Nat) : OpFn := fun P ρ m o => oExtract P ρ m o ix (ρ x)
def kCall (c : Call) : OpFn := fun P ρ m o => oCall P ρ m o c
def kGo (_ : Call) : OpFn := kPlain
def kSend (_ _ : Operand) : OpFn := kPlain
def kRecv (_ : TypeId) (_ : Operand) (_ : Bool) : OpFn := kPlain
def kSelect (_ : Array SelectCase) (_ : Bool) : OpFn := kPlain
noncomputable def opK : Op → OpFn := @Op.rec (fun _ => OpFn) kMove kMove kPick kAlloc kBox kBuild kBuildSlice kInsert kLoad kStore kPlainN kPlainN kNil kBin kUn kConv kArr kMakeIf kFn kMakeMap kArr kMake kSlice kFieldAddr kField kIndexAddr kIndex kLookup kPlain4 kPlainT kPlain4 kArr kNext kEntry kAssert kExtract kCall kGo kGo kEntry kSend kRecv kSelect
noncomputable def opF0 (P : Program) (ρ : Rho) (m : Mm) (o : Oper) : Option (SV × Mm) := opK o.op P ρ m o
theorem opF0_eq (P : Program) (ρ : Rho) (m : Mm) (o : Oper) : opF0 P ρ m o = opE0 P ρ m o := by
  obtain ⟨dst, op, ty, pos, after, guard⟩ := o
  cases op
  case call c =>
    obtain ⟨cal, ⟨args⟩, ⟨tys⟩⟩ := c
    cases cal with
    | builtin b =>
      cases b <;> try rfl
      rcases args with _ | ⟨x, _ | ⟨y, r⟩⟩ <;> try rfl
      rcases tys with _ | ⟨t, _ | ⟨t', r'⟩⟩ <;> rfl
    | _ => rfl
  case binOp b xt x y yt => cases b <;> rfl
  case makeFunc fn a b => cases fn <;> rfl
  case makeMap t r => cases r <;> rfl
  all_goals rfl
noncomputable def opF (P : Program) (ρ : Rho) (m : Mm) (o : Oper) : Option (SV × Mm) := match opF0 P ρ m o with
  | some r => some r
  | none => opX P ρ m o
theorem opF_eq (P : Program) (ρ : Rho) (m : Mm) (o : Oper) : opF P ρ m o = opE P ρ m o := by
  unfold opF opE
  rw [opF0_eq]
  cases opE0 P ρ m o <;> rfl
end Go.Proofs.YtoijdnlplbeomaaDoor.EX


/-
  Runs by computation: the same machine in small pieces, calls and runs.
-/
namespace Go.Proofs.YtoijdnlplbeomaaDoor.EX
open Go Go.RowKit
set_option linter.unusedVariables false
set_option linter.unusedSimpArgs false
set_option linter.unusedSectionVars false
set_option maxRecDepth 10000
variable [FC]

/-! ### Operations that call, panic, defer -/
abbrev Ih := Job → St → Option Ou
def rEnd (o : Option Ou) : Option (Or × St) := match o with
  | some ⟨.ret y, st'⟩ => some (.val y, st')
  | some ⟨.pan y, st'⟩ => some (.pan y, st')
  | _ => none
noncomputable def rCallV (P : Program) (ih : Ih) (ρ : Rho) (st : St) (o : Oper) (t : Option (FuncId × List SV × List SV)) : Option (Or × St) := match t with
  | some (f, as, caps) => rEnd (ih (.call f (as ++ caps)) st)
  | none => hold st.m st (opF P ρ st.m o)
noncomputable def rBuiltin (P : Program) (ρ : Rho) (st : St) (o : Oper) (b : Builtin) : Option (Or × St) := match b with
  | .append => hold st.m st (apE P ρ st.m o)
  | .copy => hold st.m st (cpE P ρ st.m o)
  | _ => hold st.m st (opF P ρ st.m o)
noncomputable def rCall (P : Program) (ih : Ih) (ρ : Rho) (st : St) (o : Oper) (c : Callee) (args : Array Operand) : Option (Or × St) := match c with
  | .value x => rCallV P ih ρ st o (tgtE P ρ x args)
  | .builtin b => rBuiltin P ρ st o b
  | .invoke _ _ => hold st.m st (opF P ρ st.m o)
def rPanic (st : St) (x : Option SV) : Option (Or × St) := match x with
  | some v => match isIf v with
    | true => some (.pan v, st)
    | false => none
  | none => none
noncomputable def rDefer (P : Program) (ρ : Rho) (st : St) (o : Oper) (c : Callee) (args : Array Operand) : Option (Or × St) := match c with
  | .value x => match tgtE P ρ x args with
    | some (f, as, caps) => some (.dfr ⟨f, as, caps⟩, st)
    | none => none
  | _ => hold st.m st (opF P ρ st.m o)
def rPick2 (ρ : Rho) (x y : Operand) (b : Option (Bool × St)) : Option (Or × St) := match b with
  | some (true, st') => match ρ x with
    | some z => some (.val z, st')
    | none => none
  | some (false, st') => match ρ y with
    | some z => some (.val z, st')
    | none => none
  | none => none
def rPick (ρ : Rho) (st : St) (x y : Operand) (c : Option SV) : Option (Or × St) := match c with
  | some v => rPick2 ρ x y (askB v st)
  | none => none
abbrev OrFn := Program → Ih → Rho → St → Oper → Option (Or × St)
noncomputable def qHold : OrFn := fun P _ ρ st o => hold st.m st (opF P ρ st.m o)
noncomputable def q1 (_ : Operand) : OrFn := qHold
noncomputable def qPick (c x y : Operand) : OrFn := fun _ _ ρ st _ => rPick ρ st x y (ρ c)
noncomputable def qT (_ : TypeId) : OrFn := qHold
noncomputable def qT1 (_ : TypeId) (_ : Operand) : OrFn := qHold
noncomputable def qBuild (_ : TypeId) (_ : Array (Nat × Operand)) : OrFn := qHold
noncomputable def qBuildSlice (_ : TypeId) (_ : Nat) (_ : Array (Nat × Operand)) : OrFn := qHold
noncomputable def qT3 (_ : TypeId) (_ _ _ : Operand) : OrFn := qHold
noncomputable def qT2 (_ : TypeId) (_ _ : Operand) : OrFn := qHold
noncomputable def qN (_ : Nat) : OrFn := qHold
noncomputable def qBin (_ : BinOp) (_ : TypeId) (_ _ : Operand) (_ : TypeId) : OrFn := qHold
noncomputable def qUn (_ : UnOp) (_ : TypeId) (_ : Operand) : OrFn := qHold
noncomputable def qConv (_ _ : TypeId) (_ : Operand) : OrFn := qHold
noncomputable def qFn (_ : Fn) (_ _ : Array Operand) : OrFn := qHold
noncomputable def qMakeMap (_ : TypeId) (_ : Option Operand) : OrFn := qHold
noncomputable def qSlice (_ : TypeId) (_ : Operand) (_ _ _ : Option Operand) : OrFn := qHold
noncomputable def qF (_ : TypeId) (_ : Operand) (_ : Nat) : OrFn := qHold
noncomputable def qLookup (t : TypeId) (x ix : Operand) (ok : Bool) : OrFn := fun P _ ρ st o => lookR P ρ st t x ix ok (opF P ρ st.m o)
noncomputable def qNext (_ : Operand) (_ : Bool) : OrFn := qHold
noncomputable def qAssert (_ : Operand) (_ _ : TypeId) (_ : Bool) : OrFn := qHold
noncomputable def qExtract (_ : Operand) (_ : Nat) : OrFn := qHold
noncomputable def qCall (c : Call) : OrFn := fun P ih ρ st o => rCall P ih ρ st o c.callee c.args
noncomputable def qGo (_ : Call) : OrFn := qHold
noncomputable def qDefer (c : Call) : OrFn := fun P _ ρ st o => rDefer P ρ st o c.callee c.args
noncomputable def qPanic (x : Operand) : OrFn := fun _ _ ρ st _ => rPanic st (ρ x)
noncomputable def qSend (_ _ : Operand) : OrFn := qHold
noncomputable def qRecv (_ : TypeId) (_ : Operand) (_ : Bool) : OrFn := qHold
noncomputable def qSelect (_ : Array SelectCase) (_ : Bool) : OrFn := qHold
noncomputable def opRK : Op → OrFn := @Op.rec (fun _ => OrFn) q1 q1 qPick qT qT1 qBuild qBuildSlice qT3 qT1 qT2 qN qN q1 qBin qUn qConv qT1 qT1 qFn qMakeMap qT1 qT2 qSlice qF qF qT2 qT2 qLookup qT3 qT2 qT3 qT1 qNext q1 qAssert qExtract qCall qGo qDefer qPanic qSend qRecv qSelect
noncomputable def opRF (P : Program) (ih : Ih) (ρ : Rho) (st : St) (o : Oper) : Option (Or × St) := opRK o.op P ih ρ st o
theorem opRF_eq (P : Program) (ih : Ih) (ρ : Rho) (st : St) (o : Oper) : opRF P ih ρ st o = opR P ih ρ st o := by
  obtain ⟨dst, op, ty, pos, after, guard⟩ := o
  unfold opRF opR
  cases op <;> simp only [opRK, qHold, q1, qPick, qT, qT1, qBuild, qBuildSlice, qT3, qT2, qN, qBin, qUn, qConv, qFn, qMakeMap, qSlice, qF, qLookup, qNext, qAssert, qExtract, qCall, qGo, qDefer, qPanic, qSend, qRecv, qSelect]
  case call c =>
    obtain ⟨cal, args, tys⟩ := c
    cases cal with
    | builtin b => cases b <;> simp only [rCall, rBuiltin, opF_eq]
    | value x =>
      simp only [rCall, rCallV, opF_eq]
      cases tgtE P ρ x args with
      | none => rfl
      | some t =>
        obtain ⟨f, as, caps⟩ := t
        simp only [rEnd]
        cases ih (.call f (as ++ caps)) st with
        | none => rfl
        | some u => obtain ⟨e, s⟩ := u; cases e <;> rfl
    | invoke _ _ => simp only [rCall, opF_eq]
  case defer c =>
    obtain ⟨cal, args, tys⟩ := c
    cases cal <;> simp only [rDefer, opF_eq]
    rfl
  case panic x => simp only [rPanic]; rfl
  case pick c x y =>
    simp only [rPick]
    cases ρ c with
    | none => rfl
    | some v =>
      simp only [rPick2]
      cases askB v st with
      | none => rfl
      | some b => obtain ⟨b, s⟩ := b; cases b <;> rfl
  all_goals simp only [opF_eq]

/-! ### Drawn regions -/
def dSet (s : Ds) (o : Oper) (st1 : St) (x : SV) : Ds := ⟨setD s.T o.dst x, st1, s.cl, s.nl, s.ol, s.rl, x, [], .pure, s.pd⟩
def dNew (i : Nat) (s : Ds) (o : Oper) (st1 : St) (x : SV) (k : Option Bx) (b : Bool) : Option Ds := match k, b with
  | some k, true => some ⟨setD s.T o.dst x, ⟨⟨st1.m.K.set st1.m.nx (some k), st1.m.nx + 1, st1.m.lg⟩, st1.orc, st1.cnd⟩, s.cl, (i, st1.m.nx) :: s.nl, (i, st1.m.nx, st1.m.nx + 1) :: s.ol, s.rl, x, [], .new, s.pd⟩
  | _, _ => none
def dPure (i : Nat) (s : Ds) (o : Oper) (st1 : St) (x : SV) (m' : Mm) (b : Bool) : Option Ds := match b with
  | true => some (dSet s o st1 x)
  | false => dNew i s o st1 x (m'.K.get st1.m.nx) (tinyB st1.m.nx && Nat.beq m'.nx (st1.m.nx + 1))
def dOne (i : Nat) (s : Ds) (o : Oper) (st1 : St) (a : Nat) (x : Option SV) (b : Bool) : Option Ds := match x, b with
  | some x, true => some ⟨setD s.T o.dst x, st1, s.cl, s.nl, s.ol, (i, a) :: s.rl, x, [], .one a, s.pd⟩
  | _, _ => none
def dLoad2 (P : Program) (pm : Tr Nat) (nx0 i : Nat) (s : Ds) (o : Oper) (st1 : St) (ty : TypeId) (a off : Nat) (k : Option Bx) : Option Ds := match k with
  | some k => dOne i s o st1 a (ldE P ty k.cs off) (seenB nx0 pm i s.ol a && s.cl.all fun c => bitOf pm i c.1 || !(c.2.contains a))
  | none => none
def dLoad (P : Program) (pm : Tr Nat) (nx0 i : Nat) (s : Ds) (o : Oper) (st1 : St) (ty : TypeId) (x : Option SV) : Option Ds := match x with
  | some (.p a off) => dLoad2 P pm nx0 i s o st1 ty a off (st1.m.K.get a)
  | _ => none
def dFree (pm : Tr Nat) (i : Nat) (rl : List (Nat × Nat)) (lg : List Nat) (mk : List (Nat × Nat)) : Bool := (rl.all fun r => bitOf pm i r.1 || !(lg.contains r.2)) && mk.all fun q => tinyB q.2
def dVal (i : Nat) (s : Ds) (o : Oper) (st1 : St) (mk : List (Nat × Nat)) (x : SV) (st2 : St) (b : Bool) : Option Ds := match b with
  | true => some ⟨setD s.T o.dst x, ⟨⟨unmaskK st1.m.K mk st2.m.K, st2.m.nx, st2.m.lg ++ st1.m.lg⟩, st2.orc, st2.cnd⟩, (i, st2.m.lg) :: s.cl, s.nl, (i, st1.m.nx, st2.m.nx) :: s.ol, s.rl, x, st2.m.lg, .chain mk, s.pd⟩
  | false => none
def dPan (i : Nat) (s : Ds) (o : Oper) (st1 : St) (mk : List (Nat × Nat)) (x : SV) (st2 : St) (pd : Option (Nat × SV × Mm)) (b : Bool) : Option Ds := match pd, b with
  | none, true => some ⟨setD s.T o.dst (.v undef), ⟨⟨unmaskK st1.m.K mk st2.m.K, st2.m.nx, st2.m.lg ++ st1.m.lg⟩, st2.orc, st2.cnd⟩, (i, st2.m.lg) :: s.cl, s.nl, (i, st1.m.nx, st2.m.nx) :: s.ol, s.rl, .v undef, st2.m.lg, .chain mk, some (i, x, st2.m)⟩
  | _, _ => none
noncomputable def dCh2 (pm : Tr Nat) (i : Nat) (s : Ds) (o : Oper) (st1 : St) (mk : List (Nat × Nat)) (r : Option (Or × St)) : Option Ds := match r with
  | some (.val x, st2) => dVal i s o st1 mk x st2 (dFree pm i s.rl st2.m.lg mk)
  | some (.pan x, st2) => dPan i s o st1 mk x st2 s.pd (dFree pm i s.rl st2.m.lg mk)
  | _ => none
noncomputable def dChain (P : Program) (ih : Ih) (ρ : Rho) (pm : Tr Nat) (i : Nat) (s : Ds) (o : Oper) (st1 : St) (mk : List (Nat × Nat)) (b : Bool) : Option Ds := match b with
  | true => dCh2 pm i s o st1 mk (opRF P ih ρ ⟨⟨maskK mk st1.m.K, st1.m.nx, []⟩, st1.orc, st1.cnd⟩ o)
  | false => none
noncomputable def dElse (P : Program) (ih : Ih) (ρ : Rho) (pm : Tr Nat) (nx0 i : Nat) (s : Ds) (o : Oper) (st1 : St) : Option Ds := match o.op with
  | .load ty y => dLoad P pm nx0 i s o st1 ty (ρ y)
  | _ => dChain P ih ρ pm i s o st1 (s.nl.filter fun q => !bitOf pm i q.1) (chainB pm i s.cl)
noncomputable def dNext (P : Program) (ih : Ih) (ρ : Rho) (pm : Tr Nat) (nx0 i : Nat) (s : Ds) (o : Oper) (st1 : St) (r : Option (SV × Mm)) : Option Ds := match r with
  | some (x, m') => dPure i s o st1 x m' (Nat.beq m'.nx st1.m.nx)
  | none => dElse P ih ρ pm nx0 i s o st1
theorem dNext_eq (P : Program) (ih : Ih) (ρ : Rho) (pm : Tr Nat) (nx0 i : Nat) (s : Ds) (o : Oper) (st1 : St) :
    dNext P ih ρ pm nx0 i s o st1 (opF P ρ ⟨.leaf, st1.m.nx, []⟩ o) = nextD P ih ρ pm nx0 i s o st1 := by
  rw [opF_eq]
  unfold dNext nextD
  cases opE P ρ ⟨.leaf, st1.m.nx, []⟩ o with
  | some r =>
    obtain ⟨x, m'⟩ := r
    simp only [dPure]
    cases Nat.beq m'.nx st1.m.nx with
    | true => rfl
    | false =>
      simp only [dNew]
      cases m'.K.get st1.m.nx with
      | none => rfl
      | some k => cases tinyB st1.m.nx && Nat.beq m'.nx (st1.m.nx + 1) <;> rfl
  | none =>
    have key : dChain P ih ρ pm i s o st1 (s.nl.filter fun q => !bitOf pm i q.1) (chainB pm i s.cl) = (match chainB pm i s.cl with
      | true => match opR P ih ρ ⟨⟨maskK (s.nl.filter fun q => !bitOf pm i q.1) st1.m.K, st1.m.nx, []⟩, st1.orc, st1.cnd⟩ o with
        | some (.val x, st2) => match (s.rl.all fun r => bitOf pm i r.1 || !(st2.m.lg.contains r.2)) && (s.nl.filter fun q => !bitOf pm i q.1).all fun q => tinyB q.2 with
          | true => some ⟨setD s.T o.dst x, ⟨⟨unmaskK st1.m.K (s.nl.filter fun q => !bitOf pm i q.1) st2.m.K, st2.m.nx, st2.m.lg ++ st1.m.lg⟩, st2.orc, st2.cnd⟩, (i, st2.m.lg) :: s.cl, s.nl, (i, st1.m.nx, st2.m.nx) :: s.ol, s.rl, x, st2.m.lg, .chain (s.nl.filter fun q => !bitOf pm i q.1), s.pd⟩
          | false => none
        | some (.pan x, st2) => match s.pd, (s.rl.all fun r => bitOf pm i r.1 || !(st2.m.lg.contains r.2)) && (s.nl.filter fun q => !bitOf pm i q.1).all fun q => tinyB q.2 with
          | none, true => some ⟨setD s.T o.dst (.v undef), ⟨⟨unmaskK st1.m.K (s.nl.filter fun q => !bitOf pm i q.1) st2.m.K, st2.m.nx, st2.m.lg ++ st1.m.lg⟩, st2.orc, st2.cnd⟩, (i, st2.m.lg) :: s.cl, s.nl, (i, st1.m.nx, st2.m.nx) :: s.ol, s.rl, .v undef, st2.m.lg, .chain (s.nl.filter fun q => !bitOf pm i q.1), some (i, x, st2.m)⟩
          | _, _ => none
        | _ => none
      | false => none) := by
      unfold dChain
      cases chainB pm i s.cl with
      | false => rfl
      | true =>
        simp only [opRF_eq]
        cases opR P ih ρ ⟨⟨maskK (s.nl.filter fun q => !bitOf pm i q.1) st1.m.K, st1.m.nx, []⟩, st1.orc, st1.cnd⟩ o with
        | none => rfl
        | some r =>
          obtain ⟨r, st2⟩ := r
          cases r with
          | val x => simp only [dCh2, dVal, dFree]
          | dfr d => rfl
          | pan x =>
            simp only [dCh2, dPan, dFree]
    simp only [dElse]
    obtain ⟨dst, op, ty, pos, after, guard⟩ := o
    cases op
    case load t y =>
      simp only [dLoad]
      cases ρ y with
      | none => rfl
      | some v => cases v <;> rfl
    all_goals exact key
noncomputable def dGuard (P : Program) (ih : Ih) (pm wr : Tr Nat) (nx0 i : Nat) (s : Ds) (o : Oper) (g : Option (Bool × St)) : Option Ds := match g with
  | some (false, st1) => some (dSet s o st1 (.v undef))
  | some (true, st1) => dNext P ih (rhoM s.T wr pm i) pm nx0 i s o st1 (opF P (rhoM s.T wr pm i) ⟨.leaf, st1.m.nx, []⟩ o)
  | none => none
noncomputable def dLive (P : Program) (ih : Ih) (ops : Array Oper) (pm wr : Tr Nat) (nx0 i : Nat) (s : Ds) (o : Oper) (b : Bool) : Option Ds := match b with
  | true => some (dSet s o s.st (.v undef))
  | false => dGuard P ih pm wr nx0 i s o (gE ops (rhoM s.T wr pm i) o s.st)
/-- What is asked of the region's text alone: the kernel keeps it from one run to the next. -/
def maskB (n : Nat) (pm wr : Tr Nat) (i : Nat) (o : Oper) : Bool := match maskOf pm i o.after.toList, pm.get i with
  | some p, some p' => Nat.beq p p' && dstOk n wr i o.dst
  | _, _ => false
noncomputable def dStep2 (P : Program) (ih : Ih) (ops : Array Oper) (pm wr : Tr Nat) (nx0 n i : Nat) (s : Ds) (o : Oper) (b : Bool) : Option Ds := match b with
  | true => dLive P ih ops pm wr nx0 i s o (deadB pm i s.pd)
  | false => none
noncomputable def dStep (P : Program) (ih : Ih) (ops : Array Oper) (pm wr : Tr Nat) (nx0 n i : Nat) (s : Ds) (o : Option Oper) : Option Ds := match o with
  | none => none
  | some o => dStep2 P ih ops pm wr nx0 n i s o (maskB n pm wr i o)
theorem dStep_eq (P : Program) (ih : Ih) (ops : Array Oper) (pm wr : Tr Nat) (nx0 n i : Nat) (s : Ds) : dStep P ih ops pm wr nx0 n i s ops[i]? = stepD P ih ops pm wr nx0 n i s := by
  unfold dStep stepD
  cases ops[i]? with
  | none => rfl
  | some o =>
    simp only [dStep2, maskB]
    cases maskOf pm i o.after.toList with
    | none => rfl
    | some p =>
      cases pm.get i with
      | none => rfl
      | some p' =>
        simp only
        cases Nat.beq p p' && dstOk n wr i o.dst with
        | false => rfl
        | true =>
          simp only [dLive]
          cases deadB pm i s.pd with
          | true => rfl
          | false =>
            simp only [dGuard]
            cases gE ops (rhoM s.T wr pm i) o s.st with
            | none => rfl
            | some g =>
              obtain ⟨g, st1⟩ := g
              cases g with
              | false => rfl
              | true => exact dNext_eq ..
noncomputable def dSeqB (P : Program) (ih : Ih) (ops : Array Oper) (pm wr : Tr Nat) (nx0 n i : Nat) (s : Option Ds) : Option Ds := match s with
  | some s => dStep P ih ops pm wr nx0 n i s ops[i]?
  | none => none
noncomputable def dSeq (P : Program) (ih : Ih) (ops : Array Oper) (pm wr : Tr Nat) (nx0 n : Nat) (s0 : Ds) : Nat → Option Ds
  | 0 => some s0
  | i + 1 => dSeqB P ih ops pm wr nx0 n i (dSeq P ih ops pm wr nx0 n s0 i)
theorem dSeq_eq (P : Program) (ih : Ih) (ops : Array Oper) (pm wr : Tr Nat) (nx0 n : Nat) (s0 : Ds) : ∀ i, dSeq P ih ops pm wr nx0 n s0 i = seqD P ih ops pm wr nx0 n s0 i
  | 0 => rfl
  | i + 1 => by
    simp only [dSeq, seqD, dSeq_eq P ih ops pm wr nx0 n s0 i]
    cases seqD P ih ops pm wr nx0 n s0 i with
    | none => rfl
    | some s => exact dStep_eq ..
def dEnd (fr : Fr) (ops : Array Oper) (s : Option Ds) : Option (Fr × St × Option SV) := match s with
  | some s => some (endD fr ops s)
  | none => none
noncomputable def drF2 (P : Program) (ih : Ih) (fr : Fr) (ops : Array Oper) (st : St) (b : Bool) : Option (Fr × St × Option SV) := match b with
  | true => dEnd fr ops (dSeq P ih ops (mkMasks ops.toList 0 .leaf) (mkWr ops.toList 0 .leaf) st.m.nx fr.n (ds0 fr st) ops.size)
  | false => none
noncomputable def drF : Dr := fun P ih fr ops st => drF2 P ih fr ops st (P.follows .mixedOrders)
theorem drF_eq (P : Program) (ih : Ih) (fr : Fr) (ops : Array Oper) (st : St) : drF P ih fr ops st = drE P ih fr ops st := by
  unfold drF drE
  cases P.follows .mixedOrders with
  | false => rfl
  | true =>
    simp only [drF2, dSeq_eq]
    cases seqD P ih ops (mkMasks ops.toList 0 .leaf) (mkWr ops.toList 0 .leaf) st.m.nx fr.n (ds0 fr st) ops.size <;> rfl
end Go.Proofs.YtoijdnlplbeomaaDoor.EX


/-
  Runs by computation: the same machine in small pieces, the moves.
-/
namespace Go.Proofs.YtoijdnlplbeomaaDoor.EX
open Go Go.RowKit
set_option linter.unusedVariables false
set_option linter.unusedSimpArgs false
set_option linter.unusedSectionVars false
set_option maxRecDepth 10000
variable [FC]

/-! ### Functions that recover -/
abbrev DO := Option (Tr SV × St × Md)
noncomputable def dfStep (P : Program) (ih : Ih) (n : Nat) (o : Oper) (T1 : Tr SV) (st1 : St) (u : Md) (go : Tr SV → St → Md → DO) : DO := match o.op with
  | .call ⟨.builtin .recover, _, _⟩ => match u with
    | .pan x => go (putT n T1 o.dst (hdP x)) st1 (.rcv x)
    | u => go (putT n T1 o.dst (.v .nilIface)) st1 u
  | _ => match opRF P ih (rho T1) st1 o with
    | some (.val x, st2) => go (putT n T1 o.dst x) st2 u
    | _ => none
noncomputable def dfWant (P : Program) (ih : Ih) (n : Nat) (o : Oper) (u : Md) (go : Tr SV → St → Md → DO) (r : Option (Bool × Tr SV × St)) : DO := match r with
  | some (false, T1, st1) => go (putT n T1 o.dst (.v undef)) st1 u
  | some (true, T1, st1) => dfStep P ih n o T1 st1 u go
  | none => none
noncomputable def dfOp (P : Program) (ih : Ih) (n : Nat) (ops : Array Oper) (T : Tr SV) (st : St) (u : Md) (go : Tr SV → St → Md → DO) (o : Option Oper) : DO := match o with
  | none => go T st u
  | some o => dfWant P ih n o u go (wantE n T ops o st)
noncomputable def dopsF (P : Program) (ih : Ih) (n : Nat) (ops : Array Oper) : List Nat → Tr SV → St → Md → DO
  | [], T, st, u => some (T, st, u)
  | i :: l, T, st, u => dfOp P ih n ops T st u (dopsF P ih n ops l) ops[i]?
theorem dopsF_eq (P : Program) (ih : Ih) (n : Nat) (ops : Array Oper) : ∀ (l : List Nat) (T : Tr SV) (st : St) (u : Md), dopsF P ih n ops l T st u = dops P ih n ops l T st u
  | [], T, st, u => rfl
  | i :: l, T, st, u => by
    have e : dopsF P ih n ops l = dops P ih n ops l := by funext T st u; exact dopsF_eq P ih n ops l T st u
    unfold dopsF dops
    rw [e]
    cases ops[i]? with
    | none => rfl
    | some o =>
      simp only [dfOp]
      cases wantE n T ops o st with
      | none => rfl
      | some r =>
        obtain ⟨b, T1, st1⟩ := r
        cases b with
        | false => rfl
        | true =>
          obtain ⟨dst, op, ty, pos, after, guard⟩ := o
          have key : (match opRF P ih (rho T1) st1 ⟨dst, op, ty, pos, after, guard⟩ with
            | some (.val x, st2) => dops P ih n ops l (putT n T1 dst x) st2 u
            | _ => none) = (match opR P ih (rho T1) st1 ⟨dst, op, ty, pos, after, guard⟩ with
            | some (.val x, st2) => dops P ih n ops l (putT n T1 dst x) st2 u
            | _ => none) := by rw [opRF_eq]
          cases op
          case call c =>
            obtain ⟨cal, args, tys⟩ := c
            cases cal with
            | builtin b =>
              cases b
              case recover => cases u <;> rfl
              all_goals exact key
            | value x => exact key
            | invoke x m => exact key
          all_goals exact key

/-! ### Moves -/
def castQ2 (f : FuncId) (d : Option Nat) (x : SV) (K : Tr Bx) (nx : Nat) (lg : List Nat) (cnd : List (Value × Value)) (orc : List Value) : SV × St := match orc with
  | [] => (x, ⟨⟨K, nx, lg⟩, [], cnd⟩)
  | a :: l => castO f d x ⟨⟨K, nx, lg⟩, a :: l, cnd⟩
/-- The state is laid anew, so that the kernel need not look for its parts again and again. -/
def castQ (f : FuncId) (d : Option Nat) (x : SV) (st : St) : SV × St := match st with
  | ⟨⟨K, nx, lg⟩, orc, cnd⟩ => castQ2 f d x K nx lg cnd orc
theorem castQ_eq (f : FuncId) (d : Option Nat) (x : SV) (st : St) : castQ f d x st = castO f d x st := by
  obtain ⟨⟨K, nx, lg⟩, orc, cnd⟩ := st
  cases orc with
  | nil => cases x <;> rfl
  | cons a l => rfl
def sLeft (ih : Ih) (r : Option Ou) : Option Ou := match r with
  | some ⟨.fr fr u, st'⟩ => ih (.leave fr u) st'
  | _ => none
def sBody (ih : Ih) (f : FuncId) (args : List SV) (st : St) (fn : Option Func) : Option Ou := match fn with
  | some fn => match fn.body with
    | some c => sLeft ih (ih (.run (fr0 f fn args) [.code c]) st)
    | none => none
  | none => none
def sCall (P : Program) (ih : Ih) (f : FuncId) (args : List SV) (st : St) (k : Option Ou) : Option Ou := match k with
  | some o => some o
  | none => sBody ih f args st P.funcs[f]?
def sRes (st : St) (ys : Option (List SV)) : Option Ou := match ys with
  | some ys => some ⟨.ret (oneOf ys), st⟩
  | none => none
def sFin (P : Program) (fr : Fr) (u : Md) (st : St) : Option Ou := match u with
  | .ret => match P.funcs[fr.f]? with
    | some fn => sRes st (resE P fr.T st.m.K fn.results.toList)
    | none => none
  | .pan x => some ⟨.pan x, st⟩
  | .rcv _ => none
def sDfd (ih : Ih) (fr : Fr) (ds : List Df) (r : Option Ou) : Option Ou := match r with
  | some ⟨.md u', st'⟩ => ih (.leave ⟨fr.f, fr.n, fr.T, ds⟩ (settleM u')) st'
  | _ => none
def sLeave (P : Program) (ih : Ih) (fr : Fr) (u : Md) (st : St) (D : List Df) : Option Ou := match D with
  | [] => sFin P fr u st
  | d :: ds => match SX.entersB P d.fn with
    | true => sDfd ih fr ds (ih (.dcall d.fn (d.args ++ d.caps) u) st)
    | false => none
def sRec (P : Program) (ih : Ih) (f : FuncId) (n : Nat) (fn : Func) (rest : Code) (r : DO) : Option Ou := match r with
  | some (T, st1, u1) => endedR P fn u1 (ih (.run ⟨f, n, T, []⟩ [.code rest]) st1)
  | none => none
noncomputable def sDc (P : Program) (ih : Ih) (f : FuncId) (args : List SV) (u : Md) (st : St) (fn : Func) (c : Code) : Option Ou := match c with
  | .seq (.region _ ops false) rest => match hasRec ops with
    | true => sRec P ih f (fr0 f fn args).n fn rest (dopsF P ih (fr0 f fn args).n ops (List.range ops.size) (fr0 f fn args).T st u)
    | false => ended P fn u (ih (.run (fr0 f fn args) [.code c]) st)
  | c => ended P fn u (ih (.run (fr0 f fn args) [.code c]) st)
noncomputable def sDcall (P : Program) (ih : Ih) (f : FuncId) (args : List SV) (u : Md) (st : St) (fn : Option Func) : Option Ou := match fn with
  | some fn => match fn.body with
    | some c => sDc P ih f args u st fn c
    | none => none
  | none => none
def sVal (ih : Ih) (f : FuncId) (n : Nat) (D : List Df) (all : Array Oper) (o : Oper) (l : List Oper) (k : List SX.It) (T : Tr SV) (r : SV × St) : Option Ou := match r with
  | (x', st3) => ih (.run ⟨f, n, putT n T o.dst x', D⟩ (.ops all l :: k)) st3
def sOut (ih : Ih) (f : FuncId) (n : Nat) (D : List Df) (all : Array Oper) (o : Oper) (l : List Oper) (k : List SX.It) (T : Tr SV) (r : Option (Or × St)) : Option Ou := match r with
  | some (.val x, st2) => sVal ih f n D all o l k T (castQ f o.dst x st2)
  | some (.dfr d, st2) => ih (.run ⟨f, n, putT n T o.dst (.v undef), d :: D⟩ (.ops all l :: k)) st2
  | some (.pan x, st2) => some ⟨.fr ⟨f, n, T, D⟩ (.pan x), st2⟩
  | none => none
noncomputable def sWant (P : Program) (ih : Ih) (f : FuncId) (n : Nat) (D : List Df) (all : Array Oper) (o : Oper) (l : List Oper) (k : List SX.It) (r : Option (Bool × Tr SV × St)) : Option Ou := match r with
  | none => none
  | some (false, T, st1) => ih (.run ⟨f, n, putT n T o.dst (.v undef), D⟩ (.ops all l :: k)) st1
  | some (true, T, st1) => sOut ih f n D all o l k T (opRF P ih (rho T) st1 o)
noncomputable def sOps (P : Program) (ih : Ih) (f : FuncId) (n : Nat) (T : Tr SV) (D : List Df) (all : Array Oper) (k : List SX.It) (st : St) (l : List Oper) : Option Ou := match l with
  | [] => ih (.run ⟨f, n, T, D⟩ k) st
  | o :: l => sWant P ih f n D all o l k (wantE n T all o st)
def sRnd (ih : Ih) (fr : Fr) (c : Code) (k : List SX.It) (st : St) (n : Nat) : Option Ou := match n with
  | 0 => none
  | n + 1 => ih (.run fr (.code c :: .rnd n c :: k)) st
def sExit (ih : Ih) (fr : Fr) (st : St) (k : Option (List SX.It)) : Option Ou := match k with
  | some k' => ih (.run fr k') st
  | none => none
def sDrawn (ih : Ih) (k : List SX.It) (r : Option (Fr × St × Option SV)) : Option Ou := match r with
  | some (fr', st', none) => ih (.run fr' k) st'
  | some (fr', st', some x) => some ⟨.fr fr' (.pan x), st'⟩
  | none => none
noncomputable def sRegion (P : Program) (ih : Ih) (fr : Fr) (ops : Array Oper) (k : List SX.It) (st : St) (d : Bool) : Option Ou := match d with
  | false => ih (.run fr (.ops ops ops.toList :: k)) st
  | true => sDrawn ih k (drF P ih fr ops st)
def castF2 (f : FuncId) (n : Nat) (T : Tr SV) (D : List Df) (c : Operand) (b : Bool) : Fr := match c with
  | .tmp t => ⟨f, n, putT n T (some t) (.v (.bool b)), D⟩
  | _ => ⟨f, n, T, D⟩
def sAsk (ih : Ih) (f : FuncId) (n : Nat) (T : Tr SV) (D : List Df) (c : Operand) (x y : Code) (k : List SX.It) (r : Option (Bool × St)) : Option Ou := match r with
  | some (true, st') => ih (.run (castF2 f n T D c true) (.code x :: k)) st'
  | some (false, st') => ih (.run (castF2 f n T D c false) (.code y :: k)) st'
  | none => none
def sCond (ih : Ih) (f : FuncId) (n : Nat) (T : Tr SV) (D : List Df) (c : Operand) (x y : Code) (k : List SX.It) (st : St) (v : Option SV) : Option Ou := match v with
  | some v => sAsk ih f n T D c x y k (askB v st)
  | none => none
def sScope (ih : Ih) (fr : Fr) (c : Code) (st : St) (k : List SX.It) : Option Ou := match noOps k with
  | true => whole (ih (.run fr (.code c :: k)) st)
  | false => none
abbrev CodeFn := Program → Ih → FuncId → Nat → Tr SV → List Df → List SX.It → St → Option Ou
def cSkip : CodeFn := fun _ ih f n T D k st => ih (.run ⟨f, n, T, D⟩ k) st
noncomputable def cRegion (_ : Nat) (ops : Array Oper) (d : Bool) : CodeFn := fun P ih f n T D k st => sRegion P ih ⟨f, n, T, D⟩ ops k st d
def cSeq (x y : Code) (_ _ : CodeFn) : CodeFn := fun _ ih f n T D k st => ih (.run ⟨f, n, T, D⟩ (.code x :: .code y :: k)) st
def cCond (c : Operand) (x y : Code) (_ _ : CodeFn) : CodeFn := fun _ ih f n T D k st => sCond ih f n T D c x y k st (rho T c)
def cBlock (id : Nat) (c : Code) (_ : CodeFn) : CodeFn := fun _ ih f n T D k st => ih (.run ⟨f, n, T, D⟩ (.code c :: .blk id :: k)) st
def cLoop (c : Code) (_ : CodeFn) : CodeFn := fun _ ih f n T D k st => ih (.run ⟨f, n, T, D⟩ (.rnd 1000000 c :: k)) st
def cRange (_ : Operand) (_ : Array Tmp) (_ _ : Code) (_ _ : CodeFn) : CodeFn := fun _ _ _ _ _ _ _ _ => none
def cExit (id : Nat) : CodeFn := fun _ ih f n T D k st => sExit ih ⟨f, n, T, D⟩ st (SX.unw id k)
def cScope (c : Code) (_ : CodeFn) : CodeFn := fun _ ih f n T D k st => sScope ih ⟨f, n, T, D⟩ c st k
def cLabel (_ : Nat) : CodeFn := cSkip
def cGoto (_ : Nat) : CodeFn := fun _ _ _ _ _ _ _ _ => none
def cRet : CodeFn := fun _ _ f n T D _ st => some ⟨.fr ⟨f, n, T, D⟩ .ret, st⟩
def cRefuse (_ : String) : CodeFn := fun _ _ _ _ _ _ _ _ => none
noncomputable def codeK : Code → CodeFn := @Code.rec (fun _ => CodeFn) cSkip cRegion cSeq cCond cBlock cLoop cRange cExit cScope cLabel cGoto cRet cRefuse
abbrev ItFn := Program → Ih → FuncId → Nat → Tr SV → List Df → List SX.It → St → Option Ou
noncomputable def iCode (c : Code) : ItFn := codeK c
noncomputable def iOps (all : Array Oper) (l : List Oper) : ItFn := fun P ih f n T D k st => sOps P ih f n T D all k st l
def iBlk (_ : Nat) : ItFn := cSkip
def iRnd (m : Nat) (c : Code) : ItFn := fun _ ih f n T D k st => sRnd ih ⟨f, n, T, D⟩ c k st m
noncomputable def itK : SX.It → ItFn := @SX.It.rec (fun _ => ItFn) iCode iOps iBlk iRnd
noncomputable def sRun2 (P : Program) (ih : Ih) (f : FuncId) (n : Nat) (T : Tr SV) (D : List Df) (st : St) (k : List SX.It) : Option Ou := match k with
  | [] => some ⟨.fr ⟨f, n, T, D⟩ .ret, st⟩
  | i :: k => itK i P ih f n T D k st
noncomputable def sRun (P : Program) (ih : Ih) (st : St) (k : List SX.It) (fr : Fr) : Option Ou := match fr with
  | ⟨f, n, T, D⟩ => sRun2 P ih f n T D st k
abbrev JobFn := Program → KnG → Ih → St → Option Ou
noncomputable def jCall (f : FuncId) (args : List SV) : JobFn := fun P kn ih st => sCall P ih f args st (kn f args st)
noncomputable def jRun (fr : Fr) (k : List SX.It) : JobFn := fun P _ ih st => sRun P ih st k fr
noncomputable def jLeave (fr : Fr) (u : Md) : JobFn := fun P _ ih st => sLeave P ih fr u st fr.D
noncomputable def jDcall (f : FuncId) (args : List SV) (u : Md) : JobFn := fun P _ ih st => sDcall P ih f args u st P.funcs[f]?
noncomputable def jobK : Job → JobFn := @Job.rec (fun _ => JobFn) jCall jRun jLeave jDcall
noncomputable def stepF (P : Program) (kn : KnG) (ih : Ih) (j : Job) (st : St) : Option Ou := jobK j P kn ih st
theorem stepF_eq (P : Program) (kn : KnG) (ih : Ih) (j : Job) (st : St) : stepF P kn ih j st = stepJ P kn drE ih j st := by
  cases j with
  | call f args =>
    simp only [stepF, stepJ, jobK, jCall]
    cases kn f args st with
    | some r => rfl
    | none =>
      simp only [sCall]
      cases P.funcs[f]? with
      | none => rfl
      | some fn =>
        simp only [sBody]
        cases fn.body with
        | none => rfl
        | some c =>
          simp only
          cases ih (.run (fr0 f fn args) [.code c]) st with
          | none => rfl
          | some r => obtain ⟨e, s⟩ := r; cases e <;> rfl
  | leave fr u =>
    simp only [stepF, stepJ, jobK, jLeave]
    cases fr.D with
    | nil =>
      simp only [sLeave]
      cases u with
      | ret =>
        simp only [sFin]
        cases P.funcs[fr.f]? with
        | none => rfl
        | some fn => simp only; cases resE P fr.T st.m.K fn.results.toList <;> rfl
      | _ => rfl
    | cons d ds =>
      simp only [sLeave]
      cases SX.entersB P d.fn with
      | false => rfl
      | true =>
        simp only
        cases ih (.dcall d.fn (d.args ++ d.caps) u) st with
        | none => rfl
        | some r => obtain ⟨e, s⟩ := r; cases e <;> rfl
  | dcall f args u =>
    simp only [stepF, stepJ, jobK, jDcall]
    cases P.funcs[f]? with
    | none => rfl
    | some fn =>
      simp only [sDcall]
      cases fn.body with
      | none => rfl
      | some c =>
        simp only
        cases c <;> try rfl
        rename_i a rest
        cases a <;> try rfl
        rename_i id ops d
        cases d
        · simp only [sDc]
          cases hasRec ops with
          | false => rfl
          | true =>
            simp only [dopsF_eq]
            cases dops P ih (fr0 f fn args).n ops (List.range ops.size) (fr0 f fn args).T st u with
            | none => rfl
            | some r => rfl
        · rfl
  | run fr k =>
    obtain ⟨f, n, T, D⟩ := fr
    cases k with
    | nil => rfl
    | cons i k =>
      cases i with
      | code c =>
        cases c
        case exit id => simp only [stepF, stepJ, jobK, jRun, sRun, sRun2, itK, iCode, codeK, cExit, cRegion, cCond]; cases SX.unw id k <;> rfl
        case region id ops d =>
          cases d
          · rfl
          · simp only [stepF, stepJ, jobK, jRun, sRun, sRun2, itK, iCode, codeK, cExit, cRegion, cCond, sRegion, drF_eq]
            cases drE P ih ⟨f, n, T, D⟩ ops st with
            | none => rfl
            | some r => obtain ⟨fr', st', x⟩ := r; cases x <;> rfl
        case cond c x y =>
          simp only [stepF, stepJ, jobK, jRun, sRun, sRun2, itK, iCode, codeK, cExit, cRegion, cCond]
          cases rho T c with
          | none => rfl
          | some v =>
            simp only [sCond]
            cases askB v st with
            | none => rfl
            | some r => obtain ⟨b, s⟩ := r; cases b <;> cases c <;> rfl
        case scope c => rfl
        all_goals rfl
      | ops all l =>
        cases l with
        | nil => rfl
        | cons o l =>
          simp only [stepF, stepJ, jobK, jRun, sRun, sRun2, itK, iOps, sOps]
          cases wantE n T all o st with
          | none => rfl
          | some r =>
            obtain ⟨b, T, st1⟩ := r
            cases b with
            | false => rfl
            | true =>
              simp only [sWant, opRF_eq]
              cases opR P ih (rho T) st1 o with
              | none => rfl
              | some r =>
                obtain ⟨r, s⟩ := r
                cases r with
                | val x => simp only [sOut, castQ_eq]; rfl
                | _ => rfl
      | blk id => rfl
      | rnd n c => cases n <;> rfl
/-- So many moves at most. -/
noncomputable def goF (P : Program) (kn : KnG) (n : Nat) : Job → St → Option Ou := Nat.rec (fun _ _ => none) (fun _ ih => stepF P kn ih) n
theorem goF_eq (P : Program) (kn : KnG) : ∀ n, goF P kn n = goJ P kn drE n
  | 0 => rfl
  | n + 1 => by
    funext j st
    show stepF P kn (goF P kn n) j st = stepJ P kn drE (goJ P kn drE n) j st
    rw [goF_eq P kn n, stepF_eq]
end Go.Proofs.YtoijdnlplbeomaaDoor.EX


/-
  Runs by computation: how it is used.
-/
namespace Go.Proofs.YtoijdnlplbeomaaDoor.EX
open Go Go.RowKit
set_option linter.unusedVariables false
set_option linter.unusedSectionVars false
set_option maxRecDepth 10000
variable [FC]

/-- The value that a call returns, and what was asked on the way. -/
def outE : Option Ou → Option (SV × List (Value × Value))
  | some ⟨.ret x, st⟩ => some (x, st.cnd)
  | _ => none
def st1 (orc : List Value) : St := ⟨⟨.leaf, 0, []⟩, orc, []⟩
theorem ex_runG {P : Program} {kn : KnG} (hkn : KnGOk P kn) (n : Nat) {f : FuncId} {as : List Value} (args : List SV) (orc : List Value) {x : SV} (cs : List (Value × Value)) {w : World}
    (h : outE (goF P kn n (.call f args) (st1 orc)) = some (x, cs)) (ha : denL (fun _ => (0, 0)) args = as) (hb : bdL (fun _ => False) args) (hc : ∀ q ∈ cs, q.1 = q.2) (hfc : FcAt w := by first | assumption | exact fcAt_none _) :
    Calls P f as.toArray w fun e w' => ∃ B, e = .returned (den B x) ∧ Below w.heap.size w w' := by
  rw [goF_eq] at h
  unfold outE at h
  split at h
  · rename_i y st h1
    obtain ⟨m, orc', cnd⟩ := st
    simp only [Option.some.injEq, Prod.mk.injEq] at h
    obtain ⟨rfl, rfl⟩ := h
    rw [← ha]
    exact (ex_call hkn (drE_ok P) n h1 hb hc hfc).mono fun e w' ⟨B, h2, _, h3⟩ => ⟨B, h2, h3⟩
  · cases h
theorem ex_run {P : Program} {kn : Kn} (hkn : KnOk P kn) (n : Nat) {f : FuncId} {as : List Value} (args : List SV) (orc : List Value) {x : SV} (cs : List (Value × Value)) {w : World}
    (h : outE (goF P (gk kn) n (.call f args) (st1 orc)) = some (x, cs)) (ha : denL (fun _ => (0, 0)) args = as) (hb : bdL (fun _ => False) args) (hc : ∀ q ∈ cs, q.1 = q.2) (hfc : FcAt w := by first | assumption | exact fcAt_none _) :
    Calls P f as.toArray w fun e w' => ∃ B, e = .returned (den B x) ∧ Below w.heap.size w w' := ex_runG (gk_ok hkn) n args orc cs h ha hb hc hfc
/-- The result is a plain value. -/
theorem ex_valG {P : Program} {kn : KnG} (hkn : KnGOk P kn) (n : Nat) {f : FuncId} {as : List Value} (args : List SV) (orc : List Value) {v : Value} (cs : List (Value × Value)) {w : World}
    (h : outE (goF P kn n (.call f args) (st1 orc)) = some (.v v, cs)) (ha : denL (fun _ => (0, 0)) args = as) (hb : bdL (fun _ => False) args) (hc : ∀ q ∈ cs, q.1 = q.2) (hfc : FcAt w := by first | assumption | exact fcAt_none _) :
    Calls P f as.toArray w fun e w' => e = .returned v ∧ Below w.heap.size w w' :=
  (ex_runG hkn n args orc cs h ha hb hc hfc).mono fun e w' ⟨B, h1, h2⟩ => ⟨by rw [h1]; simp [den], h2⟩
theorem ex_val {P : Program} {kn : Kn} (hkn : KnOk P kn) (n : Nat) {f : FuncId} {as : List Value} (args : List SV) (orc : List Value) {v : Value} (cs : List (Value × Value)) {w : World}
    (h : outE (goF P (gk kn) n (.call f args) (st1 orc)) = some (.v v, cs)) (ha : denL (fun _ => (0, 0)) args = as) (hb : bdL (fun _ => False) args) (hc : ∀ q ∈ cs, q.1 = q.2) (hfc : FcAt w := by first | assumption | exact fcAt_none _) :
    Calls P f as.toArray w fun e w' => e = .returned v ∧ Below w.heap.size w w' :=
  (ex_run hkn n args orc cs h ha hb hc hfc).mono fun e w' ⟨B, h1, h2⟩ => ⟨by rw [h1]; simp [den], h2⟩
/-- A function without parameters whose result is known. -/
def kn1 (f0 : FuncId) (v : Value) : Kn := fun f args => match Nat.beq f f0, args with
  | true, [] => some (.v v, [])
  | _, _ => none
theorem kn1_ok {P : Program} {f0 : FuncId} {v : Value} (h : ∀ w, Calls P f0 #[] w fun e w' => e = .returned v ∧ Below w.heap.size w w') : KnOk P (kn1 f0 v) := by
  intro f args x cs hx
  unfold kn1 at hx
  split at hx
  · rename_i hb
    simp only [Option.some.injEq, Prod.mk.injEq] at hx
    obtain ⟨rfl, rfl⟩ := hx
    have := Nat.eq_of_beq_eq_true hb
    subst this
    exact ⟨by simp [bd], fun _ B w => by simpa [denL, den] using h w⟩
  · cases hx
/-- Known results of any kind, one table after another. -/
def kgOr (k1 k2 : KnG) : KnG := fun f args st => match k1 f args st with
  | some r => some r
  | none => k2 f args st
theorem kgOr_ok {P : Program} {k1 k2 : KnG} (h1 : KnGOk P k1) (h2 : KnGOk P k2) : KnGOk P (kgOr k1 k2) := by
  intro f args st o h
  unfold kgOr at h
  split at h
  · rename_i r hr
    simp only [Option.some.injEq] at h
    subst h
    exact h1 f args st _ hr
  · exact h2 f args st _ h
/-- Known results, one table after another. -/
def knOr (k1 k2 : Kn) : Kn := fun f args => match k1 f args with
  | some r => some r
  | none => k2 f args
theorem knOr_ok {P : Program} {k1 k2 : Kn} (h1 : KnOk P k1) (h2 : KnOk P k2) : KnOk P (knOr k1 k2) := by
  intro f args v cs h
  unfold knOr at h
  split at h
  · rename_i r hr
    simp only [Option.some.injEq] at h
    subst h
    exact h1 f args v cs hr
  · exact h2 f args v cs h
/-- A function of two ints, the first of 64 bits, whose result is known. -/
def kn2 (f0 : FuncId) (g : Int → Int → Value) : Kn := fun f args => match Nat.beq f f0, args with
  | true, [.y (.int .i64 m), .v (.int .i64 t)] => some (.y (g m t), [(.bool (decide (-9223372036854775808 ≤ m)), .bool true), (.bool (decide (m ≤ 9223372036854775807)), .bool true)])
  | _, _ => none
theorem kn2_ok {P : Program} {f0 : FuncId} {g : Int → Int → Value} (h : ∀ m t w, -9223372036854775808 ≤ m ∧ m ≤ 9223372036854775807 → Calls P f0 #[.int .i64 m, .int .i64 t] w fun e w' => e = .returned (g m t) ∧ Below w.heap.size w w') : KnOk P (kn2 f0 g) := by
  intro f args x cs hx
  unfold kn2 at hx
  split at hx
  · rename_i m t hb
    simp only [Option.some.injEq, Prod.mk.injEq] at hx
    obtain ⟨rfl, rfl⟩ := hx
    have := Nat.eq_of_beq_eq_true hb
    subst this
    refine ⟨by simp [bd], fun tr B w => ?_⟩
    have c1 := tr _ (List.mem_cons_self ..)
    have c2 := tr _ (List.mem_cons_of_mem _ (List.mem_cons_self ..))
    simp only [Value.bool.injEq, decide_eq_true_eq] at c1 c2
    simpa [denL, den] using h m t w ⟨c1, c2⟩
  · cases hx
end Go.Proofs.YtoijdnlplbeomaaDoor.EX


/-
  Known results that rest on facts about what is given.
-/
namespace Go.Proofs.YtoijdnlplbeomaaDoor.EX
open Go Go.RowKit
set_option linter.unusedVariables false
set_option linter.unusedSimpArgs false
set_option linter.unusedSectionVars false
set_option maxRecDepth 10000
variable [FC]
/-- A value that speaks of no own variable. -/
def pvE : SV → Option Value
  | .v x => some x
  | .y x => some x
  | .g l => match softL l with
    | some r => some (.agg r.toArray)
    | none => none
  | .q i o l c => some (.slice (some ⟨FC.b i, FC.o i + o, none⟩) l c)
  | _ => none
def pvL : List SV → Option (List Value)
  | [] => some []
  | x :: l => match pvE x, pvL l with
    | some v, some r => some (v :: r)
    | _, _ => none
theorem pvE_den (B : Pl) {x : SV} {v : Value} (h : pvE x = some v) : den B x = v := by
  cases x with
  | v x => simp only [pvE, Option.some.injEq] at h; subst h; simp [den]
  | y x => simp only [pvE, Option.some.injEq] at h; subst h; simp [den]
  | q i o l c => simp only [pvE, Option.some.injEq] at h; subst h; simp [den]
  | g l =>
    simp only [pvE] at h
    cases hs : softL l with
    | none => rw [hs] at h; cases h
    | some r => rw [hs] at h; simp only [Option.some.injEq] at h; subst h; simp [den, softL_den B hs]
  | _ => simp [pvE] at h
theorem pvL_den (B : Pl) : ∀ {l : List SV} {r : List Value}, pvL l = some r → denL B l = r
  | [], r, h => by simp [pvL] at h; subst h; simp [denL]
  | x :: l, r, h => by
    simp only [pvL] at h
    cases h1 : pvE x with
    | none => rw [h1] at h; cases h
    | some v =>
      cases h2 : pvL l with
      | none => rw [h1, h2] at h; cases h
      | some s =>
        rw [h1, h2] at h
        simp only [Option.some.injEq] at h
        subst h
        simp [denL, pvE_den B h1, pvL_den B h2]
/-- A call with these arguments returns this. -/
def kgAt (f0 : FuncId) (as : List Value) (x : SV) : KnG := fun f args st => match Nat.beq f f0, pvL args with
  | true, some vs => match Nat.beq vs.length as.length with
    | true => some ⟨.ret x, ⟨st.m, st.orc, vs.zip as ++ st.cnd⟩⟩
    | false => none
  | _, _ => none
theorem zip_eq : ∀ {l m : List Value}, l.length = m.length → (∀ q ∈ l.zip m, q.1 = q.2) → l = m
  | [], [], _, _ => rfl
  | a :: l, b :: m, h, t => by
    have h1 := t (a, b) (by simp)
    have h2 : l = m := zip_eq (by simpa using h) fun q hq => t q (by simp [hq])
    simp only at h1
    rw [h1, h2]
  | [], _ :: _, h, _ => by simp at h
  | _ :: _, [], h, _ => by simp at h
theorem kgAt_ok {P : Program} {f0 : FuncId} {as : List Value} {x : SV} (hx : bd (fun _ => False) x) (h : ∀ w, FcAt w → Calls P f0 as.toArray w fun e w' => e = .returned (den (fun _ => (0, 0)) x) ∧ Below w.heap.size w w') : KnGOk P (kgAt f0 as x) := by
  intro f args st o hk
  unfold kgAt at hk
  split at hk
  · rename_i vs hf hv
    have := Nat.eq_of_beq_eq_true hf
    subst this
    cases hl : Nat.beq vs.length as.length with
    | false => rw [hl] at hk; cases hk
    | true =>
      rw [hl] at hk
      simp only [Option.some.injEq] at hk
      subst hk
      refine ⟨⟨⟨_, rfl⟩, Fm.refl _⟩, trivial, fun tr w0 F B S w hS R hargs => ?_⟩
      have e1 : vs = as := zip_eq (Nat.eq_of_beq_eq_true hl) fun q hq => tr q (List.mem_append_left _ hq)
      rw [pvL_den B hv, e1]
      refine (h w R.fc).mono ?_
      rintro e w' ⟨rfl, hb⟩
      exact ⟨B, Ag.refl _ _ _, Nat.le_refl _, by rw [ext_self]; exact R.below hb, by rw [den_ag (S := fun _ => False) (fun _ h => h.elim) hx], bd_mono (fun _ h => h.elim) hx⟩
  · cases hk
end Go.Proofs.YtoijdnlplbeomaaDoor.EX


/-
  Tables of known results for functions of integers that are not known.
-/
namespace Go.Proofs.YtoijdnlplbeomaaDoor
open Go Go.RowKit EX
set_option linter.unusedVariables false
set_option linter.unusedSectionVars false
variable [FC]
/-- A function of one integer that is not known. -/
def knI (f0 : FuncId) (g : Int → Value) : Kn := fun f args => match Nat.beq f f0, args with
  | true, [.y (.int .i64 a)] => some (.y (g a), [])
  | _, _ => none
theorem knI_ok {P : Program} {f0 : FuncId} {g : Int → Value} (h : ∀ a w, Calls P f0 #[.int .i64 a] w fun e w' => e = .returned (g a) ∧ w = w') : KnOk P (knI f0 g) := by
  intro f args x cs hx
  unfold knI at hx
  split at hx
  · rename_i a hb
    simp only [Option.some.injEq, Prod.mk.injEq] at hx
    obtain ⟨rfl, rfl⟩ := hx
    have := Nat.eq_of_beq_eq_true hb
    subst this
    refine ⟨by simp [bd], fun tr B w => ?_⟩
    simpa [denL, den] using (h a w).mono fun e w' ⟨h1, h2⟩ => ⟨h1, h2 ▸ Below.refl _ _⟩
  · cases hx
/-- A function of two integers of which the first is not known. -/
def knII (f0 : FuncId) (g : Int → Int → Value) : Kn := fun f args => match Nat.beq f f0, args with
  | true, [.y (.int .i64 a), .y (.int .i64 k)] => some (.y (g a k), [])
  | true, [.y (.int .i64 a), .v (.int .i64 k)] => some (.y (g a k), [])
  | _, _ => none
theorem knII_ok {P : Program} {f0 : FuncId} {g : Int → Int → Value} (h : ∀ a k w, Calls P f0 #[.int .i64 a, .int .i64 k] w fun e w' => e = .returned (g a k) ∧ w = w') : KnOk P (knII f0 g) := by
  intro f args x cs hx
  unfold knII at hx
  split at hx
  · rename_i a k hb
    simp only [Option.some.injEq, Prod.mk.injEq] at hx
    obtain ⟨rfl, rfl⟩ := hx
    have := Nat.eq_of_beq_eq_true hb
    subst this
    refine ⟨by simp [bd], fun tr B w => ?_⟩
    simpa [denL, den] using (h a k w).mono fun e w' ⟨h1, h2⟩ => ⟨h1, h2 ▸ Below.refl _ _⟩
  · rename_i a k hb
    simp only [Option.some.injEq, Prod.mk.injEq] at hx
    obtain ⟨rfl, rfl⟩ := hx
    have := Nat.eq_of_beq_eq_true hb
    subst this
    refine ⟨by simp [bd], fun tr B w => ?_⟩
    simpa [denL, den] using (h a k w).mono fun e w' ⟨h1, h2⟩ => ⟨h1, h2 ▸ Below.refl _ _⟩
  · cases hx
end Go.Proofs.YtoijdnlplbeomaaDoor
