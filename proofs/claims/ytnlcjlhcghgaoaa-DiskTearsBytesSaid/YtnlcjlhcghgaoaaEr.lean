
/-
  Runs by computation: the same machine in small pieces, calls and runs.
-/
import Derived.Test.YtnlcjlhcghgaoaaEq
namespace Go.Proofs.Ytnlcjlhcghgaoaa.EX
open Go Go.RowKit
set_option linter.unusedVariables false
set_option linter.unusedSimpArgs false
set_option linter.unusedSectionVars false
set_option maxRecDepth 10000
variable [FC]

/-! ### Operations that call, panic, defer -/
abbrev Ih := Job → St → Option Ou
def rEnd (o : Option Ou) : Option (Or × St) := match o with
  | some ⟨.ret y, st'⟩ => some (.val y, st')
  | some ⟨.pan y, st'⟩ => some (.pan y, st')
  | _ => none
noncomputable def rCallV (P : Program) (ih : Ih) (ρ : Rho) (st : St) (o : Oper) (t : Option (FuncId × List SV × List SV)) : Option (Or × St) := match t with
  | some (f, as, caps) => rEnd (ih (.call f (as ++ caps)) st)
  | none => hold st.m st (opF P ρ st.m o)
noncomputable def rBuiltin (P : Program) (ρ : Rho) (st : St) (o : Oper) (b : Builtin) : Option (Or × St) := match b with
  | .append => hold st.m st (apE P ρ st.m o)
  | .copy => hold st.m st (cpE P ρ st.m o)
  | _ => hold st.m st (opF P ρ st.m o)
noncomputable def rCall (P : Program) (ih : Ih) (ρ : Rho) (st : St) (o : Oper) (c : Callee) (args : Array Operand) : Option (Or × St) := match c with
  | .value x => rCallV P ih ρ st o (tgtE P ρ x args)
  | .builtin b => rBuiltin P ρ st o b
  | .invoke _ _ => hold st.m st (opF P ρ st.m o)
def rPanic (st : St) (x : Option SV) : Option (Or × St) := match x with
  | some v => match isIf v with
    | true => some (.pan v, st)
    | false => none
  | none => none
noncomputable def rDefer (P : Program) (ρ : Rho) (st : St) (o : Oper) (c : Callee) (args : Array Operand) : Option (Or × St) := match c with
  | .value x => match tgtE P ρ x args with
    | some (f, as, caps) => some (.dfr ⟨f, as, caps⟩, st)
    | none => none
  | _ => hold st.m st (opF P ρ st.m o)
def rPick2 (ρ : Rho) (x y : Operand) (b : Option (Bool × St)) : Option (Or × St) := match b with
  | some (true, st') => match ρ x with
    | some z => some (.val z, st')
    | none => none
  | some (false, st') => match ρ y with
    | some z => some (.val z, st')
    | none => none
  | none => none
def rPick (ρ : Rho) (st : St) (x y : Operand) (c : Option SV) : Option (Or × St) := match c with
  | some v => rPick2 ρ x y (askB v st)
  | none => none
abbrev OrFn := Program → Ih → Rho → St → Oper → Option (Or × St)
noncomputable def qHold : OrFn := fun P _ ρ st o => hold st.m st (opF P ρ st.m o)
noncomputable def qAsk : OrFn := fun P _ ρ st o => heldA st (opF P ρ st.m o) (askE P ρ o)
noncomputable def qIdx (_ : TypeId) (_ _ : Operand) : OrFn := qAsk
noncomputable def q1 (_ : Operand) : OrFn := qHold
noncomputable def qPick (c x y : Operand) : OrFn := fun _ _ ρ st _ => rPick ρ st x y (ρ c)
noncomputable def qT (_ : TypeId) : OrFn := qHold
noncomputable def qT1 (_ : TypeId) (_ : Operand) : OrFn := qHold
noncomputable def qBuild (_ : TypeId) (_ : Array (Nat × Operand)) : OrFn := qHold
noncomputable def qBuildSlice (_ : TypeId) (_ : Nat) (_ : Array (Nat × Operand)) : OrFn := qHold
noncomputable def qT3 (_ : TypeId) (_ _ _ : Operand) : OrFn := qHold
noncomputable def qT2 (_ : TypeId) (_ _ : Operand) : OrFn := qHold
noncomputable def qN (_ : Nat) : OrFn := qHold
noncomputable def qBin (_ : BinOp) (_ : TypeId) (_ _ : Operand) (_ : TypeId) : OrFn := qAsk
noncomputable def qUn (_ : UnOp) (_ : TypeId) (_ : Operand) : OrFn := qHold
noncomputable def qConv (_ _ : TypeId) (_ : Operand) : OrFn := qHold
noncomputable def qFn (_ : Fn) (_ _ : Array Operand) : OrFn := qHold
noncomputable def qMakeMap (_ : TypeId) (_ : Option Operand) : OrFn := qHold
noncomputable def qSlice (_ : TypeId) (_ : Operand) (_ _ _ : Option Operand) : OrFn := qHold
noncomputable def qF (_ : TypeId) (_ : Operand) (_ : Nat) : OrFn := qHold
noncomputable def qLookup (t : TypeId) (x ix : Operand) (ok : Bool) : OrFn := fun P _ ρ st o => lookR P ρ st t x ix ok (opF P ρ st.m o)
noncomputable def qNext (_ : Operand) (_ : Bool) : OrFn := qHold
noncomputable def qAssert (_ : Operand) (_ _ : TypeId) (_ : Bool) : OrFn := qHold
noncomputable def qExtract (_ : Operand) (_ : Nat) : OrFn := qHold
noncomputable def qCall (c : Call) : OrFn := fun P ih ρ st o => rCall P ih ρ st o c.callee c.args
noncomputable def qGo (_ : Call) : OrFn := qHold
noncomputable def qDefer (c : Call) : OrFn := fun P _ ρ st o => rDefer P ρ st o c.callee c.args
noncomputable def qPanic (x : Operand) : OrFn := fun _ _ ρ st _ => rPanic st (ρ x)
noncomputable def qSend (_ _ : Operand) : OrFn := qHold
noncomputable def qRecv (_ : TypeId) (_ : Operand) (_ : Bool) : OrFn := qHold
noncomputable def qSelect (_ : Array SelectCase) (_ : Bool) : OrFn := qHold
noncomputable def opRK : Op → OrFn := @Op.rec (fun _ => OrFn) q1 q1 qPick qT qT1 qBuild qBuildSlice qT3 qT1 qT2 qN qN q1 qBin qUn qConv qT1 qT1 qFn qMakeMap qT1 qT2 qSlice qF qF qIdx qT2 qLookup qT3 qT2 qT3 qT1 qNext q1 qAssert qExtract qCall qGo qDefer qPanic qSend qRecv qSelect
noncomputable def opRF (P : Program) (ih : Ih) (ρ : Rho) (st : St) (o : Oper) : Option (Or × St) := opRK o.op P ih ρ st o
theorem opRF_eq (P : Program) (ih : Ih) (ρ : Rho) (st : St) (o : Oper) : opRF P ih ρ st o = opR P ih ρ st o := by
  obtain ⟨dst, op, ty, pos, after, guard⟩ := o
  unfold opRF opR
  cases op <;> simp only [opRK, qHold, qAsk, qIdx, q1, qPick, qT, qT1, qBuild, qBuildSlice, qT3, qT2, qN, qBin, qUn, qConv, qFn, qMakeMap, qSlice, qF, qLookup, qNext, qAssert, qExtract, qCall, qGo, qDefer, qPanic, qSend, qRecv, qSelect]
  case call c =>
    obtain ⟨cal, args, tys⟩ := c
    cases cal with
    | builtin b => cases b <;> simp only [rCall, rBuiltin, opF_eq]
    | value x =>
      simp only [rCall, rCallV, opF_eq]
      cases tgtE P ρ x args with
      | none => rfl
      | some t =>
        obtain ⟨f, as, caps⟩ := t
        simp only [rEnd]
        cases ih (.call f (as ++ caps)) st with
        | none => rfl
        | some u => obtain ⟨e, s⟩ := u; cases e <;> rfl
    | invoke _ _ => simp only [rCall, opF_eq]
  case defer c =>
    obtain ⟨cal, args, tys⟩ := c
    cases cal <;> simp only [rDefer, opF_eq]
    rfl
  case panic x => simp only [rPanic]; rfl
  case pick c x y =>
    simp only [rPick]
    cases ρ c with
    | none => rfl
    | some v =>
      simp only [rPick2]
      cases askB v st with
      | none => rfl
      | some b => obtain ⟨b, s⟩ := b; cases b <;> rfl
  all_goals simp only [opF_eq]

/-! ### Drawn regions -/
def dSet (s : Ds) (o : Oper) (st1 : St) (x : SV) : Ds := ⟨setD s.T o.dst x, st1, s.cl, s.nl, s.ol, s.rl, x, [], .pure, s.pd⟩
def dNew (i : Nat) (s : Ds) (o : Oper) (st1 : St) (x : SV) (k : Option Bx) (b : Bool) : Option Ds := match k, b with
  | some k, true => some ⟨setD s.T o.dst x, ⟨⟨st1.m.K.set st1.m.nx (some k), st1.m.nx + 1, st1.m.lg⟩, st1.orc, st1.cnd⟩, s.cl, (i, st1.m.nx) :: s.nl, (i, st1.m.nx, st1.m.nx + 1) :: s.ol, s.rl, x, [], .new, s.pd⟩
  | _, _ => none
def dPure (i : Nat) (s : Ds) (o : Oper) (st1 : St) (x : SV) (m' : Mm) (b : Bool) : Option Ds := match b with
  | true => some (dSet s o st1 x)
  | false => dNew i s o st1 x (m'.K.get st1.m.nx) (tinyB st1.m.nx && Nat.beq m'.nx (st1.m.nx + 1))
def dOne (i : Nat) (s : Ds) (o : Oper) (st1 : St) (a : Nat) (x : Option SV) (b : Bool) : Option Ds := match x, b with
  | some x, true => some ⟨setD s.T o.dst x, st1, s.cl, s.nl, s.ol, (i, a) :: s.rl, x, [], .one a, s.pd⟩
  | _, _ => none
def dLoad2 (P : Program) (pm : Tr Nat) (nx0 i : Nat) (s : Ds) (o : Oper) (st1 : St) (ty : TypeId) (a off : Nat) (k : Option Bx) : Option Ds := match k with
  | some k => dOne i s o st1 a (ldE P ty k.cs off) (seenB nx0 pm i s.ol a && s.cl.all fun c => bitOf pm i c.1 || !(c.2.contains a))
  | none => none
def dLoad (P : Program) (pm : Tr Nat) (nx0 i : Nat) (s : Ds) (o : Oper) (st1 : St) (ty : TypeId) (x : Option SV) : Option Ds := match x with
  | some (.p a off) => dLoad2 P pm nx0 i s o st1 ty a off (st1.m.K.get a)
  | _ => none
def dFree (pm : Tr Nat) (i : Nat) (rl : List (Nat × Nat)) (lg : List Nat) (mk : List (Nat × Nat)) : Bool := (rl.all fun r => bitOf pm i r.1 || !(lg.contains r.2)) && mk.all fun q => tinyB q.2
def dVal (i : Nat) (s : Ds) (o : Oper) (st1 : St) (mk : List (Nat × Nat)) (x : SV) (st2 : St) (b : Bool) : Option Ds := match b with
  | true => some ⟨setD s.T o.dst x, ⟨⟨unmaskK st1.m.K mk st2.m.K, st2.m.nx, st2.m.lg ++ st1.m.lg⟩, st2.orc, st2.cnd⟩, (i, st2.m.lg) :: s.cl, s.nl, (i, st1.m.nx, st2.m.nx) :: s.ol, s.rl, x, st2.m.lg, .chain mk, s.pd⟩
  | false => none
def dPan (i : Nat) (s : Ds) (o : Oper) (st1 : St) (mk : List (Nat × Nat)) (x : SV) (st2 : St) (pd : Option (Nat × SV × Mm)) (b : Bool) : Option Ds := match pd, b with
  | none, true => some ⟨setD s.T o.dst (.v undef), ⟨⟨unmaskK st1.m.K mk st2.m.K, st2.m.nx, st2.m.lg ++ st1.m.lg⟩, st2.orc, st2.cnd⟩, (i, st2.m.lg) :: s.cl, s.nl, (i, st1.m.nx, st2.m.nx) :: s.ol, s.rl, .v undef, st2.m.lg, .chain mk, some (i, x, st2.m)⟩
  | _, _ => none
noncomputable def dCh2 (pm : Tr Nat) (i : Nat) (s : Ds) (o : Oper) (st1 : St) (mk : List (Nat × Nat)) (r : Option (Or × St)) : Option Ds := match r with
  | some (.val x, st2) => dVal i s o st1 mk x st2 (dFree pm i s.rl st2.m.lg mk)
  | some (.pan x, st2) => dPan i s o st1 mk x st2 s.pd (dFree pm i s.rl st2.m.lg mk)
  | _ => none
noncomputable def dChain (P : Program) (ih : Ih) (ρ : Rho) (pm : Tr Nat) (i : Nat) (s : Ds) (o : Oper) (st1 : St) (mk : List (Nat × Nat)) (b : Bool) : Option Ds := match b with
  | true => dCh2 pm i s o st1 mk (opRF P ih ρ ⟨⟨maskK mk st1.m.K, st1.m.nx, []⟩, st1.orc, st1.cnd⟩ o)
  | false => none
noncomputable def dElse (P : Program) (ih : Ih) (ρ : Rho) (pm : Tr Nat) (nx0 i : Nat) (s : Ds) (o : Oper) (st1 : St) : Option Ds := match o.op with
  | .load ty y => dLoad P pm nx0 i s o st1 ty (ρ y)
  | _ => dChain P ih ρ pm i s o st1 (s.nl.filter fun q => !bitOf pm i q.1) (chainB pm i s.cl)
noncomputable def dNext (P : Program) (ih : Ih) (ρ : Rho) (pm : Tr Nat) (nx0 i : Nat) (s : Ds) (o : Oper) (st1 : St) (r : Option (SV × Mm)) : Option Ds := match r with
  | some (x, m') => dPure i s o st1 x m' (Nat.beq m'.nx st1.m.nx)
  | none => dElse P ih ρ pm nx0 i s o st1
theorem dNext_eq (P : Program) (ih : Ih) (ρ : Rho) (pm : Tr Nat) (nx0 i : Nat) (s : Ds) (o : Oper) (st1 : St) :
    dNext P ih ρ pm nx0 i s o st1 (opF P ρ ⟨.leaf, st1.m.nx, []⟩ o) = nextD0 P ih ρ pm nx0 i s o st1 := by
  rw [opF_eq]
  unfold dNext nextD0
  cases opE P ρ ⟨.leaf, st1.m.nx, []⟩ o with
  | some r =>
    obtain ⟨x, m'⟩ := r
    simp only [dPure]
    cases Nat.beq m'.nx st1.m.nx with
    | true => rfl
    | false =>
      simp only [dNew]
      cases m'.K.get st1.m.nx with
      | none => rfl
      | some k => cases tinyB st1.m.nx && Nat.beq m'.nx (st1.m.nx + 1) <;> rfl
  | none =>
    have key : dChain P ih ρ pm i s o st1 (s.nl.filter fun q => !bitOf pm i q.1) (chainB pm i s.cl) = (match chainB pm i s.cl with
      | true => match opR P ih ρ ⟨⟨maskK (s.nl.filter fun q => !bitOf pm i q.1) st1.m.K, st1.m.nx, []⟩, st1.orc, st1.cnd⟩ o with
        | some (.val x, st2) => match (s.rl.all fun r => bitOf pm i r.1 || !(st2.m.lg.contains r.2)) && (s.nl.filter fun q => !bitOf pm i q.1).all fun q => tinyB q.2 with
          | true => some ⟨setD s.T o.dst x, ⟨⟨unmaskK st1.m.K (s.nl.filter fun q => !bitOf pm i q.1) st2.m.K, st2.m.nx, st2.m.lg ++ st1.m.lg⟩, st2.orc, st2.cnd⟩, (i, st2.m.lg) :: s.cl, s.nl, (i, st1.m.nx, st2.m.nx) :: s.ol, s.rl, x, st2.m.lg, .chain (s.nl.filter fun q => !bitOf pm i q.1), s.pd⟩
          | false => none
        | some (.pan x, st2) => match s.pd, (s.rl.all fun r => bitOf pm i r.1 || !(st2.m.lg.contains r.2)) && (s.nl.filter fun q => !bitOf pm i q.1).all fun q => tinyB q.2 with
          | none, true => some ⟨setD s.T o.dst (.v undef), ⟨⟨unmaskK st1.m.K (s.nl.filter fun q => !bitOf pm i q.1) st2.m.K, st2.m.nx, st2.m.lg ++ st1.m.lg⟩, st2.orc, st2.cnd⟩, (i, st2.m.lg) :: s.cl, s.nl, (i, st1.m.nx, st2.m.nx) :: s.ol, s.rl, .v undef, st2.m.lg, .chain (s.nl.filter fun q => !bitOf pm i q.1), some (i, x, st2.m)⟩
          | _, _ => none
        | _ => none
      | false => none) := by
      unfold dChain
      cases chainB pm i s.cl with
      | false => rfl
      | true =>
        simp only [opRF_eq]
        cases opR P ih ρ ⟨⟨maskK (s.nl.filter fun q => !bitOf pm i q.1) st1.m.K, st1.m.nx, []⟩, st1.orc, st1.cnd⟩ o with
        | none => rfl
        | some r =>
          obtain ⟨r, st2⟩ := r
          cases r with
          | val x => simp only [dCh2, dVal, dFree]
          | dfr d => rfl
          | pan x =>
            simp only [dCh2, dPan, dFree]
    simp only [dElse]
    obtain ⟨dst, op, ty, pos, after, guard⟩ := o
    cases op
    case load t y =>
      simp only [dLoad]
      cases ρ y with
      | none => rfl
      | some v => cases v <;> rfl
    all_goals exact key
noncomputable def dAsk (P : Program) (ih : Ih) (ρ : Rho) (pm : Tr Nat) (nx0 i : Nat) (s : Ds) (o : Oper) (st1 : St) (q : Option (SV × List (Value × Value))) : Option Ds := match q with
  | some (x, ps) => some ⟨setD s.T o.dst x, ⟨st1.m, st1.orc, ps ++ st1.cnd⟩, s.cl, s.nl, s.ol, s.rl, x, [], .pure, s.pd⟩
  | none => dNext P ih ρ pm nx0 i s o st1 (opF P ρ ⟨.leaf, st1.m.nx, []⟩ o)
theorem dAsk_eq (P : Program) (ih : Ih) (ρ : Rho) (pm : Tr Nat) (nx0 i : Nat) (s : Ds) (o : Oper) (st1 : St) :
    dAsk P ih ρ pm nx0 i s o st1 (askE P ρ o) = nextD P ih ρ pm nx0 i s o st1 := by
  unfold nextD
  cases askE P ρ o with
  | some r => obtain ⟨x, ps⟩ := r; rfl
  | none => exact dNext_eq ..
noncomputable def dGuard (P : Program) (ih : Ih) (pm wr : Tr Nat) (nx0 i : Nat) (s : Ds) (o : Oper) (g : Option (Bool × St)) : Option Ds := match g with
  | some (false, st1) => some (dSet s o st1 (.v undef))
  | some (true, st1) => dAsk P ih (rhoM s.T wr pm i) pm nx0 i s o st1 (askE P (rhoM s.T wr pm i) o)
  | none => none
noncomputable def dLive (P : Program) (ih : Ih) (ops : Array Oper) (pm wr : Tr Nat) (nx0 i : Nat) (s : Ds) (o : Oper) (b : Bool) : Option Ds := match b with
  | true => some (dSet s o s.st (.v undef))
  | false => dGuard P ih pm wr nx0 i s o (gE ops (rhoM s.T wr pm i) o s.st)
/-- What is asked of the region's text alone: the kernel keeps it from one run to the next. -/
def maskB (n : Nat) (pm wr : Tr Nat) (i : Nat) (o : Oper) : Bool := match maskOf pm i o.after.toList, pm.get i with
  | some p, some p' => Nat.beq p p' && dstOk n wr i o.dst
  | _, _ => false
noncomputable def dStep2 (P : Program) (ih : Ih) (ops : Array Oper) (pm wr : Tr Nat) (nx0 n i : Nat) (s : Ds) (o : Oper) (b : Bool) : Option Ds := match b with
  | true => dLive P ih ops pm wr nx0 i s o (deadB pm i s.pd)
  | false => none
noncomputable def dStep (P : Program) (ih : Ih) (ops : Array Oper) (pm wr : Tr Nat) (nx0 n i : Nat) (s : Ds) (o : Option Oper) : Option Ds := match o with
  | none => none
  | some o => dStep2 P ih ops pm wr nx0 n i s o (maskB n pm wr i o)
theorem dStep_eq (P : Program) (ih : Ih) (ops : Array Oper) (pm wr : Tr Nat) (nx0 n i : Nat) (s : Ds) : dStep P ih ops pm wr nx0 n i s ops[i]? = stepD P ih ops pm wr nx0 n i s := by
  unfold dStep stepD
  cases ops[i]? with
  | none => rfl
  | some o =>
    simp only [dStep2, maskB]
    cases maskOf pm i o.after.toList with
    | none => rfl
    | some p =>
      cases pm.get i with
      | none => rfl
      | some p' =>
        simp only
        cases Nat.beq p p' && dstOk n wr i o.dst with
        | false => rfl
        | true =>
          simp only [dLive]
          cases deadB pm i s.pd with
          | true => rfl
          | false =>
            simp only [dGuard]
            cases gE ops (rhoM s.T wr pm i) o s.st with
            | none => rfl
            | some g =>
              obtain ⟨g, st1⟩ := g
              cases g with
              | false => rfl
              | true => exact dAsk_eq ..
noncomputable def dSeqB (P : Program) (ih : Ih) (ops : Array Oper) (pm wr : Tr Nat) (nx0 n i : Nat) (s : Option Ds) : Option Ds := match s with
  | some s => dStep P ih ops pm wr nx0 n i s ops[i]?
  | none => none
noncomputable def dSeq (P : Program) (ih : Ih) (ops : Array Oper) (pm wr : Tr Nat) (nx0 n : Nat) (s0 : Ds) : Nat → Option Ds
  | 0 => some s0
  | i + 1 => dSeqB P ih ops pm wr nx0 n i (dSeq P ih ops pm wr nx0 n s0 i)
theorem dSeq_eq (P : Program) (ih : Ih) (ops : Array Oper) (pm wr : Tr Nat) (nx0 n : Nat) (s0 : Ds) : ∀ i, dSeq P ih ops pm wr nx0 n s0 i = seqD P ih ops pm wr nx0 n s0 i
  | 0 => rfl
  | i + 1 => by
    simp only [dSeq, seqD, dSeq_eq P ih ops pm wr nx0 n s0 i]
    cases seqD P ih ops pm wr nx0 n s0 i with
    | none => rfl
    | some s => exact dStep_eq ..
def dEnd (fr : Fr) (ops : Array Oper) (s : Option Ds) : Option (Fr × St × Option SV) := match s with
  | some s => some (endD fr ops s)
  | none => none
noncomputable def drF2 (P : Program) (ih : Ih) (fr : Fr) (ops : Array Oper) (st : St) (b : Bool) : Option (Fr × St × Option SV) := match b with
  | true => dEnd fr ops (dSeq P ih ops (mkMasks ops.toList 0 .leaf) (mkWr ops.toList 0 .leaf) st.m.nx fr.n (ds0 fr st) ops.size)
  | false => none
noncomputable def drF : Dr := fun P ih fr ops st => drF2 P ih fr ops st (P.follows .mixedOrders)
theorem drF_eq (P : Program) (ih : Ih) (fr : Fr) (ops : Array Oper) (st : St) : drF P ih fr ops st = drE P ih fr ops st := by
  unfold drF drE
  cases P.follows .mixedOrders with
  | false => rfl
  | true =>
    simp only [drF2, dSeq_eq]
    cases seqD P ih ops (mkMasks ops.toList 0 .leaf) (mkWr ops.toList 0 .leaf) st.m.nx fr.n (ds0 fr st) ops.size <;> rfl
end Go.Proofs.Ytnlcjlhcghgaoaa.EX
