
/-
  Runs by computation: a region that draws its order.
-/
import Derived.Test.YtnlcjlhcghgaoaaEj
namespace Go.Proofs.Ytnlcjlhcghgaoaa.EX
open Go Go.RowKit
set_option linter.unusedVariables false
set_option linter.unusedSimpArgs false
set_option linter.unusedSectionVars false
set_option maxRecDepth 10000
variable [FC]

/-- What an operation of a drawn region looks at: no memory; one variable; makes one; all that it may. -/
inductive Kd where
  | pure
  | one (a : Nat)
  | new
  | chain (mk : List (Nat × Nat))
structure Ds where
  T : Tr SV
  st : St
  cl : List (Nat × List Nat)
  nl : List (Nat × Nat)
  ol : List (Nat × Nat × Nat)
  rl : List (Nat × Nat)
  x : SV
  wl : List Nat
  kd : Kd
  pd : Option (Nat × SV × Mm)
def maskOf (pm : Tr Nat) (i : Nat) : List Edge → Option Nat
  | [] => some 0
  | e :: l => match Region.binds .any e with
    | false => maskOf pm i l
    | true => match Nat.blt e.on i, pm.get e.on, maskOf pm i l with
      | true, some q, some r => some ((r ||| q) ||| (1 <<< e.on))
      | _, _, _ => none
def mkMasks : List Oper → Nat → Tr Nat → Tr Nat
  | [], _, t => t
  | o :: l, i, t => mkMasks l (i + 1) (t.set i (maskOf t i o.after.toList))
def mkWr : List Oper → Nat → Tr Nat → Tr Nat
  | [], _, t => t
  | o :: l, i, t => mkWr l (i + 1) (match o.dst with
    | some d => t.set d (some i)
    | none => t)
def dstOk (n : Nat) (wr : Tr Nat) (i : Nat) : Option Nat → Bool
  | none => true
  | some d => match wr.get d with
    | some k => Nat.beq k i && Nat.blt d n && tinyB d
    | none => false
def setD (T : Tr SV) (d : Option Nat) (x : SV) : Tr SV :=
  match d with
  | none => T
  | some d => T.set d (some x)
def bitOf (pm : Tr Nat) (i k : Nat) : Bool :=
  match pm.get i with
  | some p => p.testBit k
  | none => false
def ordB (pm : Tr Nat) (i k : Nat) : Bool := Nat.beq k i || bitOf pm i k || bitOf pm k i
/-- The slots that an operation may read. -/
def rhoM (T : Tr SV) (wr pm : Tr Nat) (i : Nat) : Rho
  | .tmp t => match wr.get t with
    | none => T.get t
    | some k => match ordB pm i k with
      | true => T.get t
      | false => none
  | x => rho T x
def gE (ops : Array Oper) (ρ : Rho) (o : Oper) (st : St) : Option (Bool × St) :=
  match o.guard with
  | none => some (true, st)
  | some (j, want) => match ops[j]? with
    | some oj => match oj.dst with
      | some d => match ρ (.tmp d) with
        | some (.v (.tuple _)) => some (false, st)
        | some v => match askB v st with
          | some (b, st') => some (b == want, st')
          | none => none
        | none => none
      | none => none
    | none => none
def maskK : List (Nat × Nat) → Tr Bx → Tr Bx
  | [], K => K
  | q :: l, K => (maskK l K).set q.2 none
def unmaskK (K0 : Tr Bx) : List (Nat × Nat) → Tr Bx → Tr Bx
  | [], K => K
  | q :: l, K => (unmaskK K0 l K).set q.2 (K0.get q.2)
def seenB (nx0 : Nat) (pm : Tr Nat) (i : Nat) (ol : List (Nat × Nat × Nat)) (a : Nat) : Bool :=
  Nat.blt a nx0 || ol.any fun q => bitOf pm i q.1 && Nat.ble q.2.1 a && Nat.blt a q.2.2
def chainB (pm : Tr Nat) (i : Nat) : List (Nat × List Nat) → Bool
  | [] => true
  | c :: _ => bitOf pm i c.1
def nextD0 (P : Program) (ih : Job → St → Option Ou) (ρ : Rho) (pm : Tr Nat) (nx0 i : Nat) (s : Ds) (o : Oper) (st1 : St) : Option Ds :=
  match opE P ρ ⟨.leaf, st1.m.nx, []⟩ o with
  | some (x, m') => match Nat.beq m'.nx st1.m.nx with
    | true => some ⟨setD s.T o.dst x, st1, s.cl, s.nl, s.ol, s.rl, x, [], .pure, s.pd⟩
    | false => match m'.K.get st1.m.nx, tinyB st1.m.nx && Nat.beq m'.nx (st1.m.nx + 1) with
      | some k, true => some ⟨setD s.T o.dst x, ⟨⟨st1.m.K.set st1.m.nx (some k), st1.m.nx + 1, st1.m.lg⟩, st1.orc, st1.cnd⟩, s.cl, (i, st1.m.nx) :: s.nl, (i, st1.m.nx, st1.m.nx + 1) :: s.ol, s.rl, x, [], .new, s.pd⟩
      | _, _ => none
  | none => match o.op with
    | .load ty y => match ρ y with
      | some (.p a off) => match st1.m.K.get a with
        | some k => match ldE P ty k.cs off, seenB nx0 pm i s.ol a && s.cl.all fun c => bitOf pm i c.1 || !(c.2.contains a) with
          | some x, true => some ⟨setD s.T o.dst x, st1, s.cl, s.nl, s.ol, (i, a) :: s.rl, x, [], .one a, s.pd⟩
          | _, _ => none
        | none => none
      | _ => none
    | _ => match chainB pm i s.cl with
      | true => match opR P ih ρ ⟨⟨maskK (s.nl.filter fun q => !bitOf pm i q.1) st1.m.K, st1.m.nx, []⟩, st1.orc, st1.cnd⟩ o with
        | some (.val x, st2) => match (s.rl.all fun r => bitOf pm i r.1 || !(st2.m.lg.contains r.2)) && (s.nl.filter fun q => !bitOf pm i q.1).all fun q => tinyB q.2 with
          | true => some ⟨setD s.T o.dst x, ⟨⟨unmaskK st1.m.K (s.nl.filter fun q => !bitOf pm i q.1) st2.m.K, st2.m.nx, st2.m.lg ++ st1.m.lg⟩, st2.orc, st2.cnd⟩, (i, st2.m.lg) :: s.cl, s.nl, (i, st1.m.nx, st2.m.nx) :: s.ol, s.rl, x, st2.m.lg, .chain (s.nl.filter fun q => !bitOf pm i q.1), s.pd⟩
          | false => none
        | some (.pan x, st2) => match s.pd, (s.rl.all fun r => bitOf pm i r.1 || !(st2.m.lg.contains r.2)) && (s.nl.filter fun q => !bitOf pm i q.1).all fun q => tinyB q.2 with
          | none, true => some ⟨setD s.T o.dst (.v undef), ⟨⟨unmaskK st1.m.K (s.nl.filter fun q => !bitOf pm i q.1) st2.m.K, st2.m.nx, st2.m.lg ++ st1.m.lg⟩, st2.orc, st2.cnd⟩, (i, st2.m.lg) :: s.cl, s.nl, (i, st1.m.nx, st2.m.nx) :: s.ol, s.rl, .v undef, st2.m.lg, .chain (s.nl.filter fun q => !bitOf pm i q.1), some (i, x, st2.m)⟩
          | _, _ => none
        | _ => none
      | false => none
def nextD (P : Program) (ih : Job → St → Option Ou) (ρ : Rho) (pm : Tr Nat) (nx0 i : Nat) (s : Ds) (o : Oper) (st1 : St) : Option Ds :=
  match askE P ρ o with
  | some (x, ps) => some ⟨setD s.T o.dst x, ⟨st1.m, st1.orc, ps ++ st1.cnd⟩, s.cl, s.nl, s.ol, s.rl, x, [], .pure, s.pd⟩
  | none => nextD0 P ih ρ pm nx0 i s o st1
/-- After an operation that has panicked. -/
def deadB (pm : Tr Nat) (i : Nat) : Option (Nat × SV × Mm) → Bool
  | none => false
  | some q => bitOf pm i q.1
def stepD (P : Program) (ih : Job → St → Option Ou) (ops : Array Oper) (pm wr : Tr Nat) (nx0 n i : Nat) (s : Ds) : Option Ds :=
  match ops[i]? with
  | none => none
  | some o => match maskOf pm i o.after.toList, pm.get i with
    | some p, some p' => match Nat.beq p p' && dstOk n wr i o.dst with
      | true => match deadB pm i s.pd with
        | true => some ⟨setD s.T o.dst (.v undef), s.st, s.cl, s.nl, s.ol, s.rl, .v undef, [], .pure, s.pd⟩
        | false => match gE ops (rhoM s.T wr pm i) o s.st with
          | some (false, st1) => some ⟨setD s.T o.dst (.v undef), st1, s.cl, s.nl, s.ol, s.rl, .v undef, [], .pure, s.pd⟩
          | some (true, st1) => nextD P ih (rhoM s.T wr pm i) pm nx0 i s o st1
          | none => none
      | false => none
    | _, _ => none
def seqD (P : Program) (ih : Job → St → Option Ou) (ops : Array Oper) (pm wr : Tr Nat) (nx0 n : Nat) (s0 : Ds) : Nat → Option Ds
  | 0 => some s0
  | i + 1 => match seqD P ih ops pm wr nx0 n s0 i with
    | some s => stepD P ih ops pm wr nx0 n i s
    | none => none
def ds0 (fr : Fr) (st : St) : Ds := ⟨fr.T, st, [], [], [], [], .v undef, [], .pure, none⟩
/-- The slots that no operation writes. -/
def clrT : List Oper → Tr SV → Tr SV
  | [], T => T
  | o :: l, T => match o.dst with
    | none => clrT l T
    | some d => match tinyB d with
      | true => (clrT l T).set d none
      | false => .leaf
def endD (fr : Fr) (ops : Array Oper) (s : Ds) : Fr × St × Option SV :=
  match s.pd with
  | none => (⟨fr.f, fr.n, s.T, fr.D⟩, s.st, none)
  | some q => (⟨fr.f, fr.n, clrT ops.toList fr.T, fr.D⟩, ⟨⟨q.2.2.K, s.st.m.nx, s.st.m.lg⟩, s.st.orc, s.st.cnd⟩, some q.2.1)
def drE : Dr := fun P ih fr ops st => match P.follows .mixedOrders with
  | true => match seqD P ih ops (mkMasks ops.toList 0 .leaf) (mkWr ops.toList 0 .leaf) st.m.nx fr.n (ds0 fr st) ops.size with
    | some s => some (endD fr ops s)
    | none => none
  | false => none
end Go.Proofs.Ytnlcjlhcghgaoaa.EX
