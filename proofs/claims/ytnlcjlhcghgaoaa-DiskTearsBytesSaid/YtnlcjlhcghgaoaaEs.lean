
/-
  Runs by computation: the same machine in small pieces, the moves.
-/
import Derived.Test.YtnlcjlhcghgaoaaEr
namespace Go.Proofs.Ytnlcjlhcghgaoaa.EX
open Go Go.RowKit
set_option linter.unusedVariables false
set_option linter.unusedSimpArgs false
set_option linter.unusedSectionVars false
set_option maxRecDepth 10000
variable [FC]

/-! ### Functions that recover -/
abbrev DO := Option (Tr SV × St × Md)
noncomputable def dfStep (P : Program) (ih : Ih) (n : Nat) (o : Oper) (T1 : Tr SV) (st1 : St) (u : Md) (go : Tr SV → St → Md → DO) : DO := match o.op with
  | .call ⟨.builtin .recover, _, _⟩ => match u with
    | .pan x => go (putT n T1 o.dst (hdP x)) st1 (.rcv x)
    | u => go (putT n T1 o.dst (.v .nilIface)) st1 u
  | _ => match opRF P ih (rho T1) st1 o with
    | some (.val x, st2) => go (putT n T1 o.dst x) st2 u
    | _ => none
noncomputable def dfWant (P : Program) (ih : Ih) (n : Nat) (o : Oper) (u : Md) (go : Tr SV → St → Md → DO) (r : Option (Bool × Tr SV × St)) : DO := match r with
  | some (false, T1, st1) => go (putT n T1 o.dst (.v undef)) st1 u
  | some (true, T1, st1) => dfStep P ih n o T1 st1 u go
  | none => none
noncomputable def dfOp (P : Program) (ih : Ih) (n : Nat) (ops : Array Oper) (T : Tr SV) (st : St) (u : Md) (go : Tr SV → St → Md → DO) (o : Option Oper) : DO := match o with
  | none => go T st u
  | some o => dfWant P ih n o u go (wantE n T ops o st)
noncomputable def dopsF (P : Program) (ih : Ih) (n : Nat) (ops : Array Oper) : List Nat → Tr SV → St → Md → DO
  | [], T, st, u => some (T, st, u)
  | i :: l, T, st, u => dfOp P ih n ops T st u (dopsF P ih n ops l) ops[i]?
theorem dopsF_eq (P : Program) (ih : Ih) (n : Nat) (ops : Array Oper) : ∀ (l : List Nat) (T : Tr SV) (st : St) (u : Md), dopsF P ih n ops l T st u = dops P ih n ops l T st u
  | [], T, st, u => rfl
  | i :: l, T, st, u => by
    have e : dopsF P ih n ops l = dops P ih n ops l := by funext T st u; exact dopsF_eq P ih n ops l T st u
    unfold dopsF dops
    rw [e]
    cases ops[i]? with
    | none => rfl
    | some o =>
      simp only [dfOp]
      cases wantE n T ops o st with
      | none => rfl
      | some r =>
        obtain ⟨b, T1, st1⟩ := r
        cases b with
        | false => rfl
        | true =>
          obtain ⟨dst, op, ty, pos, after, guard⟩ := o
          have key : (match opRF P ih (rho T1) st1 ⟨dst, op, ty, pos, after, guard⟩ with
            | some (.val x, st2) => dops P ih n ops l (putT n T1 dst x) st2 u
            | _ => none) = (match opR P ih (rho T1) st1 ⟨dst, op, ty, pos, after, guard⟩ with
            | some (.val x, st2) => dops P ih n ops l (putT n T1 dst x) st2 u
            | _ => none) := by rw [opRF_eq]
          cases op
          case call c =>
            obtain ⟨cal, args, tys⟩ := c
            cases cal with
            | builtin b =>
              cases b
              case recover => cases u <;> rfl
              all_goals exact key
            | value x => exact key
            | invoke x m => exact key
          all_goals exact key

/-! ### Moves -/
def castQ2 (f : FuncId) (d : Option Nat) (x : SV) (K : Tr Bx) (nx : Nat) (lg : List Nat) (cnd : List (Value × Value)) (orc : List Value) : SV × St := match orc with
  | [] => (x, ⟨⟨K, nx, lg⟩, [], cnd⟩)
  | a :: l => castO f d x ⟨⟨K, nx, lg⟩, a :: l, cnd⟩
/-- The state is laid anew, so that the kernel need not look for its parts again and again. -/
def castQ (f : FuncId) (d : Option Nat) (x : SV) (st : St) : SV × St := match st with
  | ⟨⟨K, nx, lg⟩, orc, cnd⟩ => castQ2 f d x K nx lg cnd orc
theorem castQ_eq (f : FuncId) (d : Option Nat) (x : SV) (st : St) : castQ f d x st = castO f d x st := by
  obtain ⟨⟨K, nx, lg⟩, orc, cnd⟩ := st
  cases orc with
  | nil => cases x <;> rfl
  | cons a l => rfl
def sLeft (ih : Ih) (r : Option Ou) : Option Ou := match r with
  | some ⟨.fr fr u, st'⟩ => ih (.leave fr u) st'
  | _ => none
def sBody (ih : Ih) (f : FuncId) (args : List SV) (st : St) (fn : Option Func) : Option Ou := match fn with
  | some fn => match fn.body with
    | some c => sLeft ih (ih (.run (fr0 f fn args) [.code c]) st)
    | none => none
  | none => none
def sCall (P : Program) (ih : Ih) (f : FuncId) (args : List SV) (st : St) (k : Option Ou) : Option Ou := match k with
  | some o => some o
  | none => sBody ih f args st P.funcs[f]?
def sRes (st : St) (ys : Option (List SV)) : Option Ou := match ys with
  | some ys => some ⟨.ret (oneOf ys), st⟩
  | none => none
def sFin (P : Program) (fr : Fr) (u : Md) (st : St) : Option Ou := match u with
  | .ret => match P.funcs[fr.f]? with
    | some fn => sRes st (resE P fr.T st.m.K fn.results.toList)
    | none => none
  | .pan x => some ⟨.pan x, st⟩
  | .rcv _ => none
def sDfd (ih : Ih) (fr : Fr) (ds : List Df) (r : Option Ou) : Option Ou := match r with
  | some ⟨.md u', st'⟩ => ih (.leave ⟨fr.f, fr.n, fr.T, ds⟩ (settleM u')) st'
  | _ => none
def sLeave (P : Program) (ih : Ih) (fr : Fr) (u : Md) (st : St) (D : List Df) : Option Ou := match D with
  | [] => sFin P fr u st
  | d :: ds => match SX.entersB P d.fn with
    | true => sDfd ih fr ds (ih (.dcall d.fn (d.args ++ d.caps) u) st)
    | false => none
def sRec (P : Program) (ih : Ih) (f : FuncId) (n : Nat) (fn : Func) (rest : Code) (r : DO) : Option Ou := match r with
  | some (T, st1, u1) => endedR P fn u1 (ih (.run ⟨f, n, T, []⟩ [.code rest]) st1)
  | none => none
noncomputable def sDc (P : Program) (ih : Ih) (f : FuncId) (args : List SV) (u : Md) (st : St) (fn : Func) (c : Code) : Option Ou := match c with
  | .seq (.region _ ops false) rest => match hasRec ops with
    | true => sRec P ih f (fr0 f fn args).n fn rest (dopsF P ih (fr0 f fn args).n ops (List.range ops.size) (fr0 f fn args).T st u)
    | false => ended P fn u (ih (.run (fr0 f fn args) [.code c]) st)
  | c => ended P fn u (ih (.run (fr0 f fn args) [.code c]) st)
noncomputable def sDcall (P : Program) (ih : Ih) (f : FuncId) (args : List SV) (u : Md) (st : St) (fn : Option Func) : Option Ou := match fn with
  | some fn => match fn.body with
    | some c => sDc P ih f args u st fn c
    | none => none
  | none => none
def sVal (ih : Ih) (f : FuncId) (n : Nat) (D : List Df) (all : Array Oper) (o : Oper) (l : List Oper) (k : List SX.It) (T : Tr SV) (r : SV × St) : Option Ou := match r with
  | (x', st3) => ih (.run ⟨f, n, putT n T o.dst x', D⟩ (.ops all l :: k)) st3
def sOut (ih : Ih) (f : FuncId) (n : Nat) (D : List Df) (all : Array Oper) (o : Oper) (l : List Oper) (k : List SX.It) (T : Tr SV) (r : Option (Or × St)) : Option Ou := match r with
  | some (.val x, st2) => sVal ih f n D all o l k T (castQ f o.dst x st2)
  | some (.dfr d, st2) => ih (.run ⟨f, n, putT n T o.dst (.v undef), d :: D⟩ (.ops all l :: k)) st2
  | some (.pan x, st2) => some ⟨.fr ⟨f, n, T, D⟩ (.pan x), st2⟩
  | none => none
noncomputable def sWant (P : Program) (ih : Ih) (f : FuncId) (n : Nat) (D : List Df) (all : Array Oper) (o : Oper) (l : List Oper) (k : List SX.It) (r : Option (Bool × Tr SV × St)) : Option Ou := match r with
  | none => none
  | some (false, T, st1) => ih (.run ⟨f, n, putT n T o.dst (.v undef), D⟩ (.ops all l :: k)) st1
  | some (true, T, st1) => sOut ih f n D all o l k T (opRF P ih (rho T) st1 o)
noncomputable def sOps (P : Program) (ih : Ih) (f : FuncId) (n : Nat) (T : Tr SV) (D : List Df) (all : Array Oper) (k : List SX.It) (st : St) (l : List Oper) : Option Ou := match l with
  | [] => ih (.run ⟨f, n, T, D⟩ k) st
  | o :: l => sWant P ih f n D all o l k (wantE n T all o st)
def sRnd (ih : Ih) (fr : Fr) (c : Code) (k : List SX.It) (st : St) (n : Nat) : Option Ou := match n with
  | 0 => none
  | n + 1 => ih (.run fr (.code c :: .rnd n c :: k)) st
def sExit (ih : Ih) (fr : Fr) (st : St) (k : Option (List SX.It)) : Option Ou := match k with
  | some k' => ih (.run fr k') st
  | none => none
def sDrawn (ih : Ih) (k : List SX.It) (r : Option (Fr × St × Option SV)) : Option Ou := match r with
  | some (fr', st', none) => ih (.run fr' k) st'
  | some (fr', st', some x) => some ⟨.fr fr' (.pan x), st'⟩
  | none => none
noncomputable def sRegion (P : Program) (ih : Ih) (fr : Fr) (ops : Array Oper) (k : List SX.It) (st : St) (d : Bool) : Option Ou := match d with
  | false => ih (.run fr (.ops ops ops.toList :: k)) st
  | true => sDrawn ih k (drF P ih fr ops st)
def castF2 (f : FuncId) (n : Nat) (T : Tr SV) (D : List Df) (c : Operand) (b : Bool) : Fr := match c with
  | .tmp t => ⟨f, n, putT n T (some t) (.v (.bool b)), D⟩
  | _ => ⟨f, n, T, D⟩
def sAsk (ih : Ih) (f : FuncId) (n : Nat) (T : Tr SV) (D : List Df) (c : Operand) (x y : Code) (k : List SX.It) (r : Option (Bool × St)) : Option Ou := match r with
  | some (true, st') => ih (.run (castF2 f n T D c true) (.code x :: k)) st'
  | some (false, st') => ih (.run (castF2 f n T D c false) (.code y :: k)) st'
  | none => none
def sCond (ih : Ih) (f : FuncId) (n : Nat) (T : Tr SV) (D : List Df) (c : Operand) (x y : Code) (k : List SX.It) (st : St) (v : Option SV) : Option Ou := match v with
  | some v => sAsk ih f n T D c x y k (askB v st)
  | none => none
def sScope (ih : Ih) (fr : Fr) (c : Code) (st : St) (k : List SX.It) : Option Ou := match noOps k with
  | true => whole (ih (.run fr (.code c :: k)) st)
  | false => none
abbrev CodeFn := Program → Ih → FuncId → Nat → Tr SV → List Df → List SX.It → St → Option Ou
def cSkip : CodeFn := fun _ ih f n T D k st => ih (.run ⟨f, n, T, D⟩ k) st
noncomputable def cRegion (_ : Nat) (ops : Array Oper) (d : Bool) : CodeFn := fun P ih f n T D k st => sRegion P ih ⟨f, n, T, D⟩ ops k st d
def cSeq (x y : Code) (_ _ : CodeFn) : CodeFn := fun _ ih f n T D k st => ih (.run ⟨f, n, T, D⟩ (.code x :: .code y :: k)) st
def cCond (c : Operand) (x y : Code) (_ _ : CodeFn) : CodeFn := fun _ ih f n T D k st => sCond ih f n T D c x y k st (rho T c)
def cBlock (id : Nat) (c : Code) (_ : CodeFn) : CodeFn := fun _ ih f n T D k st => ih (.run ⟨f, n, T, D⟩ (.code c :: .blk id :: k)) st
def cLoop (c : Code) (_ : CodeFn) : CodeFn := fun _ ih f n T D k st => ih (.run ⟨f, n, T, D⟩ (.rnd 1000000 c :: k)) st
def cRange (_ : Operand) (_ : Array Tmp) (_ _ : Code) (_ _ : CodeFn) : CodeFn := fun _ _ _ _ _ _ _ _ => none
def cExit (id : Nat) : CodeFn := fun _ ih f n T D k st => sExit ih ⟨f, n, T, D⟩ st (SX.unw id k)
def cScope (c : Code) (_ : CodeFn) : CodeFn := fun _ ih f n T D k st => sScope ih ⟨f, n, T, D⟩ c st k
def cLabel (_ : Nat) : CodeFn := cSkip
def cGoto (_ : Nat) : CodeFn := fun _ _ _ _ _ _ _ _ => none
def cRet : CodeFn := fun _ _ f n T D _ st => some ⟨.fr ⟨f, n, T, D⟩ .ret, st⟩
def cRefuse (_ : String) : CodeFn := fun _ _ _ _ _ _ _ _ => none
noncomputable def codeK : Code → CodeFn := @Code.rec (fun _ => CodeFn) cSkip cRegion cSeq cCond cBlock cLoop cRange cExit cScope cLabel cGoto cRet cRefuse
abbrev ItFn := Program → Ih → FuncId → Nat → Tr SV → List Df → List SX.It → St → Option Ou
noncomputable def iCode (c : Code) : ItFn := codeK c
noncomputable def iOps (all : Array Oper) (l : List Oper) : ItFn := fun P ih f n T D k st => sOps P ih f n T D all k st l
def iBlk (_ : Nat) : ItFn := cSkip
def iRnd (m : Nat) (c : Code) : ItFn := fun _ ih f n T D k st => sRnd ih ⟨f, n, T, D⟩ c k st m
noncomputable def itK : SX.It → ItFn := @SX.It.rec (fun _ => ItFn) iCode iOps iBlk iRnd
noncomputable def sRun2 (P : Program) (ih : Ih) (f : FuncId) (n : Nat) (T : Tr SV) (D : List Df) (st : St) (k : List SX.It) : Option Ou := match k with
  | [] => some ⟨.fr ⟨f, n, T, D⟩ .ret, st⟩
  | i :: k => itK i P ih f n T D k st
noncomputable def sRun (P : Program) (ih : Ih) (st : St) (k : List SX.It) (fr : Fr) : Option Ou := match fr with
  | ⟨f, n, T, D⟩ => sRun2 P ih f n T D st k
abbrev JobFn := Program → KnG → Ih → St → Option Ou
noncomputable def jCall (f : FuncId) (args : List SV) : JobFn := fun P kn ih st => sCall P ih f args st (kn f args st)
noncomputable def jRun (fr : Fr) (k : List SX.It) : JobFn := fun P _ ih st => sRun P ih st k fr
noncomputable def jLeave (fr : Fr) (u : Md) : JobFn := fun P _ ih st => sLeave P ih fr u st fr.D
noncomputable def jDcall (f : FuncId) (args : List SV) (u : Md) : JobFn := fun P _ ih st => sDcall P ih f args u st P.funcs[f]?
noncomputable def jobK : Job → JobFn := @Job.rec (fun _ => JobFn) jCall jRun jLeave jDcall
noncomputable def stepF (P : Program) (kn : KnG) (ih : Ih) (j : Job) (st : St) : Option Ou := jobK j P kn ih st
theorem stepF_eq (P : Program) (kn : KnG) (ih : Ih) (j : Job) (st : St) : stepF P kn ih j st = stepJ P kn drE ih j st := by
  cases j with
  | call f args =>
    simp only [stepF, stepJ, jobK, jCall]
    cases kn f args st with
    | some r => rfl
    | none =>
      simp only [sCall]
      cases P.funcs[f]? with
      | none => rfl
      | some fn =>
        simp only [sBody]
        cases fn.body with
        | none => rfl
        | some c =>
          simp only
          cases ih (.run (fr0 f fn args) [.code c]) st with
          | none => rfl
          | some r => obtain ⟨e, s⟩ := r; cases e <;> rfl
  | leave fr u =>
    simp only [stepF, stepJ, jobK, jLeave]
    cases fr.D with
    | nil =>
      simp only [sLeave]
      cases u with
      | ret =>
        simp only [sFin]
        cases P.funcs[fr.f]? with
        | none => rfl
        | some fn => simp only; cases resE P fr.T st.m.K fn.results.toList <;> rfl
      | _ => rfl
    | cons d ds =>
      simp only [sLeave]
      cases SX.entersB P d.fn with
      | false => rfl
      | true =>
        simp only
        cases ih (.dcall d.fn (d.args ++ d.caps) u) st with
        | none => rfl
        | some r => obtain ⟨e, s⟩ := r; cases e <;> rfl
  | dcall f args u =>
    simp only [stepF, stepJ, jobK, jDcall]
    cases P.funcs[f]? with
    | none => rfl
    | some fn =>
      simp only [sDcall]
      cases fn.body with
      | none => rfl
      | some c =>
        simp only
        cases c <;> try rfl
        rename_i a rest
        cases a <;> try rfl
        rename_i id ops d
        cases d
        · simp only [sDc]
          cases hasRec ops with
          | false => rfl
          | true =>
            simp only [dopsF_eq]
            cases dops P ih (fr0 f fn args).n ops (List.range ops.size) (fr0 f fn args).T st u with
            | none => rfl
            | some r => rfl
        · rfl
  | run fr k =>
    obtain ⟨f, n, T, D⟩ := fr
    cases k with
    | nil => rfl
    | cons i k =>
      cases i with
      | code c =>
        cases c
        case exit id => simp only [stepF, stepJ, jobK, jRun, sRun, sRun2, itK, iCode, codeK, cExit, cRegion, cCond]; cases SX.unw id k <;> rfl
        case region id ops d =>
          cases d
          · rfl
          · simp only [stepF, stepJ, jobK, jRun, sRun, sRun2, itK, iCode, codeK, cExit, cRegion, cCond, sRegion, drF_eq]
            cases drE P ih ⟨f, n, T, D⟩ ops st with
            | none => rfl
            | some r => obtain ⟨fr', st', x⟩ := r; cases x <;> rfl
        case cond c x y =>
          simp only [stepF, stepJ, jobK, jRun, sRun, sRun2, itK, iCode, codeK, cExit, cRegion, cCond]
          cases rho T c with
          | none => rfl
          | some v =>
            simp only [sCond]
            cases askB v st with
            | none => rfl
            | some r => obtain ⟨b, s⟩ := r; cases b <;> cases c <;> rfl
        case scope c => rfl
        all_goals rfl
      | ops all l =>
        cases l with
        | nil => rfl
        | cons o l =>
          simp only [stepF, stepJ, jobK, jRun, sRun, sRun2, itK, iOps, sOps]
          cases wantE n T all o st with
          | none => rfl
          | some r =>
            obtain ⟨b, T, st1⟩ := r
            cases b with
            | false => rfl
            | true =>
              simp only [sWant, opRF_eq]
              cases opR P ih (rho T) st1 o with
              | none => rfl
              | some r =>
                obtain ⟨r, s⟩ := r
                cases r with
                | val x => simp only [sOut, castQ_eq]; rfl
                | _ => rfl
      | blk id => rfl
      | rnd n c => cases n <;> rfl
/-- So many moves at most. -/
noncomputable def goF (P : Program) (kn : KnG) (n : Nat) : Job → St → Option Ou := Nat.rec (fun _ _ => none) (fun _ ih => stepF P kn ih) n
theorem goF_eq (P : Program) (kn : KnG) : ∀ n, goF P kn n = goJ P kn drE n
  | 0 => rfl
  | n + 1 => by
    funext j st
    show stepF P kn (goF P kn n) j st = stepJ P kn drE (goJ P kn drE n) j st
    rw [goF_eq P kn n, stepF_eq]
end Go.Proofs.Ytnlcjlhcghgaoaa.EX
