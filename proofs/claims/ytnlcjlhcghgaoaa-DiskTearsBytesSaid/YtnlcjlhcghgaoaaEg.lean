
/-
  Runs by computation: the machine.
-/
import Derived.Test.YtnlcjlhcghgaoaaEf
namespace Go.Proofs.Ytnlcjlhcghgaoaa.EX
open Go Go.RowKit
set_option linter.unusedVariables false
set_option linter.unusedSimpArgs false
set_option linter.unusedSectionVars false
set_option maxRecDepth 10000
variable [FC]

def resE (P : Program) (T : Tr SV) (K : Tr Bx) : List ResultVar → Option (List SV)
  | [] => some []
  | .tmp t :: r => match T.get t, resE P T K r with
    | some x, some l => some (x :: l)
    | _, _ => none
  | .cell t ty :: r => match T.get t with
    | some (.p i o) => match K.get i with
      | some k => match ldE P ty k.cs o, resE P T K r with
        | some x, some l => some (x :: l)
        | _, _ => none
      | none => none
    | _ => none
def oneOf : List SV → SV
  | [x] => x
  | l => mkTup l
def T0 : List SV → Nat → Tr SV
  | [], _ => .leaf
  | x :: l, i => match tinyB i with
    | true => (T0 l (i + 1)).set i (some x)
    | false => .leaf
def hasRec (ops : Array Oper) : Bool := ops.toList.any fun o => match o.op with
  | .call ⟨.builtin .recover, _, _⟩ => true
  | _ => false
def dops (P : Program) (ih : Job → St → Option Ou) (n : Nat) (ops : Array Oper) : List Nat → Tr SV → St → Md → Option (Tr SV × St × Md)
  | [], T, st, u => some (T, st, u)
  | i :: l, T, st, u => match ops[i]? with
    | none => dops P ih n ops l T st u
    | some o => match wantE n T ops o st with
      | some (false, T1, st1) => dops P ih n ops l (putT n T1 o.dst (.v undef)) st1 u
      | some (true, T1, st1) => match o.op with
        | .call ⟨.builtin .recover, _, _⟩ => match u with
          | .pan x => dops P ih n ops l (putT n T1 o.dst (hdP x)) st1 (.rcv x)
          | u => dops P ih n ops l (putT n T1 o.dst (.v .nilIface)) st1 u
        | _ => match opR P ih (rho T1) st1 o with
          | some (.val x, st2) => dops P ih n ops l (putT n T1 o.dst x) st2 u
          | _ => none
      | none => none
abbrev Dr := Program → (Job → St → Option Ou) → Fr → Array Oper → St → Option (Fr × St × Option SV)
def castF (fr : Fr) (c : Operand) (b : Bool) : Fr :=
  match c with
  | .tmp t => fr.put (some t) (.v (.bool b))
  | _ => fr
def fr0 (f : FuncId) (fn : Func) (args : List SV) : Fr := ⟨f, args.length + (fn.ntmps - args.length), T0 args 0, []⟩
def ended (P : Program) (fn : Func) (u : Md) : Option Ou → Option Ou
  | some ⟨.fr fr .ret, st⟩ => match fr.D, resE P fr.T st.m.K fn.results.toList with
    | [], some _ => some ⟨.md u, st⟩
    | _, _ => none
  | _ => none
/-- A deferred function that recovers may also panic anew. -/
def endedR (P : Program) (fn : Func) (u : Md) : Option Ou → Option Ou
  | some ⟨.fr fr .ret, st⟩ => match fr.D, resE P fr.T st.m.K fn.results.toList with
    | [], some _ => some ⟨.md u, st⟩
    | _, _ => none
  | some ⟨.fr fr (.pan x), st⟩ => match fr.D, u with
    | [], .rcv y => some ⟨.md (.pan (joinP x y)), st⟩
    | [], .ret => some ⟨.md (.pan x), st⟩
    | _, _ => none
  | _ => none
/-- Functions whose results are known. -/
abbrev Kn := FuncId → List SV → Option (SV × List (Value × Value))
/-- Known results of any kind: new boxes, panics, asks. -/
abbrev KnG := FuncId → List SV → St → Option Ou
def gk (kn : Kn) : KnG := fun f args st => match kn f args with
  | some (v, cs) => some ⟨.ret v, ⟨st.m, st.orc, cs ++ st.cnd⟩⟩
  | none => none
/-- No run that stopped on the way. -/
def whole : Option Ou → Option Ou
  | some ⟨.mid _ _, _⟩ => none
  | o => o
def noOps : List SX.It → Bool
  | [] => true
  | .ops _ _ :: _ => false
  | _ :: k => noOps k
def stepJ (P : Program) (kn : KnG) (dr : Dr) (ih : Job → St → Option Ou) : Job → St → Option Ou
  | .call f args, st => match kn f args st with
    | some o => some o
    | none => match P.funcs[f]? with
      | some fn => match fn.body with
        | some c => match ih (.run (fr0 f fn args) [.code c]) st with
          | some ⟨.fr fr u, st'⟩ => ih (.leave fr u) st'
          | _ => none
        | none => none
      | none => none
  | .leave fr u, st => match fr.D with
    | [] => match u with
      | .ret => match P.funcs[fr.f]? with
        | some fn => match resE P fr.T st.m.K fn.results.toList with
          | some ys => some ⟨.ret (oneOf ys), st⟩
          | none => none
        | none => none
      | .pan x => some ⟨.pan x, st⟩
      | .rcv _ => none
    | d :: ds => match SX.entersB P d.fn with
      | true => match ih (.dcall d.fn (d.args ++ d.caps) u) st with
        | some ⟨.md u', st'⟩ => ih (.leave ⟨fr.f, fr.n, fr.T, ds⟩ (settleM u')) st'
        | _ => none
      | false => none
  | .dcall f args u, st => match P.funcs[f]? with
    | some fn => match fn.body with
      | some c => match c with
        | .seq (.region _ ops false) rest => match hasRec ops with
          | true => match dops P ih (fr0 f fn args).n ops (List.range ops.size) (fr0 f fn args).T st u with
            | some (T, st1, u1) => endedR P fn u1 (ih (.run ⟨f, (fr0 f fn args).n, T, []⟩ [.code rest]) st1)
            | none => none
          | false => ended P fn u (ih (.run (fr0 f fn args) [.code c]) st)
        | c => ended P fn u (ih (.run (fr0 f fn args) [.code c]) st)
      | none => none
    | none => none
  | .run fr k, st => match k with
    | [] => some ⟨.fr fr .ret, st⟩
    | .ops _ [] :: k => ih (.run fr k) st
    | .ops all (o :: l) :: k => match wantE fr.n fr.T all o st with
      | none => none
      | some (false, T, st1) => ih (.run ((Fr.mk fr.f fr.n T fr.D).put o.dst (.v undef)) (.ops all l :: k)) st1
      | some (true, T, st1) => match opR P ih (rho T) st1 o with
        | some (.val x, st2) => match castO fr.f o.dst x st2 with
          | (x', st3) => ih (.run ((Fr.mk fr.f fr.n T fr.D).put o.dst x') (.ops all l :: k)) st3
        | some (.dfr d, st2) => ih (.run ((Fr.mk fr.f fr.n T (d :: fr.D)).put o.dst (.v undef)) (.ops all l :: k)) st2
        | some (.pan x, st2) => some ⟨.fr ⟨fr.f, fr.n, T, fr.D⟩ (.pan x), st2⟩
        | none => none
    | .blk _ :: k => ih (.run fr k) st
    | .rnd n c :: k => match n with
      | 0 => none
      | n + 1 => ih (.run fr (.code c :: .rnd n c :: k)) st
    | .code c :: k => match c with
      | .skip => ih (.run fr k) st
      | .seq x y => ih (.run fr (.code x :: .code y :: k)) st
      | .block id c => ih (.run fr (.code c :: .blk id :: k)) st
      | .loop c => ih (.run fr (.rnd 1000000 c :: k)) st
      | .exit id => match SX.unw id k with
        | some k' => ih (.run fr k') st
        | none => none
      | .region _ ops false => ih (.run fr (.ops ops ops.toList :: k)) st
      | .region _ ops true => match dr P ih fr ops st with
        | some (fr', st', none) => ih (.run fr' k) st'
        | some (fr', st', some x) => some ⟨.fr fr' (.pan x), st'⟩
        | none => none
      | .cond c x y => match rho fr.T c with
        | some v => match askB v st with
          | some (true, st') => ih (.run (castF fr c true) (.code x :: k)) st'
          | some (false, st') => ih (.run (castF fr c false) (.code y :: k)) st'
          | none => none
        | none => none
      | .ret => some ⟨.fr fr .ret, st⟩
      | .label _ => ih (.run fr k) st
      | .scope c => match noOps k with
        | true => whole (ih (.run fr (.code c :: k)) st)
        | false => none
      | _ => none
/-- So many moves at most. -/
def goJ (P : Program) (kn : KnG) (dr : Dr) (n : Nat) : Job → St → Option Ou := Nat.rec (fun _ _ => none) (fun _ ih => stepJ P kn dr ih) n
def KnOk (P : Program) (kn : Kn) : Prop := ∀ f args v cs, kn f args = some (v, cs) → bd (fun _ => False) v ∧ (Tru cs → ∀ B w, Calls P f (denL B args).toArray w fun e w' => e = .returned (den B v) ∧ Below w.heap.size w w')

section
variable {P : Program} {w0 : World} {F : List RF} {B : Pl} {S : Nat → Prop} {m : Mm} {a : Act} {w : World}
theorem resE_mapM {T : Tr SV} {K : Tr Bx} {g : ResultVar → Option Value} (hg : ∀ rv, g rv = ((resE P T K [rv]).bind (·.head?)).map (den B)) : ∀ (l : List ResultVar) {ys : List SV}, resE P T K l = some ys → l.mapM g = some (ys.map (den B))
  | [], ys, h => by simp [resE] at h; subst h; rfl
  | .tmp t :: l, ys, h => by
    simp only [resE] at h
    cases hx : T.get t with
    | none => rw [hx] at h; simp at h
    | some x =>
      cases hl : resE P T K l with
      | none => rw [hx, hl] at h; simp at h
      | some l' =>
        rw [hx, hl] at h; simp only [Option.some.injEq] at h; subst h
        rw [List.mapM_cons, hg, resE_mapM hg l hl]
        simp [resE, hx]
  | .cell t ty :: l, ys, h => by
    simp only [resE] at h
    split at h
    · rename_i i o hx
      cases hK : K.get i with
      | none => rw [hK] at h; simp at h
      | some k =>
        rw [hK] at h; simp only at h
        cases hv : ldE P ty k.cs o with
        | none => rw [hv] at h; simp at h
        | some v =>
          cases hl : resE P T K l with
          | none => rw [hv, hl] at h; simp at h
          | some l' =>
            rw [hv, hl] at h; simp only [Option.some.injEq] at h; subst h
            rw [List.mapM_cons, hg, resE_mapM hg l hl]
            simp [resE, hx, hK, hv]
    · cases h
theorem oneOf_den (B : Pl) (ys : List SV) : den B (oneOf ys) = if h : (ys.map (den B)).toArray.size = 1 then (ys.map (den B)).toArray[0] else .tuple (ys.map (den B)).toArray := by
  unfold oneOf
  split
  · simp
  · rename_i hne
    rw [mkTup_den, denL_map]
    match ys with
    | [] => simp
    | [x] => exact absurd rfl (hne x)
    | x :: y :: l => simp
theorem resE_bd {T : Tr SV} {n : Nat} (R : Re w0 F B m.K.get S w) (A : Ra B T.get n S a) : ∀ {l : List ResultVar} {ys : List SV}, resE P T m.K l = some ys → bdL S ys
  | [], ys, h => by simp [resE] at h; subst h; simp [bdL]
  | .tmp t :: l, ys, h => by
    simp only [resE] at h
    split at h
    · rename_i x l' hx hl
      simp only [Option.some.injEq] at h; subst h
      exact ⟨(A.tm t x hx).2, resE_bd R A hl⟩
    · cases h
  | .cell t ty :: l, ys, h => by
    simp only [resE] at h
    split at h
    · rename_i i o hx
      split at h
      · rename_i k hK
        split at h
        · rename_i x l' hv hl
          simp only [Option.some.injEq] at h; subst h
          exact ⟨(R.ld hK hv).2, resE_bd R A hl⟩
        · cases h
      · cases h
    · cases h
theorem resE_run {T : Tr SV} {n : Nat} (R : Re w0 F B m.K.get S w) (A : Ra B T.get n S a) {fn : Func} {ys : List SV} (h : resE P T m.K fn.results.toList = some ys) :
    (results fn a.tmps).run P w = .ok (den B (oneOf ys)) w ∧ bd S (oneOf ys) := by
  have hm : (fn.results.mapM (SX.resOp a.tmps)).run P w = .ok (ys.map (den B)).toArray w := by
    rw [← Array.toArray_toList (xs := fn.results), List.mapM_toArray, Sem.run_map]
    rw [SX.mapM_run (g := fun rv => ((resE P T m.K [rv]).bind (·.head?)).map (den B)) fn.results.toList ?_ (resE_mapM (fun _ => rfl) _ h)]
    · rfl
    · intro rv _ y hy
      cases rv with
      | tmp t =>
        simp only [resE] at hy
        cases hx : T.get t with
        | none => rw [hx] at hy; simp at hy
        | some x =>
          rw [hx] at hy
          simp at hy
          subst hy
          have := (A.tm t x hx).1
          simp [SX.resOp, Array.getD_eq_getD_getElem?, this]
      | cell t ty =>
        simp only [resE] at hy
        split at hy
        · rename_i i o hx
          cases hK : m.K.get i with
          | none => rw [hK] at hy; simp at hy
          | some k =>
            rw [hK] at hy; simp only at hy
            cases hv : ldE P ty k.cs o with
            | none => rw [hv] at hy; simp at hy
            | some v =>
              rw [hv] at hy
              simp at hy
              subst hy
              have := (A.tm t _ hx).1
              have e : a.tmps.getD t undef = .pointer (some ⟨(B i).1, o, none⟩) := by simp [Array.getD_eq_getD_getElem?, this, den]
              simp only [SX.resOp, e, asAddr, Sem.run_bind, Sem.run_pure, Result.andThen_ok]
              exact (R.ld hK hv).1
        · simp at hy
  refine ⟨?_, ?_⟩
  · rw [SX.results_op, Sem.run_bind, hm]
    simp only [Result.andThen_ok, Sem.run_pure]
    rw [oneOf_den]
  · have := resE_bd R A h
    unfold oneOf
    split
    · simpa [bdL] using this
    · exact mkTup_bd this
theorem T0_get : ∀ (l : List SV) (i t : Nat) {x : SV}, (T0 l i).get t = some x → i ≤ t ∧ l[t - i]? = some x
  | [], i, t, x, h => by rw [T0, Tr.get_leaf] at h; cases h
  | y :: l, i, t, x, h => by
    rw [T0] at h
    cases hb : tinyB i with
    | false => rw [hb] at h; simp only at h; rw [Tr.get_leaf] at h; cases h
    | true =>
      rw [hb] at h
      simp only [Tr.get_set hb, setF] at h
      by_cases e : t = i
      · subst e; simp at h; subst h; simp
      · rw [if_neg e] at h
        obtain ⟨h1, h2⟩ := T0_get l (i + 1) t h
        refine ⟨by omega, ?_⟩
        rw [show t - i = (t - (i + 1)) + 1 by omega]
        simpa using h2
theorem fr0_ok {f : FuncId} {fn : Func} {args : List SV} (hb : bdL S args) : Rf B (fr0 f fn args) S { tmps := (denL B args).toArray ++ Array.replicate (fn.ntmps - (denL B args).toArray.size) undef, defers := [] } := by
  refine ⟨⟨by simp [fr0, denL_length], fun t x h => ?_⟩, rfl, fun d hd => by cases hd⟩
  obtain ⟨h1, h2⟩ := T0_get args 0 t h
  rw [Nat.sub_zero] at h2
  have hl := (List.getElem?_eq_some_iff.1 h2).1
  have e := (List.getElem?_eq_some_iff.1 h2).2
  refine ⟨?_, bdL_iff.1 hb x (List.mem_of_getElem? h2)⟩
  have hl' : t < (denL B args).toArray.size := by simpa [denL_length] using hl
  rw [Array.getElem?_append_left hl']
  simp [denL_map, hl, e]
end
end Go.Proofs.Ytnlcjlhcghgaoaa.EX
