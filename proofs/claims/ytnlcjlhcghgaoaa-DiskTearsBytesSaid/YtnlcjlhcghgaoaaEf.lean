
/-
  Runs by computation: operations that call, panic, defer; what is asked.
-/
import Derived.Test.YtnlcjlhcghgaoaaEe
import Derived.Recover
namespace Go.Proofs.Ytnlcjlhcghgaoaa.EX
open Go Go.RowKit
set_option linter.unusedVariables false
set_option linter.unusedSimpArgs false
set_option linter.unusedSectionVars false
set_option maxRecDepth 10000
variable [FC]

structure Df where
  fn : FuncId
  args : List SV
  caps : List SV
/-- How a function ends, seen from its deferred calls: it returns, it panics, its panic was recovered. -/
inductive Md where
  | ret
  | pan (x : SV)
  | rcv (x : SV)
structure Fr where
  f : FuncId
  n : Nat
  T : Tr SV
  D : List Df
structure St where
  m : Mm
  orc : List Value
  cnd : List (Value × Value)
inductive En where
  | ret (x : SV)
  | pan (x : SV)
  | md (u : Md)
  | fr (fr : Fr) (u : Md)
  | mid (fr : Fr) (k : List SX.It)
structure Ou where
  e : En
  st : St
inductive Job where
  | call (f : FuncId) (args : List SV)
  | run (fr : Fr) (k : List SX.It)
  | leave (fr : Fr) (u : Md)
  | dcall (f : FuncId) (args : List SV) (u : Md)
def rho (T : Tr SV) : Rho
  | .tmp t => T.get t
  | .const v => some (.v v)
  | .func f => some (.v (.func (.func f) #[] #[]))
  | .global _ => none
def denD (B : Pl) (d : Df) : Deferred := { target := .fn (.func d.fn) (denL B d.caps).toArray, args := (denL B d.args).toArray }
def bdD (n : Nat → Prop) (d : Df) : Prop := bdL n d.args ∧ bdL n d.caps
def bdM (n : Nat → Prop) : Md → Prop
  | .ret => True
  | .pan x => bd n x
  | .rcv x => bd n x
def ent (v : Value) (b : Bool) : PanicEntry := { v := v, recovered := b }
/-- The last value of a panic, and what was recovered before it: a tuple tells all of them. -/
def hdP : SV → SV
  | .t (x :: _) => x
  | x => x
def tlP : SV → List SV
  | .t (_ :: l) => l
  | _ => []
def joinP (x y : SV) : SV := .t (hdP x :: (tlP x ++ hdP y :: tlP y))
def chn (B : Pl) (b : Bool) (x : SV) : List PanicEntry := ent (den B (hdP x)) b :: (denL B (tlP x)).map fun v => ent v true
def denM (B : Pl) : Md → FrameMode
  | .ret => .returning
  | .pan x => .panicking (chn B false x)
  | .rcv x => .panicking (chn B true x)
theorem hdP_bd {S : Nat → Prop} {x : SV} (h : bd S x) : bd S (hdP x) := by
  unfold hdP
  split
  · simp only [bd, bdL] at h; exact h.1
  · exact h
theorem tlP_bd {S : Nat → Prop} {x : SV} (h : bd S x) : bdL S (tlP x) := by
  unfold tlP
  split
  · simp only [bd, bdL] at h; exact h.2
  · simp [bdL]
theorem joinP_bd {S : Nat → Prop} {x y : SV} (h : bd S x) (g : bd S y) : bd S (joinP x y) := by
  simp only [joinP, bd, bdL]
  refine ⟨hdP_bd h, ?_⟩
  rw [bdL_iff]
  intro z hz
  rcases List.mem_append.1 hz with h1 | h1
  · exact bdL_iff.1 (tlP_bd h) z h1
  · rcases List.mem_cons.1 h1 with rfl | h1
    · exact hdP_bd g
    · exact bdL_iff.1 (tlP_bd g) z h1
theorem chn_ag {S : Nat → Prop} {B B' : Pl} (h : ∀ i, S i → B' i = B i) {x : SV} (hb : bd S x) (b : Bool) : chn B' b x = chn B b x := by
  unfold chn
  rw [den_ag h (hdP_bd hb), denL_ag h (tlP_bd hb)]
theorem chn_join (B : Pl) (x y : SV) (b : Bool) : chn B b (joinP x y) = chn B b x ++ chn B true y := by
  simp [chn, joinP, hdP, tlP, denL_append, denL]
theorem denM_ag {S : Nat → Prop} {B B' : Pl} (h : ∀ i, S i → B' i = B i) {u : Md} (hb : bdM S u) : denM B' u = denM B u := by
  cases u with
  | ret => rfl
  | pan x => simp only [denM]; rw [chn_ag h hb]
  | rcv x => simp only [denM]; rw [chn_ag h hb]
theorem bdM_mono {S S' : Nat → Prop} (h : ∀ j, S j → S' j) {u : Md} (hb : bdM S u) : bdM S' u := by
  cases u with
  | ret => trivial
  | pan x => exact bd_mono h hb
  | rcv x => exact bd_mono h hb
def settleM : Md → Md
  | .rcv _ => .ret
  | u => u
def Tru (c : List (Value × Value)) : Prop := ∀ q ∈ c, q.1 = q.2
/-- What was asked is asked still; what was not written is as it was. -/
def Sfx (s s' : St) : Prop := (∃ l, s'.cnd = l ++ s.cnd) ∧ Fm s.m s'.m
theorem Sfx.refl (s : St) : Sfx s s := ⟨⟨[], rfl⟩, Fm.refl _⟩
theorem Sfx.trans {a b c : St} (h : Sfx a b) (k : Sfx b c) : Sfx a c := by
  obtain ⟨⟨l, hl⟩, hf⟩ := h
  obtain ⟨⟨l', hl'⟩, kf⟩ := k
  exact ⟨⟨l' ++ l, by rw [hl', hl, List.append_assoc]⟩, hf.trans kf⟩
theorem Sfx.tru {a b : St} (h : Sfx a b) (t : Tru b.cnd) : Tru a.cnd := by
  obtain ⟨⟨l, hl⟩, _⟩ := h
  intro q hq
  exact t q (by rw [hl]; exact List.mem_append_right _ hq)
structure Rf (B : Pl) (fr : Fr) (nx : Nat → Prop) (a : Act) : Prop where
  ra : Ra B fr.T.get fr.n nx a
  df : a.defers = fr.D.map (denD B)
  db : ∀ d ∈ fr.D, bdD nx d
theorem denD_ag {n : Nat → Prop} {B B' : Pl} (h : ∀ i, n i → B' i = B i) {d : Df} (hb : bdD n d) : denD B' d = denD B d := by
  unfold denD; rw [denL_ag h hb.1, denL_ag h hb.2]
theorem Rf.ag {B B' : Pl} {fr : Fr} {nx nx' : Nat → Prop} {a : Act} (A : Rf B fr nx a) (h : ∀ i, nx i → B' i = B i) (hn : ∀ j, nx j → nx' j) : Rf B' fr nx' a :=
  ⟨A.ra.ag h hn, by rw [A.df]; exact List.map_congr_left fun d hd => (denD_ag h (A.db d hd)).symm, fun d hd => ⟨bdL_mono hn (A.db d hd).1, bdL_mono hn (A.db d hd).2⟩⟩
theorem rho_ok {B : Pl} {T : Tr SV} {n : Nat} {nx : Nat → Prop} {a : Act} (A : Ra B T.get n nx a) : RhoOk B nx a (rho T) := by
  intro x v h
  cases x with
  | tmp t =>
    obtain ⟨h1, h2⟩ := A.tm t v h
    exact ⟨by simp [Act.eval, Array.getD_eq_getD_getElem?, h1], h2⟩
  | const v' => simp only [rho, Option.some.injEq] at h; subst h; exact ⟨by simp [Act.eval, den], by simp [bd]⟩
  | func f => simp only [rho, Option.some.injEq] at h; subst h; exact ⟨by simp [Act.eval, den], by simp [bd]⟩
  | global g => simp [rho] at h
/-- A slot is set: nothing is known any more where the slot is none of the function's. -/
def putT (n : Nat) (T : Tr SV) (d : Option Nat) (x : SV) : Tr SV :=
  match d with
  | none => T
  | some d => match Nat.blt d n && tinyB d with
    | true => T.set d (some x)
    | false => .leaf
theorem Ra.putT {B : Pl} {T : Tr SV} {n : Nat} {nx : Nat → Prop} {a : Act} (A : Ra B T.get n nx a) (d : Option Nat) {x : SV} (hx : bd nx x) : Ra B (EX.putT n T d x).get n nx (a.put d (den B x)) := by
  unfold EX.putT
  cases d with
  | none => exact A
  | some d =>
    cases hc : (Nat.blt d n && tinyB d) with
    | true =>
      have hc' := hc
      simp only [Bool.and_eq_true] at hc
      have hd : d < n := by have := hc.1; rw [Nat.blt, Nat.ble_eq] at this; exact this
      simp only [hc', Tr.get_set hc.2]
      exact A.put hd hx
    | false =>
      simp only [hc]
      exact ⟨by simp [Act.put, A.sz], fun t y h => by rw [Tr.get_leaf] at h; cases h⟩
def Fr.put (fr : Fr) (d : Option Nat) (x : SV) : Fr := ⟨fr.f, fr.n, putT fr.n fr.T d x, fr.D⟩
theorem Rf.put {B : Pl} {fr : Fr} {nx : Nat → Prop} {a : Act} (A : Rf B fr nx a) (d : Option Nat) {x : SV} (hx : bd nx x) : Rf B (fr.put d x) nx (a.put d (den B x)) :=
  ⟨A.ra.putT d hx, by show (a.put d (den B x)).defers = fr.D.map (denD B); rw [← A.df]; cases d <;> rfl, A.db⟩

/-! ### What is asked -/
def askB (x : SV) (st : St) : Option (Bool × St) :=
  match x with
  | .v (.bool b) => some (b, st)
  | .y (.bool b) => match st.orc with
    | .bool b' :: orc => some (b', ⟨st.m, orc, (.bool b, .bool b') :: st.cnd⟩)
    | .nilIface :: _ => some (b, ⟨st.m, st.orc, (.bool b, .bool b) :: st.cnd⟩)
    | _ => none
  | _ => none
theorem askB_ok {x : SV} {st st' : St} {b : Bool} (h : askB x st = some (b, st')) : st'.m = st.m ∧ Sfx st st' ∧ (Tru st'.cnd → ∀ B, den B x = .bool b) := by
  unfold askB at h
  split at h
  · simp only [Option.some.injEq, Prod.mk.injEq] at h
    obtain ⟨rfl, rfl⟩ := h
    exact ⟨rfl, Sfx.refl _, fun _ B => by simp [den]⟩
  · split at h
    · simp only [Option.some.injEq, Prod.mk.injEq] at h
      obtain ⟨rfl, rfl⟩ := h
      refine ⟨rfl, ⟨⟨[_], rfl⟩, Fm.refl _⟩, fun t B => ?_⟩
      have := t _ (List.mem_cons_self ..)
      simpa [den] using this
    · simp only [Option.some.injEq, Prod.mk.injEq] at h
      obtain ⟨rfl, rfl⟩ := h
      exact ⟨rfl, ⟨⟨[_], rfl⟩, Fm.refl _⟩, fun t B => by simp [den]⟩
    · cases h
  · cases h
/-- Whether an operation is carried out. -/
def wantE (n : Nat) (T : Tr SV) (all : Array Oper) (o : Oper) (st : St) : Option (Bool × Tr SV × St) :=
  match o.guard with
  | none => some (true, T, st)
  | some (j, want) => match all[j]? with
    | some oj => match oj.dst with
      | some d => match T.get d with
        | some (.v (.bool c)) => some (c == want, T, st)
        | some (.v (.tuple _)) => some (false, T, st)
        | some (.y (.bool c)) => match askB (.y (.bool c)) st with
          | some (b, st') => some (b == want, putT n T (some d) (.v (.bool b)), st')
          | none => none
        | _ => none
      | none => none
    | none => none
theorem Act.put_self {a : Act} {d : Nat} {v : Value} (h : a.tmps[d]? = some v) : a.put (some d) v = a := by
  unfold Act.put
  obtain ⟨tmps, ds⟩ := a
  simp only at h ⊢
  congr 1
  apply Array.ext_getElem?
  intro i
  by_cases hi : d = i
  · subst hi
    rw [Array.getElem?_setIfInBounds_self, h]
    have := (Array.getElem?_eq_some_iff.1 h).1
    simp [this]
  · rw [Array.getElem?_setIfInBounds_ne hi]
theorem wantE_ok {n : Nat} {T T' : Tr SV} {all : Array Oper} {o : Oper} {st st' : St} {b : Bool} (h : wantE n T all o st = some (b, T', st')) :
    st'.m = st.m ∧ Sfx st st' ∧ (Tru st'.cnd → ∀ B nx a, Ra B T.get n nx a → Ra B T'.get n nx a ∧ Region.wanted o (yielded all a.tmps) = b) := by
  unfold wantE at h
  unfold Region.wanted
  cases hg : o.guard with
  | none =>
    rw [hg] at h
    simp only [Option.some.injEq, Prod.mk.injEq] at h
    obtain ⟨rfl, rfl, rfl⟩ := h
    exact ⟨rfl, Sfx.refl _, fun _ B nx a A => ⟨A, rfl⟩⟩
  | some jw =>
    obtain ⟨j, want⟩ := jw
    rw [hg] at h
    simp only at h ⊢
    cases ho : all[j]? with
    | none => rw [ho] at h; cases h
    | some oj =>
      rw [ho] at h
      simp only at h
      cases hd : oj.dst with
      | none => rw [hd] at h; cases h
      | some d =>
        rw [hd] at h
        simp only at h
        split at h
        · rename_i c hT
          simp only [Option.some.injEq, Prod.mk.injEq] at h
          obtain ⟨rfl, rfl, rfl⟩ := h
          refine ⟨rfl, Sfx.refl _, fun _ B nx a A => ⟨A, ?_⟩⟩
          have := (A.tm d _ hT).1
          simp only [yielded, ho, hd, Option.bind_some, this, den]
          cases c <;> cases want <;> rfl
        · rename_i vs hT
          simp only [Option.some.injEq, Prod.mk.injEq] at h
          obtain ⟨rfl, rfl, rfl⟩ := h
          refine ⟨rfl, Sfx.refl _, fun _ B nx a A => ⟨A, ?_⟩⟩
          have := (A.tm d _ hT).1
          simp only [yielded, ho, hd, Option.bind_some, this, den]
          cases want <;> rfl
        · rename_i c hT
          cases hq : askB (.y (.bool c)) st with
          | none => rw [hq] at h; cases h
          | some q =>
            obtain ⟨b', st2⟩ := q
            rw [hq] at h
            simp only [Option.some.injEq, Prod.mk.injEq] at h
            obtain ⟨rfl, rfl, rfl⟩ := h
            obtain ⟨h1, h2, h3⟩ := askB_ok hq
            refine ⟨h1, h2, fun t B nx a A => ?_⟩
            have hc := h3 t B
            simp only [den, Value.bool.injEq] at hc
            subst hc
            have ht := (A.tm d _ hT).1
            refine ⟨?_, ?_⟩
            · have := A.putT (some d) (x := .v (.bool c)) (by simp [bd])
              simp only [den] at this ht
              rw [Act.put_self ht] at this
              exact this
            · simp only [yielded, ho, hd, Option.bind_some, ht, den]
              cases c <;> cases want <;> rfl
        · cases h

/-- A value that is not looked into is told: which function, which slot, what it is. -/
def castO (f : FuncId) (d : Option Nat) (x : SV) (st : St) : SV × St :=
  match x with
  | .y u => match st.orc with
    | .tuple ⟨[.int _ (.ofNat g), .int _ (.ofNat t), v]⟩ :: orc => match d with
      | some d => match Nat.beq g f && Nat.beq t d with
        | true => (.v v, ⟨st.m, orc, (u, v) :: st.cnd⟩)
        | false => (.y u, st)
      | none => (.y u, st)
    | .tuple ⟨[.int _ (.ofNat g), .int _ (.ofNat t), v, _]⟩ :: orc => match d with
      | some d => match Nat.beq g f && Nat.beq t d with
        | true => (.y v, ⟨st.m, orc, (u, v) :: st.cnd⟩)
        | false => (.y u, st)
      | none => (.y u, st)
    | _ => (.y u, st)
  | x => (x, st)
theorem castO_ok {f : FuncId} {d : Option Nat} {x x' : SV} {st st' : St} (h : castO f d x st = (x', st')) : st'.m = st.m ∧ Sfx st st' ∧ (Tru st'.cnd → ∀ B, den B x' = den B x) ∧ ∀ S, bd S x → bd S x' := by
  have same : (x, st) = (x', st') → st'.m = st.m ∧ Sfx st st' ∧ (Tru st'.cnd → ∀ B, den B x' = den B x) ∧ ∀ S, bd S x → bd S x' := by
    intro h
    simp only [Prod.mk.injEq] at h
    obtain ⟨rfl, rfl⟩ := h
    exact ⟨rfl, Sfx.refl _, fun _ _ => rfl, fun _ h => h⟩
  unfold castO at h
  split at h
  · split at h
    · split at h
      · split at h
        · simp only [Prod.mk.injEq] at h
          obtain ⟨rfl, rfl⟩ := h
          refine ⟨rfl, ⟨⟨[_], rfl⟩, Fm.refl _⟩, fun t B => ?_, fun S _ => by simp [bd]⟩
          have := t _ (List.mem_cons_self ..)
          simp only [den]
          exact this.symm
        · exact same h
      · exact same h
    · split at h
      · split at h
        · simp only [Prod.mk.injEq] at h
          obtain ⟨rfl, rfl⟩ := h
          refine ⟨rfl, ⟨⟨[_], rfl⟩, Fm.refl _⟩, fun t B => ?_, fun S _ => by simp [bd]⟩
          have := t _ (List.mem_cons_self ..)
          simp only [den]
          exact this.symm
        · exact same h
      · exact same h
    · exact same h
  · exact same h

/-! ### Operations that call, panic, defer -/
inductive Or where
  | val (x : SV)
  | dfr (d : Df)
  | pan (x : SV)
/-- The function that a call enters, and its arguments. -/
def tgtE (P : Program) (ρ : Rho) (x : Operand) (args : Array Operand) : Option (FuncId × List SV × List SV) :=
  match ρ x, valsE ρ args.toList with
  | some (.v (.func (.func f) first caps)), some as => match SX.entersB P f with
    | true => some (f, first.toList.map .v ++ as, caps.toList.map .v)
    | false => none
  | some (.f f first caps), some as => match SX.entersB P f with
    | true => some (f, first ++ as, caps)
    | false => none
  | _, _ => none
def isIf : SV → Bool
  | .v (.iface _ _) => true
  | .y (.iface _ _) => true
  | .e _ _ => true
  | _ => false
def hold (m : Mm) (st : St) : Option (SV × Mm) → Option (Or × St)
  | some (x, m') => some (.val x, ⟨m', st.orc, st.cnd⟩)
  | none => none
/-- A key that is not known is in no entry: each is asked. -/
def missE (kd : IntKind) (n : Int) : List SV → Option (List (Value × Value))
  | [] => some []
  | k :: v :: l => match k with
    | .v (.int kd' n') => match decide (kd = kd'), missE kd n l with
      | true, some ps => some ((.bool (decide (n = n')), .bool false) :: ps)
      | _, _ => none
    | _ => none
  | [_] => none
theorem missE_ok {kd : IntKind} {n : Int} : ∀ {es : List SV} {ps : List (Value × Value)}, missE kd n es = some ps → (∀ q ∈ ps, q.1 = q.2) → keyE kd n es = some none
  | [], _, _, _ => rfl
  | [_], _, h, _ => by cases h
  | k :: v :: l, ps, h, tr => by
    unfold missE at h
    split at h
    · rename_i kd' n'
      cases hk : decide (kd = kd') with
      | false => rw [hk] at h; simp at h
      | true =>
        cases hm : missE kd n l with
        | none => rw [hk, hm] at h; cases h
        | some qs =>
          rw [hk, hm] at h
          simp only [Option.some.injEq] at h
          subst h
          have h1 := tr _ (List.mem_cons_self ..)
          simp only [Value.bool.injEq] at h1
          unfold keyE
          simp only [hk, h1]
          exact missE_ok hm fun q hq => tr q (List.mem_cons_of_mem _ hq)
    · cases h
def missR (P : Program) (st : St) (t : TypeId) (x ix : Option SV) (ok : Bool) : Option (Or × St) := match P.underlying t, x, ix, st.orc with
  | some (.map kt et), some (.m i), some (.y (.int kd n)), .bool false :: orc => match (P.underlying kt).map isIntT, st.m.K.get i, SX.pev P (zeroValue et) with
    | some true, some b, some z => match b.mp, missE kd n b.es with
      | true, some ps => some (.val (lkV ok none z), ⟨st.m, orc, ps ++ st.cnd⟩)
      | _, _ => none
    | _, _, _ => none
  | _, _, _, _ => none
def lookR (P : Program) (ρ : Rho) (st : St) (t : TypeId) (x ix : Operand) (ok : Bool) (r : Option (SV × Mm)) : Option (Or × St) := match r with
  | some (v, m') => some (.val v, ⟨m', st.orc, st.cnd⟩)
  | none => missR P st t (ρ x) (ρ ix) ok
/-! ### Operations that ask -/
def strO : Option SV → Option ByteArray
  | some (.v (.string s)) => some s
  | some (.y (.string s)) => some s
  | _ => none
def intO : Option SV → Option Int
  | some (.v (.int _ n)) => some n
  | some (.y (.int _ n)) => some n
  | _ => none
/-- Strings that are not known, one behind the other. -/
def isYs : Option SV → Bool
  | some (.y _) => true
  | _ => false
def orY : Bool → Bool → Bool
  | false, b => b
  | true, _ => true
def askCat (z : Bool) (x y : Option ByteArray) : Option (SV × List (Value × Value)) := match z, x, y with
  | true, some a, some b => some (.y (.string (a ++ b)), [(.bool (decide (a.size + b.size ≤ 9223372036854775807)), .bool true)])
  | _, _, _ => none
/-- The given row that stands for a place in a foreign slice: it is told by the place and the slot. -/
def tldR (n : Int) (d : Nat) : Nat := n.toNat * 1000 + d
/-- A place in a foreign slice, at an index that is not known. -/
def askIdx (P : Program) (t : TypeId) (d : Option Nat) (x : Option SV) (y : Option Int) : Option (SV × List (Value × Value)) := match P.underlying t, d, x, y with
  | some (.slice e), some d, some (.y (.slice (some ⟨b, off, none⟩) l _)), some n => match sizeE P e with
    | some sz => some (.a (tldR n d) 0, [(.bool (decide (0 ≤ n ∧ n < l)), .bool true), (.pointer (some ⟨b, off + n.toNat * sz, none⟩), .pointer (some ⟨FC.b (tldR n d), FC.o (tldR n d), none⟩))])
    | none => none
  | _, _, _, _ => none
def askE (P : Program) (ρ : Rho) (o : Oper) : Option (SV × List (Value × Value)) := match o.op with
  | .binOp .add _ x y _ => askCat (orY (isYs (ρ x)) (isYs (ρ y))) (strO (ρ x)) (strO (ρ y))
  | .indexAddr t x ix => askIdx P t o.dst (ρ x) (intO (ρ ix))
  | _ => none
def askR (st : St) : Option (SV × List (Value × Value)) → Option (Or × St)
  | some (x, ps) => some (.val x, ⟨st.m, st.orc, ps ++ st.cnd⟩)
  | none => none
def heldA (st : St) (e : Option (SV × Mm)) (q : Option (SV × List (Value × Value))) : Option (Or × St) := match q with
  | some r => askR st (some r)
  | none => hold st.m st e
def opR (P : Program) (ih : Job → St → Option Ou) (ρ : Rho) (st : St) (o : Oper) : Option (Or × St) :=
  match o.op with
  | .call ⟨.value x, args, _⟩ => match tgtE P ρ x args with
    | some (f, as, caps) => match ih (.call f (as ++ caps)) st with
      | some ⟨.ret y, st'⟩ => some (.val y, st')
      | some ⟨.pan y, st'⟩ => some (.pan y, st')
      | _ => none
    | none => hold st.m st (opE P ρ st.m o)
  | .call ⟨.builtin .append, _, _⟩ => hold st.m st (apE P ρ st.m o)
  | .call ⟨.builtin .copy, _, _⟩ => hold st.m st (cpE P ρ st.m o)
  | .panic x => match ρ x with
    | some v => match isIf v with
      | true => some (.pan v, st)
      | false => none
    | none => none
  | .defer ⟨.value x, args, _⟩ => match tgtE P ρ x args with
    | some (f, as, caps) => some (.dfr ⟨f, as, caps⟩, st)
    | none => none
  | .pick c x y => match ρ c with
    | some v => match askB v st with
      | some (true, st') => match ρ x with
        | some z => some (.val z, st')
        | none => none
      | some (false, st') => match ρ y with
        | some z => some (.val z, st')
        | none => none
      | none => none
    | none => none
  | .lookup t x ix ok => lookR P ρ st t x ix ok (opE P ρ st.m o)
  | .binOp _ _ _ _ _ => heldA st (opE P ρ st.m o) (askE P ρ o)
  | .indexAddr _ _ _ => heldA st (opE P ρ st.m o) (askE P ρ o)
  | _ => hold st.m st (opE P ρ st.m o)

def RunFin (P : Program) (st : St) (o : Ou) (w0 : World) (F : List RF) (B : Pl) (S : Nat → Prop) (Q : Exit → Act → World → Prop) : Prop :=
  ∀ B' a' w', Ag st.m.nx o.st.m.nx B B' → st.m.nx ≤ o.st.m.nx → Re w0 F B' o.st.m.K.get (ext S st.m.nx o.st.m.nx) w' → match o.e with
    | .fr fr' .ret => Rf B' fr' (ext S st.m.nx o.st.m.nx) a' → Q .ret a' w' ∧ Q .normal a' w'
    | .fr fr' (.pan x) => Rf B' fr' (ext S st.m.nx o.st.m.nx) a' → bd (ext S st.m.nx o.st.m.nx) x → Q (.panic (chn B' false x)) a' w'
    | .mid fr' k' => Rf B' fr' (ext S st.m.nx o.st.m.nx) a' → SX.post P k' Q .normal a' w'
    | _ => True
def CallFin (st : St) (o : Ou) (w0 : World) (F : List RF) (B : Pl) (S : Nat → Prop) (e : Ending) (w' : World) : Prop :=
  ∃ B', Ag st.m.nx o.st.m.nx B B' ∧ st.m.nx ≤ o.st.m.nx ∧ Re w0 F B' o.st.m.K.get (ext S st.m.nx o.st.m.nx) w' ∧
    match o.e with
    | .ret x => e = .returned (den B' x) ∧ bd (ext S st.m.nx o.st.m.nx) x
    | .pan x => e = .panicked (chn B' false x) ∧ bd (ext S st.m.nx o.st.m.nx) x
    | _ => False
def RunKind (fr : Fr) (o : Ou) : Prop := match o.e with
  | .fr fr' .ret => fr'.f = fr.f
  | .fr fr' (.pan _) => fr'.f = fr.f
  | .mid fr' _ => fr'.f = fr.f
  | _ => False
/-- What a job's outcome says. -/
def Spec (P : Program) (j : Job) (st : St) (o : Ou) : Prop :=
  Sfx st o.st ∧ (match j with
    | .run fr k => RunKind fr o
    | _ => True) ∧ (Tru o.st.cnd → match j with
    | .call f args => ∀ w0 F B S w, (∀ j, S j → j < st.m.nx) → Re w0 F B st.m.K.get S w → bdL S args →
        Calls P f (denL B args).toArray w (CallFin st o w0 F B S)
    | .run fr k => ∀ w0 F B S a w (Q : Exit → Act → World → Prop), (∀ j, S j → j < st.m.nx) → Re w0 F B st.m.K.get S w → Rf B fr S a → RunFin P st o w0 F B S Q → SX.post P k Q .normal a w
    | .leave fr u => ∀ w0 F B S a w (R : Ending → World → Prop) fn, P.funcs[fr.f]? = some fn → (∀ j, S j → j < st.m.nx) → Re w0 F B st.m.K.get S w → Rf B fr S a → bdM S u →
        (∀ B' w' e, Ag st.m.nx o.st.m.nx B B' → st.m.nx ≤ o.st.m.nx → Re w0 F B' o.st.m.K.get (ext S st.m.nx o.st.m.nx) w' → (match o.e with
          | .ret x => e = .returned (den B' x) ∧ bd (ext S st.m.nx o.st.m.nx) x
          | .pan x => e = .panicked (chn B' false x) ∧ bd (ext S st.m.nx o.st.m.nx) x
          | _ => False) → R e w') → Leaves P fn a.tmps R a.defers (denM B u) w
    | .dcall f args u => ∀ w0 F B S w, (∀ j, S j → j < st.m.nx) → Re w0 F B st.m.K.get S w → bdL S args → bdM S u →
        CallsD P f (denL B args).toArray (denM B u) w fun e u' w' => ∃ B', Ag st.m.nx o.st.m.nx B B' ∧ st.m.nx ≤ o.st.m.nx ∧ Re w0 F B' o.st.m.K.get (ext S st.m.nx o.st.m.nx) w' ∧ 
          match o.e with
          | .md x => ((∃ v, e = .returned v) ∧ u' = denM B' x ∨ ∃ ch, e = .panicked ch ∧ raised u' ch = denM B' x ∧ settleM x = x) ∧ bdM (ext S st.m.nx o.st.m.nx) x
          | _ => False)
def SpecAll (P : Program) (ih : Job → St → Option Ou) : Prop := ∀ j st o, ih j st = some o → Spec P j st o
section
variable {P : Program} {ih : Job → St → Option Ou} {ρ : Rho} {st st' : St} {o : Oper}
theorem wp_of_ok {w0 : World} {F : List RF} {B : Pl} {S : Nat → Prop} {nx : Nat} {a : Act} {w : World} {x : SV} {m' : Mm} (h : OpOk P w0 F B S nx o a w x m') {K : Act → World → Prop} {Q : Exit → Act → World → Prop}
    (hk : ∀ B' w', Ag nx m'.nx B B' → nx ≤ m'.nx → Re w0 F B' m'.K.get (ext S nx m'.nx) w' → bd (ext S nx m'.nx) x → K (a.put o.dst (den B' x)) w') : o.wp P a w K Q := by
  obtain ⟨r, w', B', h1, h2, h3, h4, h5, h6⟩ := h
  unfold Oper.wp
  rw [h1]
  rcases h2 with rfl | ⟨rfl, rfl⟩
  · exact hk B' w' h3 h4 h5 h6
  · have := hk B' w' h3 h4 h5 h6
    simpa [den, Oper.upon] using this
theorem tgtE_ok {B : Pl} {n : Nat → Prop} {a : Act} (hρ : RhoOk B n a ρ) {x : Operand} {args : Array Operand} {f : FuncId} {as caps : List SV} (h : tgtE P ρ x args = some (f, as, caps)) :
    (∃ first : Array Value, a.eval x = .func (.func f) first (denL B caps).toArray ∧ first ++ args.map a.eval = (denL B as).toArray) ∧ bdL n as ∧ bdL n caps ∧ SX.entersB P f = true := by
  unfold tgtE at h
  split at h
  · rename_i g first caps' as' hx hv
    split at h
    · rename_i he
      simp only [Option.some.injEq, Prod.mk.injEq] at h
      obtain ⟨rfl, rfl, rfl⟩ := h
      obtain ⟨h1, h2⟩ := valsE_ok hρ _ hv
      refine ⟨⟨first, by rw [(hρ _ _ hx).1, denL_v]; simp [den], ?_⟩, bdL_append.2 ⟨bdL_v _ _, h2⟩, bdL_v _ _, he⟩
      apply Array.ext'
      simp [denL_append, denL_v, ← h1]
    · cases h
  · rename_i g first caps' as' hx hv
    split at h
    · rename_i he
      simp only [Option.some.injEq, Prod.mk.injEq] at h
      obtain ⟨rfl, rfl, rfl⟩ := h
      obtain ⟨h1, h2⟩ := valsE_ok hρ _ hv
      obtain ⟨h3, h4⟩ := hρ _ _ hx
      simp only [bd] at h4
      refine ⟨⟨(denL B first).toArray, by rw [h3]; simp [den], ?_⟩, bdL_append.2 ⟨h4.1, h2⟩, h4.2, he⟩
      apply Array.ext'
      simp [denL_append, ← h1]
    · cases h
  · cases h
/-- What an operation's outcome says. -/
def OrOk (P : Program) (ρ : Rho) (st : St) (o : Oper) (r : Or) (st' : St) : Prop :=
  Sfx st st' ∧ (Tru st'.cnd → ∀ w0 F B S a w (K : Act → World → Prop) (Q : Exit → Act → World → Prop), (∀ j, S j → j < st.m.nx) → Re w0 F B st.m.K.get S w → RhoOk B S a ρ →
    (match r with
      | .val x => ∀ B' w', Ag st.m.nx st'.m.nx B B' → st.m.nx ≤ st'.m.nx → Re w0 F B' st'.m.K.get (ext S st.m.nx st'.m.nx) w' → bd (ext S st.m.nx st'.m.nx) x → K (a.put o.dst (den B' x)) w'
      | .dfr d => st'.m = st.m → bdD S d → K ({ a with defers := denD B d :: a.defers }.put o.dst undef) w
      | .pan x => ∀ B' w', Ag st.m.nx st'.m.nx B B' → st.m.nx ≤ st'.m.nx → Re w0 F B' st'.m.K.get (ext S st.m.nx st'.m.nx) w' → bd (ext S st.m.nx st'.m.nx) x → Q (.panic (chn B' false x)) a w') → o.wp P a w K Q)
theorem hold_ok {r : Or} {e : Option (SV × Mm)} (h : hold st.m st e = some (r, st')) (hfm : ∀ x m', e = some (x, m') → Fm st.m m') (hs : ∀ x m', e = some (x, m') → ∀ w0 F B S a w, (∀ j, S j → j < st.m.nx) → Re w0 F B st.m.K.get S w → RhoOk B S a ρ → OpOk P w0 F B S st.m.nx o a w x m') : OrOk P ρ st o r st' := by
  cases e with
  | none => cases h
  | some q =>
    obtain ⟨x, m'⟩ := q
    simp only [hold, Option.some.injEq, Prod.mk.injEq] at h
    obtain ⟨rfl, rfl⟩ := h
    exact ⟨⟨⟨[], rfl⟩, hfm x m' rfl⟩, fun _ w0 F B S a w K Q hS R hρ hk => wp_of_ok (hs x m' rfl w0 F B S a w hS R hρ) hk⟩
theorem lookR_ok {t : TypeId} {x ix : Operand} {ok : Bool} {r : Or} (ho : o.op = .lookup t x ix ok) (h : lookR P ρ st t x ix ok (opE P ρ st.m o) = some (r, st')) : OrOk P ρ st o r st' := by
  cases he : opE P ρ st.m o with
  | some q =>
    obtain ⟨v, m'⟩ := q
    rw [he] at h
    have h2 : hold st.m st (opE P ρ st.m o) = some (r, st') := by rw [he]; exact h
    exact hold_ok h2 (fun x m' e => opE_fm e) (fun x m' e w0 F B S a w hS R hρ => opE_sound hS R hρ e)
  | none =>
    rw [he] at h
    simp only [lookR] at h
    unfold missR at h
    split at h
    · rename_i kt et i kd n orc hu hx hi horc
      split at h
      · rename_i b z hkt hb hz
        split at h
        · rename_i ps hmp hm
          simp only [Option.some.injEq, Prod.mk.injEq] at h
          obtain ⟨rfl, rfl⟩ := h
          refine ⟨⟨⟨ps, rfl⟩, Fm.refl _⟩, fun tr w0 F B S a w K Q hS R hρ hk => ?_⟩
          have hne : x ≠ ix := by
            intro e
            rw [e, hi] at hx
            simp at hx
          classical
          have hρ' : RhoOk B S a (fun q => if q = ix then some (.v (.int kd n)) else ρ q) := by
            intro q v hv
            by_cases e : q = ix
            · simp only [e, if_true, Option.some.injEq] at hv
              subst hv
              have := hρ ix _ hi
              rw [e]
              exact ⟨by rw [this.1]; simp [den], by simp [bd]⟩
            · simp only [e, if_false] at hv
              exact hρ q v hv
          have hkey := missE_ok hm (fun q hq => tr q (List.mem_append_left _ hq))
          refine wp_of_ok (lkE_ok (x := lkV ok none z) (m' := st.m) R hρ' ho ?_) hk
          simp only [if_true, if_neg hne, hx]
          unfold lkE
          simp only [hu, hkt, hb, hz, hmp, hkey]
        · cases h
      · cases h
    · cases h
theorem strO_den (B : Pl) {x : Option SV} {s : ByteArray} (h : strO x = some s) : ∃ v, x = some v ∧ den B v = .string s := by
  unfold strO at h
  split at h
  · simp only [Option.some.injEq] at h; subst h; exact ⟨_, rfl, by simp [den]⟩
  · simp only [Option.some.injEq] at h; subst h; exact ⟨_, rfl, by simp [den]⟩
  · cases h
theorem intO_den (B : Pl) {x : Option SV} {n : Int} (h : intO x = some n) : ∃ v k, x = some v ∧ den B v = .int k n := by
  unfold intO at h
  split at h
  · simp only [Option.some.injEq] at h; subst h; exact ⟨_, _, rfl, by simp [den]; rfl⟩
  · simp only [Option.some.injEq] at h; subst h; exact ⟨_, _, rfl, by simp [den]; rfl⟩
  · cases h
theorem askE_ok {w0 : World} {F : List RF} {B : Pl} {S : Nat → Prop} {m : Mm} {a : Act} {w : World} {x : SV} {ps : List (Value × Value)} (R : Re w0 F B m.K.get S w) (hρ : RhoOk B S a ρ) (h : askE P ρ o = some (x, ps)) (tr : Tru ps) : OpOk P w0 F B S m.nx o a w x m := by
  unfold askE at h
  split at h
  · rename_i t y z t2 ho
    unfold askCat at h
    split at h
    · rename_i s1 s2 _ h1 h2
      simp only [Option.some.injEq, Prod.mk.injEq] at h
      obtain ⟨rfl, rfl⟩ := h
      obtain ⟨v1, e1, d1⟩ := strO_den B h1
      obtain ⟨v2, e2, d2⟩ := strO_den B h2
      have c := tr _ (List.mem_cons_self ..)
      simp only [Value.bool.injEq, decide_eq_true_eq] at c
      refine ok_pure R (by simp [bd]) ?_
      have g1 := ((hρ _ _ e1).1).trans d1
      have g2 := ((hρ _ _ e2).1).trans d2
      unfold execOp
      simp only [ho, g1, g2, eqGuard, binOp, Sem.run_bind, Sem.run_pure, Result.andThen_ok, Bool.not_false, if_true, run_string_add_sum w s1 s2 c, den]
    · cases h
  · rename_i t y ix ho
    unfold askIdx at h
    split at h
    · rename_i e d b off l cp n hu hd hy hn
      split at h
      · rename_i sz hs
        simp only [Option.some.injEq, Prod.mk.injEq] at h
        obtain ⟨rfl, rfl⟩ := h
        obtain ⟨v2, k, e2, d2⟩ := intO_den B hn
        have c1 := tr _ (List.mem_cons_self ..)
        have c2 := tr _ (List.mem_cons_of_mem _ (List.mem_cons_self ..))
        simp only [Value.bool.injEq, decide_eq_true_eq] at c1
        simp only at c2
        refine ok_pure R (by simp [bd]) ?_
        have g1 := (hρ _ _ hy).1
        have g2 := ((hρ _ _ e2).1).trans d2
        simp only [den] at g1
        unfold execOp
        simp only [ho, g1, g2, Instr.indexAt, asIntOf, Sem.run_bind, Sem.run_pure, Result.andThen_ok, run_underlying hu w]
        rw [if_pos ⟨c1.1, c1.2⟩]
        simp only [Sem.run_bind, size_run hs, Result.andThen_ok, Sem.run_pure, den, addr_add, Nat.add_zero]
        rw [← c2]
      · cases h
    · cases h
  · cases h
theorem heldA_ok {r : Or} {e : Option (SV × Mm)} (he : opE P ρ st.m o = e) (h : heldA st e (askE P ρ o) = some (r, st')) : OrOk P ρ st o r st' := by
  unfold heldA at h
  cases hq : askE P ρ o with
  | none =>
    rw [hq] at h
    exact hold_ok h (fun x m' e => by rw [← he] at e; exact opE_fm e) fun x m' e w0 F B S a w hS R hρ => by rw [← he] at e; exact opE_sound hS R hρ e
  | some q =>
    obtain ⟨x, ps⟩ := q
    rw [hq] at h
    simp only [askR, Option.some.injEq, Prod.mk.injEq] at h
    obtain ⟨rfl, rfl⟩ := h
    refine ⟨⟨⟨ps, rfl⟩, Fm.refl _⟩, fun tr w0 F B S a w K Q hS R hρ hk => ?_⟩
    exact wp_of_ok (m' := st.m) (askE_ok R hρ hq (fun q hq => tr q (List.mem_append_left _ hq))) hk
theorem opR_sound (hih : SpecAll P ih) {r : Or} (h : opR P ih ρ st o = some (r, st')) : OrOk P ρ st o r st' := by
  unfold opR at h
  split at h
  · -- call
    rename_i x args ats ho
    split at h
    · rename_i f as caps ht
      have key : ∀ o1, ih (.call f (as ++ caps)) st = some o1 → (∀ w0 F B S a w (K : Act → World → Prop) (Q : Exit → Act → World → Prop), Tru o1.st.cnd → (∀ j, S j → j < st.m.nx) → Re w0 F B st.m.K.get S w → RhoOk B S a ρ →
          (∀ B' w', Ag st.m.nx o1.st.m.nx B B' → st.m.nx ≤ o1.st.m.nx → Re w0 F B' o1.st.m.K.get (ext S st.m.nx o1.st.m.nx) w' → match o1.e with
            | .ret x => bd (ext S st.m.nx o1.st.m.nx) x → K (a.put o.dst (den B' x)) w'
            | .pan x => bd (ext S st.m.nx o1.st.m.nx) x → Q (.panic (chn B' false x)) a w'
            | _ => True) → o.wp P a w K Q) := by
        intro o1 h1 w0 F B S a w K Q tr hS R hρ hk
        obtain ⟨⟨first, e1, e2⟩, b1, b2, he⟩ := tgtE_ok hρ ht
        have hc := (hih _ _ _ h1).2.2 tr w0 F B S w hS R (bdL_append.2 ⟨b1, b2⟩)
        have hop : (execOp a.eval o).run P w = .ok (.enter f (denL B (as ++ caps)).toArray) w := by
          have e3 : first ++ args.map a.eval ++ (denL B caps).toArray = (denL B (as ++ caps)).toArray := by
            rw [e2, denL_append]; simp
          unfold execOp
          simp only [ho, resolve, e1, Deferred.ofValue, Sem.run_bind, Sem.run_pure, Result.andThen_ok, invoke, e3, SX.entersB_run he]
        unfold Oper.wp
        rw [hop, Oper.upon_enter]
        refine Calls.mono hc ?_
        rintro e w' ⟨B', g1, g2, g3, g4⟩
        have hk' := hk B' w' g1 g2 g3
        split at g4
        · rename_i y hy
          rw [hy] at hk'
          obtain ⟨rfl, g5⟩ := g4
          exact hk' g5
        · rename_i y hy
          rw [hy] at hk'
          obtain ⟨rfl, g5⟩ := g4
          exact hk' g5
        · exact g4.elim
      split at h
      · rename_i y st1 h1
        simp only [Option.some.injEq, Prod.mk.injEq] at h
        obtain ⟨rfl, rfl⟩ := h
        exact ⟨(hih _ _ _ h1).1, fun tr w0 F B S a w K Q hS R hρ hk => key _ h1 w0 F B S a w K Q tr hS R hρ fun B' w' g1 g2 g3 g4 => hk B' w' g1 g2 g3 g4⟩
      · rename_i y st1 h1
        simp only [Option.some.injEq, Prod.mk.injEq] at h
        obtain ⟨rfl, rfl⟩ := h
        exact ⟨(hih _ _ _ h1).1, fun tr w0 F B S a w K Q hS R hρ hk => key _ h1 w0 F B S a w K Q tr hS R hρ fun B' w' g1 g2 g3 g4 => hk B' w' g1 g2 g3 g4⟩
      · cases h
    · exact hold_ok h (fun x m' he => opE_fm he) fun x m' he w0 F B S a w hS R hρ => opE_sound hS R hρ he
  · exact hold_ok h (fun x m' he => apE_fm he) fun x m' he w0 F B S a w hS R hρ => apE_sound hS R hρ he
  · exact hold_ok h (fun x m' he => cpE_fm he) fun x m' he w0 F B S a w hS R hρ => cpE_sound R hρ he
  · -- panic
    rename_i x ho
    cases hx : ρ x with
    | none => rw [hx] at h; cases h
    | some v =>
      rw [hx] at h
      simp only at h
      cases hi : isIf v with
      | false => rw [hi] at h; cases h
      | true =>
        rw [hi] at h
        simp only [Option.some.injEq, Prod.mk.injEq] at h
        obtain ⟨rfl, rfl⟩ := h
        refine ⟨Sfx.refl _, fun _ w0 F B S a w K Q hS R hρ hk => ?_⟩
        obtain ⟨h1, h2⟩ := hρ _ _ hx
        have hop : (execOp a.eval o).run P w = .halt (.panic (den B v)) w := by
          unfold execOp
          simp only [ho, h1]
          unfold isIf at hi
          split at hi <;> first | (cases hi; done) | (simp only [den, Instr.panic, goPanic]; rfl)
        unfold Oper.wp
        rw [hop]
        have hch : chn B false v = [ent (den B v) false] := by
          unfold isIf at hi
          split at hi <;> first | (cases hi; done) | rfl
        have := hk B w (Ag.refl _ _ _) (Nat.le_refl _) (by rw [ext_self]; exact R) (by rw [ext_self]; exact h2)
        rw [hch] at this
        exact this
  · -- defer
    rename_i x args ats ho
    split at h
    · rename_i f as caps ht
      simp only [Option.some.injEq, Prod.mk.injEq] at h
      obtain ⟨rfl, rfl⟩ := h
      refine ⟨Sfx.refl _, fun _ w0 F B S a w K Q hS R hρ hk => ?_⟩
      obtain ⟨⟨first, e1, e2⟩, b1, b2, he⟩ := tgtE_ok hρ ht
      have hop : (execOp a.eval o).run P w = .ok (.defer (denD B ⟨f, as, caps⟩)) w := by
        unfold execOp
        simp only [ho, resolve, e1, Deferred.ofValue, Sem.run_bind, Sem.run_pure, Result.andThen_ok, e2, denD]
      unfold Oper.wp
      rw [hop, Oper.upon_defer]
      exact hk rfl ⟨b1, b2⟩
    · cases h
  · -- pick
    rename_i c x y ho
    cases hc : ρ c with
    | none => rw [hc] at h; cases h
    | some v =>
      rw [hc] at h
      simp only at h
      have fin : ∀ (b : Bool) (z : SV) (q : Operand), askB v st = some (b, st') → r = .val z → ρ q = some z → (q = if b then x else y) → OrOk P ρ st o r st' := by
        rintro b z q ha rfl hz hq
        obtain ⟨h1, h2, h3⟩ := askB_ok ha
        refine ⟨h2, fun tr w0 F B S a w K Q hS R hρ hk => ?_⟩
        have hv := (hρ _ _ hc).1.trans (h3 tr B)
        obtain ⟨e1, e2⟩ := hρ _ _ hz
        have hop : (execOp a.eval o).run P w = .ok (.value (den B z)) w := by
          unfold execOp
          simp only [ho, hv, asBool, Sem.run_bind, Sem.run_pure, Result.andThen_ok]
          cases b <;> simp only [Bool.false_eq_true, if_false, if_true] at hq ⊢ <;> subst hq <;> rw [e1]
        unfold Oper.wp
        rw [hop]
        rw [h1] at hk
        exact hk B w (Ag.refl _ _ _) (Nat.le_refl _) (by rw [ext_self]; exact R) (by rw [ext_self]; exact e2)
      split at h
      · rename_i st1 ha
        cases hx : ρ x with
        | none => rw [hx] at h; cases h
        | some z =>
          rw [hx] at h
          simp only [Option.some.injEq, Prod.mk.injEq] at h
          obtain ⟨rfl, rfl⟩ := h
          exact fin true z x ha rfl hx rfl
      · rename_i st1 ha
        cases hx : ρ y with
        | none => rw [hx] at h; cases h
        | some z =>
          rw [hx] at h
          simp only [Option.some.injEq, Prod.mk.injEq] at h
          obtain ⟨rfl, rfl⟩ := h
          exact fin false z y ha rfl hx rfl
      · cases h
  · rename_i t x ix ok ho
    exact lookR_ok ho h
  · exact heldA_ok rfl h
  · exact heldA_ok rfl h
  · exact hold_ok h (fun x m' he => opE_fm he) fun x m' he w0 F B S a w hS R hρ => opE_sound hS R hρ he
end
end Go.Proofs.Ytnlcjlhcghgaoaa.EX
