
/-
  A walk by computation: a region that draws its order. What only reads is taken first; of the rest every order is walked.
-/
import Derived.Test.YtfkmcibglaiakaaDoorZx
import Derived.OrdersHeld
import Derived.ScopeJumps
import Derived.Deep.RegionHeld
namespace Go.Proofs.YtfkmcibglaiakaaDoor.SZ
open Go Go.RowKit
set_option linter.unusedVariables false
set_option linter.unusedSectionVars false
set_option linter.unusedSimpArgs false
set_option maxRecDepth 10000

/-- What is asked of a panic does not look at slots. -/
class PInv [KP] (Q : Exit → Act → World → Prop) : Prop where
  out : ∀ (d : Option Nat) (v : Value) (c : List PanicEntry) (a : Act) (w : World), (KP.keep.all fun t => d != some t) = true → Q (.panic c) (a.put d v) w → Q (.panic c) a w
instance [KP] {P : Program} {fn : Func} {R : Ending → World → Prop} : PInv (bodyPost P fn R) := ⟨fun d v c a w _ h => by
  cases d with
  | none => exact h
  | some d => exact h⟩
instance [KP] {l : Nat} {J : Act → World → Prop} {Q : Exit → Act → World → Prop} [PInv Q] : PInv (Exit.jump l J Q) := ⟨fun d v c a w hk h => PInv.out (Q := Q) d v c a w hk h⟩

/-- Facts that a region keeps. -/
class HF where
  fs : List RF
instance (priority := low) noHF : HF := ⟨[]⟩
section
variable [DF] [KP] [HF]
variable {P : Program} {w0 : World} {r : List Nat} {bs : List Nat} {s : SS} {F : List RF} {a : Act} {w : World}
theorem body_panic {QQ : Exit → Act → World → Prop} [PInv QQ] (k : List It) (d : Option Nat) (v : Value) (c : List PanicEntry) (a : Act) (w : World) (hk : (KP.keep.all fun t => d != some t) = true) (h : post P k QQ (.panic c) (a.put d v) w) : post P k QQ (.panic c) a w := by
  rw [post_panic] at h ⊢
  exact PInv.out d v c a w hk h

def dval (P : Program) (s : SS) (o : Oper) : Option SV :=
  match o.op.operands.toList.all s.isV && notSel o.op with
  | true => match pev P (execOp s.env o) with
    | some (.value x) => some (.v x)
    | _ => none
  | false => none
/-- The value of an operation that only reads: out of slots, the program's tables, and those variables that the region does not write. -/
def qval (P : Program) (K0 : List Bx) (ro : List Nat) (s : SS) (o : Oper) : Option SV :=
  match o.op with
  | .move x => s.val x
  | .assign x => s.val x
  | .load ty x => match s.val x with
    | some (.p i off) => if ro.contains i then match K0[i]? with
        | some k => (ldS P ty k.cs off).map .v
        | none => none
      else none
    | _ => none
  | .fieldAddr t x f => match s.val x with
    | some (.p i off) => (fieldS P t f).map fun q => .p i (off + q)
    | some (.v _) => dval P s o
    | _ => none
  | .nilCheck x => match s.val x with
    | some (.p i off) => some (.p i off)
    | some (.v _) => dval P s o
    | _ => none
  | .indexAddr _ _ _ => none
  | .makeFunc (.func fn) first captured => if first.size = 0 then (capS s captured.toList).map (.f fn) else dval P s o
  | .store _ _ _ => none
  | .alloc _ => none
  | .box _ _ => none
  | .buildSlice _ _ _ => none
  | _ => dval P s o
def HoldS (B : List Nat) (K0 : List Bx) (ro : List Nat) (W : World) : Prop := (∀ i ∈ ro, ∀ k, K0[i]? = some k → W.heap[B.getD i 0]? = some (.cells k.cs.toArray k.ty (0, 0))) ∧ ∀ f ∈ HF.fs, f.P W
structure Sd [DF] [HF] (w0 : World) (r : List Nat) (B : List Nat) (K0 : List Bx) (ro : List Nat) (bs : List Nat) (s : SS) (F : List RF) (a : Act) (w : World) : Prop where
  S : Sy w0 r bs s F a w
  pre : ∀ i, i < B.length → bs.getD i 0 = B.getD i 0
  bl : B.length = K0.length
  ff : ∀ f ∈ HF.fs, f ∈ F
  hro : ∀ i ∈ ro, i < B.length → s.K[i]? = K0[i]?
theorem Sd.hold {B : List Nat} {K0 : List Bx} {ro : List Nat} (D : Sd w0 r B K0 ro bs s F a w) : HoldS B K0 ro w := ⟨fun i hi k hk => by
  have hl : i < B.length := by rw [D.bl]; exact (List.getElem?_eq_some_iff.1 hk).1
  rw [← D.pre i hl]
  exact D.S.bx i k (by rw [D.hro i hi hl]; exact hk), fun f hf => (D.S.fs f (D.ff f hf)).1⟩
theorem Sd.put {B : List Nat} {K0 : List Bx} {ro : List Nat} (D : Sd w0 r B K0 ro bs s F a w) (d : Option Nat) {x : SV} (hx : x.ok bs.length) : Sd w0 r B K0 ro bs (s.put d x) F (a.put d (den bs x)) w :=
  ⟨D.S.put d hx, D.pre, D.bl, D.ff, fun i hi hl => by
    have : (s.put d x).K = s.K := by unfold SS.put; cases d with
      | none => rfl
      | some d => simp only; split <;> rfl
    rw [this]; exact D.hro i hi hl⟩
theorem pure_val {o : Oper} {s : SS} (S : Sy w0 r bs s F a w) {x : SV} (h : dval P s o = some x) : x.ok bs.length ∧ ∀ W : World, (execOp a.eval o).run P W = .ok (.value (den bs x)) W := by
  unfold dval at h
  cases hc : (o.op.operands.toList.all s.isV && notSel o.op) with
  | false => rw [hc] at h; cases h
  | true =>
    rw [hc] at h
    simp only [Bool.and_eq_true, List.all_eq_true] at hc
    obtain ⟨h1, h2⟩ := hc
    have he : execOp a.eval o = execOp s.env o := execOp_congr o (fun x hx => S.env (h1 x hx)) (fun cs b e => by rw [e] at h2; cases h2)
    cases hp : pev P (execOp s.env o) with
    | none => rw [hp] at h; cases h
    | some n =>
      rw [hp] at h
      cases n <;> simp at h
      subst h
      exact ⟨trivial, fun W => by rw [he, pev_run _ hp W]; rfl⟩
theorem qval_sound {B : List Nat} {K0 : List Bx} {ro : List Nat} (D : Sd w0 r B K0 ro bs s F a w) {o : Oper} {x : SV} (h : qval P K0 ro s o = some x) :
    x.ok bs.length ∧ ∀ W, HoldS B K0 ro W → (execOp a.eval o).run P W = .ok (.value (den bs x)) W := by
  have S := D.S
  unfold qval at h
  cases ho : o.op with
  | move y =>
    rw [ho] at h; simp only at h
    obtain ⟨h1, h2⟩ := S.val h
    exact ⟨h2, fun W _ => by unfold execOp; simp only [ho, h1]; rfl⟩
  | assign y =>
    rw [ho] at h; simp only at h
    obtain ⟨h1, h2⟩ := S.val h
    exact ⟨h2, fun W _ => by unfold execOp; simp only [ho, h1]; rfl⟩
  | load ty y =>
    rw [ho] at h; simp only at h
    cases hx : s.val y with
    | none => rw [hx] at h; cases h
    | some z =>
      rw [hx] at h
      cases z with
      | p i off =>
        simp only at h
        split at h
        · rename_i hc
          have hi : i ∈ ro := by simpa using hc
          cases hK : K0[i]? with
          | none => rw [hK] at h; cases h
          | some k =>
            rw [hK] at h; simp only at h
            cases hl : ldS P ty k.cs off with
            | none => rw [hl] at h; cases h
            | some v =>
              rw [hl] at h; simp only [Option.map_some, Option.some.injEq] at h; subst h
              obtain ⟨h1, h2⟩ := S.val hx
              refine ⟨trivial, fun W hW => ?_⟩
              have hlt : i < B.length := by rw [D.bl]; exact (List.getElem?_eq_some_iff.1 hK).1
              have hr := ldS_run (P := P) (w := W) hl (hW.1 i hi k hK)
              unfold execOp
              simp only [ho, h1, den, adr, D.pre i hlt, Instr.loadAt, Instr.sureAddr, Sem.run_bind, Sem.run_pure, Result.andThen_ok, hr]
        · cases h
      | _ => simp at h
  | fieldAddr t y f =>
    rw [ho] at h; simp only at h
    cases hx : s.val y with
    | none => rw [hx] at h; cases h
    | some z =>
      rw [hx] at h
      cases z with
      | p i off =>
        simp only at h
        cases hf : fieldS P t f with
        | none => rw [hf] at h; cases h
        | some q =>
          rw [hf] at h; simp only [Option.map_some, Option.some.injEq] at h; subst h
          obtain ⟨h1, h2⟩ := S.val hx
          exact ⟨h2, fun W _ => by unfold execOp; simp only [ho, h1, den, adr, Sem.run_bind, fieldS_run hf, Result.andThen_ok, Sem.run_pure]⟩
      | v _ => exact ⟨(pure_val S h).1, fun W _ => (pure_val S h).2 W⟩
      | _ => simp at h
  | makeFunc fn first captured =>
    rw [ho] at h
    cases fn with
    | func fn =>
      simp only at h
      split at h
      · rename_i hf
        cases hc : capS s captured.toList with
        | none => rw [hc] at h; cases h
        | some l =>
          rw [hc] at h; simp only [Option.map_some, Option.some.injEq] at h; subst h
          obtain ⟨h1, h2⟩ := capS_sound S _ hc
          refine ⟨h2, fun W _ => ?_⟩
          unfold execOp
          simp only [ho, Instr.makeFunc, Sem.run_bind, Sem.run_pure, Result.andThen_ok]
          have e : Value.func (.func fn) (first.map a.eval) (captured.map a.eval) = den bs (.f fn l) := by
            simp only [den]
            congr 1
            · have : first = #[] := Array.eq_empty_of_size_eq_zero hf
              subst this; simp
            · apply Array.ext'; simp only [Array.toList_map]; rw [h1]
          rw [e]
      · exact ⟨(pure_val S h).1, fun W _ => (pure_val S h).2 W⟩
    | _ => exact ⟨(pure_val S h).1, fun W _ => (pure_val S h).2 W⟩
  | nilCheck y =>
    rw [ho] at h; simp only at h
    cases hx : s.val y with
    | none => rw [hx] at h; cases h
    | some z =>
      rw [hx] at h
      cases z with
      | p i off =>
        simp only [Option.some.injEq] at h; subst h
        obtain ⟨h1, h2⟩ := S.val hx
        exact ⟨h2, fun W _ => by unfold execOp; simp only [ho, h1, den, adr, Sem.run_pure]⟩
      | v _ => exact ⟨(pure_val S h).1, fun W _ => (pure_val S h).2 W⟩
      | _ => simp at h
  | indexAddr t x y => rw [ho] at h; cases h
  | store t x y => rw [ho] at h; cases h
  | alloc t => rw [ho] at h; cases h
  | box t x => rw [ho] at h; cases h
  | buildSlice t n p => rw [ho] at h; cases h
  | _ => rw [ho] at h; exact ⟨(pure_val S h).1, fun W _ => (pure_val S h).2 W⟩

/-! ### What only reads is taken first -/
def qstep (P : Program) (ops : Array Oper) (K0 : List Bx) (ro : List Nat) (listed : Array Bool) (s : SS) : List Nat → Option (Nat × SS)
  | [] => none
  | i :: l => match ops[i]? with
    | some o => match wantS s ops o with
      | some false => if Region.free .any ops listed i && KP.keep.all (fun t => o.dst != some t) then some (i, s.put o.dst (.v undef)) else qstep P ops K0 ro listed s l
      | some true => if KP.keep.all (fun t => o.dst != some t) = true then (match qval P K0 ro s o with
        | some x => if Region.free .any ops listed i && KP.keep.all (fun t => o.dst != some t) then some (i, s.put o.dst x) else qstep P ops K0 ro listed s l
        | none => qstep P ops K0 ro listed s l) else qstep P ops K0 ro listed s l
      | none => qstep P ops K0 ro listed s l
    | none => qstep P ops K0 ro listed s l
def anyRun (P : Program) (ops : Array Oper) (K0 : List Bx) (ro : List Nat) : Nat → Array Bool → SS → Nat × Array Bool × SS
  | 0, listed, s => (0, listed, s)
  | n + 1, listed, s => match qstep P ops K0 ro listed s (Region.ready .any ops listed) with
    | some (i, s') => anyRun P ops K0 ro n (listed.setIfInBounds i true) s'
    | none => (n + 1, listed, s)
section
variable {ops : Array Oper} {B : List Nat} {K0 : List Bx} {ro : List Nat} {QQ : Exit → Act → World → Prop} [PInv QQ] {k : List It}
theorem qstep_mem {listed : Array Bool} : ∀ (l : List Nat) {i : Nat} {s' : SS}, qstep P ops K0 ro listed s l = some (i, s') → i ∈ l ∧ Region.free .any ops listed i = true ∧
    ∃ o, ops[i]? = some o ∧ (KP.keep.all fun t => o.dst != some t) = true ∧ ((wantS s ops o = some false ∧ s' = s.put o.dst (.v undef)) ∨ (wantS s ops o = some true ∧ ∃ x, qval P K0 ro s o = some x ∧ s' = s.put o.dst x))
  | [], i, s', h => by simp [qstep] at h
  | j :: l, i, s', h => by
    have rest : qstep P ops K0 ro listed s l = some (i, s') → i ∈ j :: l ∧ Region.free .any ops listed i = true ∧
        ∃ o, ops[i]? = some o ∧ (KP.keep.all fun t => o.dst != some t) = true ∧ ((wantS s ops o = some false ∧ s' = s.put o.dst (.v undef)) ∨ (wantS s ops o = some true ∧ ∃ x, qval P K0 ro s o = some x ∧ s' = s.put o.dst x)) := fun h => by
      obtain ⟨h1, h2⟩ := qstep_mem l h
      exact ⟨List.mem_cons_of_mem _ h1, h2⟩
    simp only [qstep] at h
    cases ho : ops[j]? with
    | none => rw [ho] at h; exact rest h
    | some o =>
      rw [ho] at h; simp only at h
      cases hw : wantS s ops o with
      | none => rw [hw] at h; exact rest h
      | some b =>
        rw [hw] at h
        cases b with
        | false =>
          simp only at h
          split at h
          · rename_i hf
            simp only [Option.some.injEq, Prod.mk.injEq] at h
            rw [Bool.and_eq_true] at hf
            obtain ⟨rfl, rfl⟩ := h
            exact ⟨by simp, hf.1, o, ho, hf.2, Or.inl ⟨hw, rfl⟩⟩
          · exact rest h
        | true =>
          simp only at h
          by_cases hkk : (KP.keep.all fun t => o.dst != some t) = true
          case neg => rw [if_neg hkk] at h; exact rest h
          rw [if_pos hkk] at h
          cases hq : qval P K0 ro s o with
          | none => rw [hq] at h; exact rest h
          | some x =>
            rw [hq] at h; simp only at h
            split at h
            · rename_i hf
              simp only [Option.some.injEq, Prod.mk.injEq] at h
              rw [Bool.and_eq_true] at hf
              obtain ⟨rfl, rfl⟩ := h
              exact ⟨by simp, hf.1, o, ho, hf.2, Or.inr ⟨hw, x, hq, rfl⟩⟩
            · exact rest h
abbrev PQ (P : Program) (k : List It) (QQ : Exit → Act → World → Prop) := post P k QQ
theorem anyRun_sound (hs : Region.noSelect ops = true) : ∀ (n : Nat) {listed : Array Bool} {s : SS} {a : Act}, Sd w0 r B K0 ro bs s F a w →
    (∀ a', Sd w0 r B K0 ro bs (anyRun P ops K0 ro n listed s).2.2 F a' w → wpAnyH P .any ops (PQ P k QQ) (HoldS B K0 ro) (anyRun P ops K0 ro n listed s).1 (anyRun P ops K0 ro n listed s).2.1 a' w) →
    wpAnyH P .any ops (PQ P k QQ) (HoldS B K0 ro) n listed a w
  | 0, listed, s, a, D, h => h a D
  | n + 1, listed, s, a, D, h => by
    unfold anyRun at h
    cases hq : qstep P ops K0 ro listed s (Region.ready .any ops listed) with
    | none => rw [hq] at h; exact h a D
    | some q =>
      obtain ⟨i, s'⟩ := q
      rw [hq] at h; simp only at h
      obtain ⟨h1, h2, o, ho, hk, h3⟩ := qstep_mem _ hq
      have hr : (Region.ready .any ops listed).contains i = true := by simpa using h1
      rcases h3 with ⟨hw, rfl⟩ | ⟨hw, x, hx, rfl⟩
      · exact wpAnyH_take ho hs h2 hr (fun c a w h => body_panic k o.dst undef c a w hk h) (Or.inr ⟨wantS_sound D.S hw, rfl⟩) D.hold (anyRun_sound hs n (D.put o.dst (x := .v undef) trivial) h)
      · obtain ⟨hok, hrun⟩ := qval_sound D hx
        exact wpAnyH_take ho hs h2 hr (fun c a w h => body_panic k o.dst _ c a w hk h) (Or.inl ⟨wantS_sound D.S hw, hrun⟩) D.hold (anyRun_sound hs n (D.put o.dst hok) h)

/-! ### The rest, in every order -/
def Nxt (P : Program) (ops : Array Oper) (Q : Exit → Act → World → Prop) (S : World → Prop) (m : Nat) (listed : Array Bool) (a : Act) (w : World) (i : Nat) : Prop :=
  wpOp P ops Q i (fun a' w' => S w' ∧ wpAnyH P .any ops Q S m (listed.setIfInBounds i true) a' w') a w
def NxtAll (P : Program) (ops : Array Oper) (Q : Exit → Act → World → Prop) (S : World → Prop) (m : Nat) (listed : Array Bool) (a : Act) (w : World) : List Nat → Prop
  | [] => True
  | i :: l => Nxt P ops Q S m listed a w i ∧ NxtAll P ops Q S m listed a w l
theorem nxtAll_mem {Q : Exit → Act → World → Prop} {S : World → Prop} {m : Nat} {listed : Array Bool} : ∀ (l : List Nat), NxtAll P ops Q S m listed a w l → ∀ i ∈ l, Nxt P ops Q S m listed a w i
  | [], _, i, hi => by cases hi
  | j :: l, h, i, hi => by
    rcases List.mem_cons.1 hi with rfl | hi
    · exact h.1
    · exact nxtAll_mem l h.2 i hi
theorem any_ready {Q : Exit → Act → World → Prop} {S : World → Prop} {n : Nat} {listed : Array Bool} (rs : List Nat) (m : Nat) (hn : n = m + 1) (hr : Region.ready .any ops listed = rs) (hne : rs ≠ [])
    (h : NxtAll P ops Q S m listed a w rs) : wpAnyH P .any ops Q S n listed a w := by
  subst hn
  exact wpAnyH_all hr hne (nxtAll_mem rs h)
def opS (P : Program) (ops : Array Oper) (s : SS) (i : Nat) : Option SS :=
  match ops[i]? with
  | some o => match wantS s ops o with
    | some true => sop P s o
    | some false => some (s.put o.dst (.v undef))
    | none => none
  | none => none
theorem Sd.next {bs' : List Nat} {s' : SS} {a' : Act} {w' : World} (D : Sd w0 r B K0 ro bs s F a w) (S' : Sy w0 r (bs ++ bs') s' F a' w') (hlen : B.length ≤ bs.length) (hro : ro.map (fun i => s'.K[i]?) = ro.map (fun i => K0[i]?)) : Sd w0 r B K0 ro (bs ++ bs') s' F a' w' :=
  ⟨S', fun i hi => by rw [← D.pre i hi]; simp [List.getD, List.getElem?_append_left (Nat.lt_of_lt_of_le hi hlen)], D.bl, D.ff, fun i hi _ => List.map_inj_left.1 hro i hi⟩
theorem nxt_sop {m : Nat} {listed : Array Bool} {i : Nat} (D : Sd w0 r B K0 ro bs s F a w) (hlen : B.length ≤ bs.length) (hs : (opS P ops s i).isSome = true) (hro : ro.map (fun j => ((opS P ops s i).getD s).K[j]?) = ro.map (fun j => K0[j]?))
    (h : ∀ bs' a' w', Sd w0 r B K0 ro (bs ++ bs') ((opS P ops s i).getD s) F a' w' → B.length ≤ (bs ++ bs').length → wpAnyH P .any ops (PQ P k QQ) (HoldS B K0 ro) m (listed.setIfInBounds i true) a' w') :
    Nxt P ops (PQ P k QQ) (HoldS B K0 ro) m listed a w i := by
  obtain ⟨s', hs'⟩ := Option.isSome_iff_exists.1 hs
  rw [hs'] at hro h
  simp only [Option.getD_some] at hro h
  have fin : ∀ bs' a' w', Sy w0 r (bs ++ bs') s' F a' w' → HoldS B K0 ro w' ∧ wpAnyH P .any ops (PQ P k QQ) (HoldS B K0 ro) m (listed.setIfInBounds i true) a' w' := fun bs' a' w' S' => by
    have D' := D.next S' hlen hro
    exact ⟨D'.hold, h bs' a' w' D' (by simp; omega)⟩
  unfold opS at hs'
  unfold Nxt
  cases ho : ops[i]? with
  | none => rw [ho] at hs'; cases hs'
  | some o =>
    rw [ho] at hs'; simp only at hs'
    unfold wpOp
    rw [ho]
    simp only
    cases hw : wantS s ops o with
    | none => rw [hw] at hs'; cases hs'
    | some b =>
      rw [hw] at hs'
      rw [wantS_sound D.S hw]
      cases b with
      | true =>
        rw [if_pos rfl]
        exact Or.inl (sop_sound D.S hs' fin)
      | false =>
        simp only [Option.some.injEq] at hs'
        subst hs'
        simp only [Bool.false_eq_true, if_false]
        exact fin [] _ _ (by rw [List.append_nil]; exact D.S.put o.dst (x := .v undef) trivial)
theorem nxt_call {m : Nat} {listed : Array Bool} {i : Nat} (D : Sd w0 r B K0 ro bs s F a w) {X : Type} {val : X → Value} {C : X → World → Prop} {f : FuncId} {args : Array Value}
    (hC : Calls P f args w fun e w' => ∃ x, e = .returned (val x) ∧ C x w' ∧ Below w.heap.size w w')
    (hh : ((ops[i]?).bind fun o => headC P ⟨[.ops ops [o]], s⟩).map (fun q => (q.1, q.2.map (den bs))) = some (f, args.toList))
    (h : ∀ x a' w', C x w' → Below w.heap.size w w' → Sd w0 r B K0 ro bs (s.put ((ops[i]?).bind (·.dst)) (.v (val x))) F a' w' → wpAnyH P .any ops (PQ P k QQ) (HoldS B K0 ro) m (listed.setIfInBounds i true) a' w') :
    Nxt P ops (PQ P k QQ) (HoldS B K0 ro) m listed a w i := by
  unfold Nxt
  cases ho : ops[i]? with
  | none => rw [ho] at hh; simp at hh
  | some o =>
    rw [ho] at hh h; simp only [Option.bind_some] at hh h
    obtain ⟨h1, h2⟩ := call_op D.S hh
    unfold wpOp
    rw [ho]
    simp only
    rw [if_pos h1]
    refine Or.inl ?_
    unfold Oper.wp
    rw [h2, Oper.upon_enter]
    refine Calls.mono hC ?_
    rintro e w' ⟨x, rfl, hx, hb⟩
    have D1 : Sd w0 r B K0 ro bs s F a w' := ⟨D.S.below hb, D.pre, D.bl, D.ff, D.hro⟩
    have D' := D1.put o.dst (x := .v (val x)) trivial
    exact ⟨D'.hold, h x _ w' hx hb D'⟩
theorem nxt_call1 {m : Nat} {listed : Array Bool} {i : Nat} (D : Sd w0 r B K0 ro bs s F a w) {v : Value} {f : FuncId} {args : Array Value}
    (hC : Calls P f args w fun e w' => e = .returned v ∧ Below w.heap.size w w')
    (hh : ((ops[i]?).bind fun o => headC P ⟨[.ops ops [o]], s⟩).map (fun q => (q.1, q.2.map (den bs))) = some (f, args.toList))
    (h : ∀ a' w', Below w.heap.size w w' → Sd w0 r B K0 ro bs (s.put ((ops[i]?).bind (·.dst)) (.v v)) F a' w' → wpAnyH P .any ops (PQ P k QQ) (HoldS B K0 ro) m (listed.setIfInBounds i true) a' w') :
    Nxt P ops (PQ P k QQ) (HoldS B K0 ro) m listed a w i :=
  nxt_call D (X := Unit) (val := fun _ => v) (C := fun _ _ => True) (hC.mono fun e w' h => ⟨(), h.1, trivial, h.2⟩) hh fun _ a' w' _ hb D' => h a' w' hb D'
theorem any_done {Q : Exit → Act → World → Prop} {S : World → Prop} {n : Nat} {listed : Array Bool} (hr : Region.ready .any ops listed = []) (h : Q .normal a w) : wpAnyH P .any ops Q S n listed a w := wpAnyH_done hr h n
end

/-! ### Into the region and out of it -/
def opsD (c : Cfg) : Array Oper :=
  match c.k with
  | .code (.region _ ops true) :: _ => ops
  | _ => #[]
def isD (c : Cfg) : Bool :=
  match c.k with
  | .code (.region _ _ true) :: _ => true
  | _ => false
def kD (c : Cfg) : List It := c.k.tail
theorem sy_draw {c : Cfg} {QQ : Exit → Act → World → Prop} [PInv QQ] (ro : List Nat) (hm : P.follows .mixedOrders = true) (hd : isD c = true) (S : Sy w0 r bs c.s F a w) (hs : Region.noSelect (opsD c) = true)
    (h : ∀ w1, Sd w0 r bs c.s.K ro bs c.s F a w1 → wpAnyH P .any (opsD c) (PQ P (kD c) QQ) (HoldS bs c.s.K ro) (opsD c).size (Array.replicate (opsD c).size false) a w1) (hff : ∀ f ∈ HF.fs, f ∈ F := by exact fun f hf => absurd hf List.not_mem_nil) : post P c.k QQ .normal a w := by
  obtain ⟨k, s⟩ := c
  match k, hd with
  | .code (.region id ops true) :: k, _ => exact wp_region_held hm (h _ ⟨S.drew, fun _ _ => rfl, S.bl, hff, fun _ _ _ => rfl⟩)
/-! ### Step by step through a region that draws its order -/
structure DC where
  m : Nat
  lst : Array Bool
  s : SS
def DC.pred (d : DC) : Nat := d.m - 1
def drq (P : Program) (ops : Array Oper) (K0 : List Bx) (ro : List Nat) (d : DC) : DC :=
  match anyRun P ops K0 ro d.m d.lst d.s with
  | (m, l, s) => ⟨m, l, s⟩
def GD (P : Program) (c : Cfg) (QQ : Exit → Act → World → Prop) (B : List Nat) (ro : List Nat) (d : DC) (a : Act) (w : World) : Prop :=
  wpAnyH P .any (opsD c) (PQ P (kD c) QQ) (HoldS B c.s.K ro) d.m d.lst a w
def d0 (P : Program) (c : Cfg) (ro : List Nat) : DC := drq P (opsD c) c.s.K ro ⟨(opsD c).size, Array.replicate (opsD c).size false, c.s⟩
def dV (P : Program) (c : Cfg) (ro : List Nat) (d : DC) (i : Nat) (v : SV) : DC := drq P (opsD c) c.s.K ro ⟨d.m - 1, d.lst.setIfInBounds i true, d.s.put (((opsD c)[i]?).bind (·.dst)) v⟩
def dO (P : Program) (c : Cfg) (ro : List Nat) (d : DC) (i : Nat) : DC := drq P (opsD c) c.s.K ro ⟨d.m - 1, d.lst.setIfInBounds i true, (opS P (opsD c) d.s i).getD d.s⟩
def endD (c : Cfg) (d : DC) : Cfg := ⟨kD c, d.s⟩
section
variable {c : Cfg} {QQ : Exit → Act → World → Prop} [PInv QQ] {B : List Nat} {ro : List Nat} {d : DC}
theorem drq_sound (hs : Region.noSelect (opsD c) = true) (D : Sd w0 r B c.s.K ro bs d.s F a w)
    (h : ∀ a', Sd w0 r B c.s.K ro bs (drq P (opsD c) c.s.K ro d).s F a' w → GD P c QQ B ro (drq P (opsD c) c.s.K ro d) a' w) :
    wpAnyH P .any (opsD c) (PQ P (kD c) QQ) (HoldS B c.s.K ro) d.m d.lst a w := anyRun_sound hs d.m D h
theorem dr_enter (ro : List Nat) (hm : P.follows .mixedOrders = true) (hd : isD c = true) (S : Sy w0 r bs c.s F a w) (hs : Region.noSelect (opsD c) = true)
    (h : ∀ a' w1, Sd w0 r bs c.s.K ro bs (d0 P c ro).s F a' w1 → GD P c QQ bs ro (d0 P c ro) a' w1) (hff : ∀ f ∈ HF.fs, f ∈ F := by exact fun f hf => absurd hf List.not_mem_nil) : post P c.k QQ .normal a w :=
  sy_draw ro hm hd S hs (fun w1 D => drq_sound (d := ⟨(opsD c).size, Array.replicate (opsD c).size false, c.s⟩) hs D (fun a' D' => h a' w1 D')) hff
theorem dr_call (i : Nat) (D : Sd w0 r B c.s.K ro bs d.s F a w) (hs : Region.noSelect (opsD c) = true) (hn : (d.m != 0) = true) (hr : Region.ready .any (opsD c) d.lst = [i]) {X : Type} {val : X → Value} {C : X → World → Prop} {f : FuncId} {args : Array Value}
    (hC : Calls P f args w fun e w' => ∃ x, e = .returned (val x) ∧ C x w' ∧ Below w.heap.size w w')
    (hh : (((opsD c)[i]?).bind fun o => headC P ⟨[.ops (opsD c) [o]], d.s⟩).map (fun q => (q.1, q.2.map (den bs))) = some (f, args.toList))
    (h : ∀ x a' w', C x w' → Below w.heap.size w w' → Sd w0 r B c.s.K ro bs (dV P c ro d i (.v (val x))).s F a' w' → GD P c QQ B ro (dV P c ro d i (.v (val x))) a' w') : GD P c QQ B ro d a w := by
  have hn' : d.m = (d.m - 1) + 1 := by simp at hn; omega
  exact any_ready [i] (d.m - 1) hn' hr (by simp) ⟨nxt_call D hC hh fun x a' w' hx hb D' => drq_sound (d := ⟨d.m - 1, d.lst.setIfInBounds i true, d.s.put (((opsD c)[i]?).bind (·.dst)) (.v (val x))⟩) hs D' fun a'' D'' => h x a'' w' hx hb D'', trivial⟩
theorem dr_call1 (i : Nat) (D : Sd w0 r B c.s.K ro bs d.s F a w) (hs : Region.noSelect (opsD c) = true) (hn : (d.m != 0) = true) (hr : Region.ready .any (opsD c) d.lst = [i]) {v : Value} {f : FuncId} {args : Array Value}
    (hC : Calls P f args w fun e w' => e = .returned v ∧ Below w.heap.size w w')
    (hh : (((opsD c)[i]?).bind fun o => headC P ⟨[.ops (opsD c) [o]], d.s⟩).map (fun q => (q.1, q.2.map (den bs))) = some (f, args.toList))
    (h : ∀ a' w', Below w.heap.size w w' → Sd w0 r B c.s.K ro bs (dV P c ro d i (.v v)).s F a' w' → GD P c QQ B ro (dV P c ro d i (.v v)) a' w') : GD P c QQ B ro d a w :=
  dr_call i D hs hn hr (X := Unit) (val := fun _ => v) (C := fun _ _ => True) (hC.mono fun e w' h => ⟨(), h.1, trivial, h.2⟩) hh fun _ a' w' _ hb D' => h a' w' hb D'
theorem dr_op (i : Nat) (D : Sd w0 r B c.s.K ro bs d.s F a w) (hs : Region.noSelect (opsD c) = true) (hn : (d.m != 0) = true) (hr : Region.ready .any (opsD c) d.lst = [i]) (hlen : B.length ≤ bs.length)
    (hi : (opS P (opsD c) d.s i).isSome = true) (hro : ro.map (fun j => ((opS P (opsD c) d.s i).getD d.s).K[j]?) = ro.map (fun j => c.s.K[j]?))
    (h : ∀ bs' a' w', Sd w0 r B c.s.K ro (bs ++ bs') (dO P c ro d i).s F a' w' → B.length ≤ (bs ++ bs').length → GD P c QQ B ro (dO P c ro d i) a' w') : GD P c QQ B ro d a w := by
  have hn' : d.m = (d.m - 1) + 1 := by simp at hn; omega
  exact any_ready [i] (d.m - 1) hn' hr (by simp) ⟨nxt_sop D hlen hi hro fun bs' a' w' D' hl => drq_sound (d := ⟨d.m - 1, d.lst.setIfInBounds i true, (opS P (opsD c) d.s i).getD d.s⟩) hs D' fun a'' D'' => h bs' a'' w' D'' hl, trivial⟩
/-- Two operations at once: whichever comes first. -/
theorem dr_op2 (i j : Nat) (D : Sd w0 r B c.s.K ro bs d.s F a w) (hs : Region.noSelect (opsD c) = true) (hn : (d.m != 0) = true) (hr : Region.ready .any (opsD c) d.lst = [i, j]) (hlen : B.length ≤ bs.length)
    (hi : (opS P (opsD c) d.s i).isSome = true) (hro : ro.map (fun j => ((opS P (opsD c) d.s i).getD d.s).K[j]?) = ro.map (fun j => c.s.K[j]?))
    (hj : (opS P (opsD c) d.s j).isSome = true) (hro2 : ro.map (fun q => ((opS P (opsD c) d.s j).getD d.s).K[q]?) = ro.map (fun j => c.s.K[j]?))
    (h : ∀ bs' a' w', Sd w0 r B c.s.K ro (bs ++ bs') (dO P c ro d i).s F a' w' → B.length ≤ (bs ++ bs').length → GD P c QQ B ro (dO P c ro d i) a' w')
    (h2 : ∀ bs' a' w', Sd w0 r B c.s.K ro (bs ++ bs') (dO P c ro d j).s F a' w' → B.length ≤ (bs ++ bs').length → GD P c QQ B ro (dO P c ro d j) a' w') : GD P c QQ B ro d a w := by
  have hn' : d.m = (d.m - 1) + 1 := by simp at hn; omega
  exact any_ready [i, j] (d.m - 1) hn' hr (by simp) ⟨nxt_sop D hlen hi hro fun bs' a' w' D' hl => drq_sound (d := ⟨d.m - 1, d.lst.setIfInBounds i true, (opS P (opsD c) d.s i).getD d.s⟩) hs D' fun a'' D'' => h bs' a'' w' D'' hl,
    nxt_sop D hlen hj hro2 fun bs' a' w' D' hl => drq_sound (d := ⟨d.m - 1, d.lst.setIfInBounds j true, (opS P (opsD c) d.s j).getD d.s⟩) hs D' fun a'' D'' => h2 bs' a'' w' D'' hl, trivial⟩
/-- Several operations are ready: each may come next. -/
theorem dr_any (rs : List Nat) (hn : (d.m != 0) = true) (hr : Region.ready .any (opsD c) d.lst = rs) (hne : rs.isEmpty = false) (h : NxtAll P (opsD c) (PQ P (kD c) QQ) (HoldS B c.s.K ro) d.pred d.lst a w rs) : GD P c QQ B ro d a w := by
  have hn' : d.m = (d.m - 1) + 1 := by simp at hn; omega
  exact any_ready rs (d.m - 1) hn' hr (by intro e; rw [e] at hne; cases hne) h
theorem nx_call (i : Nat) (D : Sd w0 r B c.s.K ro bs d.s F a w) (hs : Region.noSelect (opsD c) = true) {X : Type} {val : X → Value} {C : X → World → Prop} {f : FuncId} {args : Array Value}
    (hC : Calls P f args w fun e w' => ∃ x, e = .returned (val x) ∧ C x w' ∧ Below w.heap.size w w')
    (hh : (((opsD c)[i]?).bind fun o => headC P ⟨[.ops (opsD c) [o]], d.s⟩).map (fun q => (q.1, q.2.map (den bs))) = some (f, args.toList))
    (h : ∀ x a' w', C x w' → Below w.heap.size w w' → Sd w0 r B c.s.K ro bs (dV P c ro d i (.v (val x))).s F a' w' → GD P c QQ B ro (dV P c ro d i (.v (val x))) a' w') : Nxt P (opsD c) (PQ P (kD c) QQ) (HoldS B c.s.K ro) d.pred d.lst a w i :=
  nxt_call D hC hh fun x a' w' hx hb D' => drq_sound (d := ⟨d.m - 1, d.lst.setIfInBounds i true, d.s.put (((opsD c)[i]?).bind (·.dst)) (.v (val x))⟩) hs D' fun a'' D'' => h x a'' w' hx hb D''
theorem nx_op (i : Nat) (D : Sd w0 r B c.s.K ro bs d.s F a w) (hs : Region.noSelect (opsD c) = true) (hlen : B.length ≤ bs.length)
    (hi : (opS P (opsD c) d.s i).isSome = true) (hro : ro.map (fun j => ((opS P (opsD c) d.s i).getD d.s).K[j]?) = ro.map (fun j => c.s.K[j]?))
    (h : ∀ bs' a' w', Sd w0 r B c.s.K ro (bs ++ bs') (dO P c ro d i).s F a' w' → B.length ≤ (bs ++ bs').length → GD P c QQ B ro (dO P c ro d i) a' w') : Nxt P (opsD c) (PQ P (kD c) QQ) (HoldS B c.s.K ro) d.pred d.lst a w i :=
  nxt_sop D hlen hi hro fun bs' a' w' D' hl => drq_sound (d := ⟨d.m - 1, d.lst.setIfInBounds i true, (opS P (opsD c) d.s i).getD d.s⟩) hs D' fun a'' D'' => h bs' a'' w' D'' hl
theorem Sd.addF {K0 : List Bx} {s : SS} (D : Sd w0 r B K0 ro bs s F a w) (f : RF) (hP : f.P w) (ha : ∀ i, i < bs.length → ¬f.bl (bs.getD i 0)) : Sd w0 r B K0 ro bs s (f :: F) a w := ⟨D.S.add f hP ha, D.pre, D.bl, fun g hg => List.mem_cons_of_mem _ (D.ff g hg), D.hro⟩
/-- What only reads, by hand. -/
theorem dr_tk (i : Nat) (D : Sd w0 r B c.s.K ro bs d.s F a w) (hs : Region.noSelect (opsD c) = true) (hn : (d.m != 0) = true) (hf : (Region.free .any (opsD c) d.lst i && (Region.ready .any (opsD c) d.lst).contains i && KP.keep.all fun t => ((opsD c)[i]?).bind (·.dst) != some t) = true)
    {o : Oper} (ho : (opsD c)[i]? = some o) {x : SV} (hx : x.ok bs.length) (hw : wantS d.s (opsD c) o = some true) (hrun : ∀ W, HoldS B c.s.K ro W → (execOp a.eval o).run P W = .ok (.value (den bs x)) W)
    (h : ∀ a', Sd w0 r B c.s.K ro bs (dV P c ro d i x).s F a' w → GD P c QQ B ro (dV P c ro d i x) a' w) : GD P c QQ B ro d a w := by
  have hn' : d.m = (d.m - 1) + 1 := by simp at hn; omega
  simp only [Bool.and_eq_true] at hf
  obtain ⟨⟨h1, h2⟩, h3⟩ := hf
  have e : ((opsD c)[i]?).bind (·.dst) = o.dst := by rw [ho]; rfl
  rw [e] at h3
  show wpAnyH P .any (opsD c) (PQ P (kD c) QQ) (HoldS B c.s.K ro) d.m d.lst a w
  rw [hn']
  refine wpAnyH_take ho hs h1 h2 (fun c' a w h => body_panic (kD c) o.dst _ c' a w h3 h) (Or.inl ⟨wantS_sound D.S hw, hrun⟩) D.hold ?_
  exact drq_sound (d := ⟨d.m - 1, d.lst.setIfInBounds i true, d.s.put (((opsD c)[i]?).bind (·.dst)) x⟩) hs (by rw [e]; exact D.put o.dst hx) h
theorem dr_end (D : Sd w0 r B c.s.K ro bs d.s F a w) (hr : Region.ready .any (opsD c) d.lst = [])
    (h : Sy w0 r bs (endD c d).s F a w → post P (endD c d).k QQ .normal a w) : GD P c QQ B ro d a w := any_done hr (h D.S)
end
/-- The same operations in their order, the calls' results given. -/
def seqR (P : Program) (ops : Array Oper) : List Oper → List SV → SS → SS
  | [], _, s => s
  | o :: l, rs, s => match wantS s ops o with
    | some false => seqR P ops l rs (s.put o.dst (.v undef))
    | some true => match sop P s o with
      | some s' => seqR P ops l rs s'
      | none => match rs with
        | x :: rs' => seqR P ops l rs' (s.put o.dst x)
        | [] => s
    | none => s
def seqD (P : Program) (c : Cfg) (rs : List SV) : SS := seqR P (opsD c) (opsD c).toList rs c.s
def SS.perm (π : List Nat) (s : SS) : SS := ⟨s.n, s.T.map fun q => (q.1, q.2.ren fun i => π.idxOf i), π.filterMap fun i => s.K[i]?⟩
def SS.norm (s : SS) : SS := { s with T := (List.range s.n).filterMap fun t => (s.get t).map fun x => (t, x) }
theorem lookup_norm (f : Nat → Option SV) : ∀ (l : List Nat) (t : Nat) {x : SV}, (l.filterMap fun t => (f t).map fun x => (t, x)).lookup t = some x → f t = some x
  | [], t, x, h => by simp at h
  | u :: l, t, x, h => by
    rw [List.filterMap_cons] at h
    cases hu : f u with
    | none => rw [hu] at h; exact lookup_norm f l t h
    | some y =>
      rw [hu] at h
      simp only [Option.map_some, List.lookup_cons] at h
      cases ht : (t == u) with
      | true => rw [ht] at h; simp at ht h; subst ht h; exact hu
      | false => rw [ht] at h; exact lookup_norm f l t h
theorem Sy.norm (S : Sy w0 r bs s F a w) : Sy w0 r bs s.norm F a w :=
  ⟨S.df, S.sz, fun t x h => S.tm t x (lookup_norm s.get _ t h), S.bl, S.bx, S.nd, S.lo, S.fs, S.gr⟩
def isPerm (π : List Nat) (n : Nat) : Bool := π.length == n && (List.range n).all π.contains && π.all (· < n) && (List.range n).all fun j => π.idxOf (π.getD j 0) == j
theorem lookup_map {f : SV → SV} : ∀ (T : List (Nat × SV)) (t : Nat) {x : SV}, (T.map fun q => (q.1, f q.2)).lookup t = some x → ∃ y, T.lookup t = some y ∧ x = f y
  | [], t, x, h => by simp at h
  | q :: T, t, x, h => by
    rw [List.map_cons, List.lookup_cons] at h
    rw [List.lookup_cons]
    cases ht : (t == q.1) with
    | true => rw [ht] at h; simp only [Option.some.injEq] at h; exact ⟨q.2, rfl, h.symm⟩
    | false => rw [ht] at h; exact lookup_map T t h
theorem Sy.perm (S : Sy w0 r bs s F a w) (π : List Nat) (hp : isPerm π s.K.length = true) : Sy w0 r (π.map fun i => bs.getD i 0) (s.perm π) F a w := by
  unfold isPerm at hp
  simp only [Bool.and_eq_true, List.all_eq_true, decide_eq_true_eq, beq_iff_eq, List.mem_range] at hp
  obtain ⟨⟨⟨h1, h2⟩, h3⟩, h5⟩ := hp
  have h2' : ∀ i, i < s.K.length → i ∈ π := fun i hi => by simpa using h2 i hi
  have hl : bs.length = s.K.length := S.bl
  have hget : ∀ j, j < π.length → (π.map fun i => bs.getD i 0).getD j 0 = bs.getD (π.getD j 0) 0 := fun j hj => by
    simp [List.getD, List.getElem?_map, List.getElem?_eq_getElem hj]
  have hK : (s.perm π).K = π.map fun i => (s.K[i]?).getD ⟨0, []⟩ := by
    show (π.filterMap fun i => s.K[i]?) = _
    clear h2 h2' hget h1 h5
    induction π with
    | nil => rfl
    | cons x π ih =>
      have hx : x < s.K.length := h3 x (by simp)
      rw [List.filterMap_cons, List.getElem?_eq_getElem hx, List.map_cons, ih (fun i hi => h3 i (List.mem_cons_of_mem _ hi)), List.getElem?_eq_getElem hx]
      rfl
  have hidx : ∀ i, i < bs.length → π.idxOf i < π.length ∧ π.getD (π.idxOf i) 0 = i := fun i hi => by
    have hm := h2' i (by omega)
    have hlt := List.idxOf_lt_length_of_mem hm
    exact ⟨hlt, by simp [List.getD, List.getElem?_eq_getElem hlt]⟩
  have hadr : ∀ i o, i < bs.length → adr (π.map fun i => bs.getD i 0) (π.idxOf i) o = adr bs i o := fun i o hi => by
    unfold adr
    rw [hget _ (hidx i hi).1, (hidx i hi).2]
  refine ⟨S.df, S.sz, fun t x h => ?_, by rw [hK]; simp, fun j k hk => ?_, fun i j hi hj he => ?_, fun i hi => ?_, fun f hf => ?_, S.gr⟩
  · obtain ⟨y, hy, rfl⟩ := lookup_map s.T t h
    obtain ⟨g1, g2⟩ := S.tm t y hy
    cases y with
    | v v => exact ⟨g1, trivial⟩
    | p i o => exact ⟨by rw [g1]; simp only [den, SV.ren]; rw [hadr i o g2], by simpa [SV.ok, SV.ren] using (hidx i g2).1⟩
    | s i o l c => exact ⟨by rw [g1]; simp only [den, SV.ren]; rw [hadr i o g2], by simpa [SV.ok, SV.ren] using (hidx i g2).1⟩
    | f fn caps =>
      refine ⟨?_, ?_⟩
      · rw [g1]
        simp only [den, SV.ren, List.map_map]
        congr 3
        exact (List.map_congr_left fun q hq => by simp only [Function.comp]; rw [hadr q.1 q.2 (g2 q hq)]).symm
      · intro q hq
        simp only [List.mem_map] at hq
        obtain ⟨q', hq', rfl⟩ := hq
        simpa using (hidx q'.1 (g2 q' hq')).1
  · rw [hK, List.getElem?_map] at hk
    cases hj : π[j]? with
    | none => rw [hj] at hk; cases hk
    | some i =>
      have hjl : j < π.length := (List.getElem?_eq_some_iff.1 hj).1
      rw [hj] at hk
      simp only [Option.map_some, Option.some.injEq] at hk
      have hi : i < s.K.length := h3 i (List.mem_of_getElem? hj)
      rw [hget j hjl, show π.getD j 0 = i by simp [List.getD, hj]]
      exact S.bx i k (by rw [List.getElem?_eq_getElem hi] at hk ⊢; simpa using hk)
  · simp only [List.length_map] at hi hj
    rw [hget i hi, hget j hj] at he
    have e1 : π.getD i 0 = π[i] := by simp [List.getD, List.getElem?_eq_getElem hi]
    have e2 : π.getD j 0 = π[j] := by simp [List.getD, List.getElem?_eq_getElem hj]
    rw [e1, e2] at he
    have := S.nd _ _ (by rw [hl]; exact h3 _ (List.getElem_mem hi)) (by rw [hl]; exact h3 _ (List.getElem_mem hj)) he
    have k1 := h5 i (by omega)
    have k2 := h5 j (by omega)
    rw [e1] at k1
    rw [e2] at k2
    rw [this] at k1
    omega
  · simp only [List.length_map] at hi
    rw [hget i hi]
    exact S.lo _ (by rw [hl]; have : π.getD i 0 = π[i] := by simp [List.getD, List.getElem?_eq_getElem hi]
                     rw [this]; exact h3 _ (List.getElem_mem hi))
  · obtain ⟨g1, g2⟩ := S.fs f hf
    refine ⟨g1, fun i hi => ?_⟩
    simp only [List.length_map] at hi
    rw [hget i hi]
    exact g2 _ (by rw [hl]; have : π.getD i 0 = π[i] := by simp [List.getD, List.getElem?_eq_getElem hi]
                   rw [this]; exact h3 _ (List.getElem_mem hi))
theorem Sy.conv (S : Sy w0 r bs s F a w) (π : List Nat) {s' : SS} (hp : isPerm π s.K.length = true) (he : (s.perm π).norm = s'.norm) : Sy w0 r (π.map fun i => bs.getD i 0) s'.norm F a w := by
  rw [← he]; exact (S.perm π hp).norm
end
end Go.Proofs.YtfkmcibglaiakaaDoor.SZ
