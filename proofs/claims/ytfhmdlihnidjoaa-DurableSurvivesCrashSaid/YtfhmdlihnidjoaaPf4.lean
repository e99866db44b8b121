/-
  Merged: Zx, Zd, Ea, Eb, Ec
-/
import Derived.WalkKit
import Derived.Deep.MidRow
import Derived.Deep.RegionHeld
import Derived.LoopN
import Derived.Laws.AppendOwn
import Derived.Below
import Derived.ProofKit
import Derived.OpenShut
import Derived.KernelRfl
import Derived.OrdersHeld
import Derived.ScopeJumps
import Derived.Laws.MakeOwn
import Derived.Laws.StructEq
namespace Go.Proofs.Ytfhmdlihnidjoaa.SZ
set_option linter.unusedVariables false
set_option linter.unusedSectionVars false
set_option linter.unusedSimpArgs false
set_option maxRecDepth 100000
open Go Go.RowKit
inductive SV where
  | v (x : Value)
  | p (i o : Nat)
  | s (i o l c : Nat)
  | f (fn : FuncId) (caps : List (Nat × Nat))
def adr (bs : List Nat) (i o : Nat) : Addr := ⟨bs.getD i 0, o, none⟩
def den (bs : List Nat) : SV → Value
  | .v x => x
  | .p i o => .pointer (some (adr bs i o))
  | .s i o l c => .slice (some (adr bs i o)) l c
  | .f fn caps => .func (.func fn) #[] (caps.map fun q => Value.pointer (some (adr bs q.1 q.2))).toArray
def SV.ok (n : Nat) : SV → Prop
  | .v _ => True
  | .p i _ => i < n
  | .s i _ _ _ => i < n
  | .f _ caps => ∀ q ∈ caps, q.1 < n
theorem SV.ok_mono {n m : Nat} {x : SV} (h : x.ok n) (hm : n ≤ m) : x.ok m := by
  cases x with
  | v x => trivial
  | p i o => exact Nat.lt_of_lt_of_le h hm
  | s i o l c => exact Nat.lt_of_lt_of_le h hm
  | f fn caps => exact fun q hq => Nat.lt_of_lt_of_le (h q hq) hm
theorem Qix {bs cs : List Nat} {i o : Nat} (h : i < bs.length) : adr (bs ++ cs) i o = adr bs i o := by
  unfold adr; congr 1; simp [List.getD, List.getElem?_append_left h]
theorem den_app {bs cs : List Nat} {x : SV} (h : x.ok bs.length) : den (bs ++ cs) x = den bs x := by
  cases x with
  | v x => rfl
  | p i o => simp only [den]; rw [Qix h]
  | s i o l c => simp only [den]; rw [Qix h]
  | f fn caps =>
    simp only [den]; congr 2
    exact List.map_congr_left fun q hq => by rw [Qix (h q hq)]
structure Bx where
  ty : TypeId
  cs : List Value
structure SS where
  n : Nat
  T : List (Nat × SV)
  K : List Bx
def SS.get (s : SS) (t : Nat) : Option SV := s.T.lookup t
def SS.put (s : SS) (d : Option Nat) (x : SV) : SS :=
  match d with
  | none => s
  | some d => if d < s.n then { s with T := (d, x) :: s.T } else { s with T := s.T.filter fun q => q.1 != d }
def SS.val (s : SS) : Operand → Option SV
  | .tmp t => s.get t
  | .const v => some (.v v)
  | .func f => some (.v (.func (.func f) #[] #[]))
  | .global _ => none
def SS.env (s : SS) (x : Operand) : Value :=
  match s.val x with
  | some (.v y) => y
  | _ => undef
def SS.isV (s : SS) (x : Operand) : Bool :=
  match s.val x with
  | some (.v _) => true
  | _ => false
structure RF where
  bl : Nat → Prop
  P : World → Prop
  lt : ∀ w, P w → ∀ b, bl b → b < w.heap.size
  st : ∀ w w', P w → (∀ b, bl b → w'.heap[b]? = w.heap[b]?) → P w'
class DF where
  d : List Deferred
instance (priority := low) noDF : DF := ⟨[]⟩
class KP where
  keep : List Nat
instance (priority := low) noKP : KP := ⟨[]⟩
structure Gr (w w' : World) (r : List Nat) : Prop where
  os : w'.os = w.os
  tape : w'.tape = w.tape
  output : w'.output = w.output
  size : w.heap.size ≤ w'.heap.size
  block : ∀ k, k < w.heap.size → k ∉ r → w'.heap[k]? = w.heap[k]?
structure Sy [DF] (w0 : World) (r : List Nat) (bs : List Nat) (s : SS) (F : List RF) (a : Act) (w : World) : Prop where
  df : a.defers = DF.d
  sz : a.tmps.size = s.n
  tm : ∀ t x, s.get t = some x → a.tmps[t]? = some (den bs x) ∧ x.ok bs.length
  bl : bs.length = s.K.length
  bx : ∀ i k, s.K[i]? = some k → w.heap[bs.getD i 0]? = some (.cells k.cs.toArray k.ty (0, 0))
  nd : ∀ i j, i < bs.length → j < bs.length → bs.getD i 0 = bs.getD j 0 → i = j
  lo : ∀ i, i < bs.length → w0.heap.size ≤ bs.getD i 0 ∨ bs.getD i 0 ∈ r
  fs : ∀ f ∈ F, f.P w ∧ ∀ i, i < bs.length → ¬f.bl (bs.getD i 0)
  gr : Gr w0 w r
section
variable [DF]
variable {P : Program} {w0 : World} {r : List Nat} {bs : List Nat} {s : SS} {F : List RF} {a : Act} {w : World}
theorem Sy.val (S : Sy w0 r bs s F a w) {x : Operand} {y : SV} (h : s.val x = some y) : a.eval x = den bs y ∧ y.ok bs.length := by
  cases x with
  | tmp t =>
    obtain ⟨h1, h2⟩ := S.tm t y h
    exact ⟨by simp [Act.eval, Array.getD_eq_getD_getElem?, h1], h2⟩
  | const v => simp only [SS.val, Option.some.injEq] at h; subst h; exact ⟨rfl, trivial⟩
  | global g => simp [SS.val] at h
  | func f => simp only [SS.val, Option.some.injEq] at h; subst h; exact ⟨rfl, trivial⟩
theorem Sy.env (S : Sy w0 r bs s F a w) {x : Operand} (h : s.isV x = true) : a.eval x = s.env x := by
  unfold SS.isV at h
  unfold SS.env
  cases hx : s.val x with
  | none => rw [hx] at h; cases h
  | some y =>
    rw [hx] at h
    cases y with
    | v y => exact (S.val hx).1
    | _ => cases h
theorem Qgt {T : List (Nat × SV)} {d t : Nat} {x : SV} (h : (T.filter fun q => q.1 != d).lookup t = some x) : t ≠ d ∧ T.lookup t = some x := by
  induction T with
  | nil => simp at h
  | cons q T ih =>
    by_cases hq : q.1 = d
    · have e : (q.1 != d) = false := by simp [hq]
      rw [List.filter_cons, e] at h
      simp only [Bool.false_eq_true, if_false] at h
      obtain ⟨h1, h2⟩ := ih h
      refine ⟨h1, ?_⟩
      rw [List.lookup_cons, show (t == q.1) = false by simp; omega]
      exact h2
    · have e : (q.1 != d) = true := by simp [hq]
      rw [List.filter_cons, e] at h
      simp only [if_true] at h
      rw [List.lookup_cons] at h ⊢
      cases ht : (t == q.1) with
      | true => rw [ht] at h; simp at ht; exact ⟨by omega, h⟩
      | false => rw [ht] at h; exact ih h
theorem Sy.put (S : Sy w0 r bs s F a w) (d : Option Nat) {x : SV} (hx : x.ok bs.length) : Sy w0 r bs (s.put d x) F (a.put d (den bs x)) w := by
  cases d with
  | none => exact S
  | some d =>
    unfold SS.put Act.put
    simp only
    split
    · rename_i hd
      refine ⟨S.df, by simp [S.sz], fun t y h => ?_, S.bl, S.bx, S.nd, S.lo, S.fs, S.gr⟩
      unfold SS.get at h
      simp only [List.lookup_cons] at h
      cases ht : (t == d) with
      | true =>
        rw [ht] at h; simp at ht; subst ht
        simp only [Option.some.injEq] at h; subst h
        exact ⟨by simp [S.sz, hd], hx⟩
      | false =>
        rw [ht] at h; simp at ht
        have := S.tm t y h
        exact ⟨by rw [Array.getElem?_setIfInBounds_ne (by omega)]; exact this.1, this.2⟩
    · refine ⟨S.df, by simp [S.sz], fun t y h => ?_, S.bl, S.bx, S.nd, S.lo, S.fs, S.gr⟩
      obtain ⟨h1, h2⟩ := Qgt (T := s.T) h
      have := S.tm t y h2
      exact ⟨by rw [Array.getElem?_setIfInBounds_ne (by omega)]; exact this.1, this.2⟩
theorem Sy.lt (S : Sy w0 r bs s F a w) {i : Nat} (h : i < bs.length) : bs.getD i 0 < w.heap.size := by
  have hk : i < s.K.length := by rw [← S.bl]; exact h
  have := S.bx i _ (List.getElem?_eq_getElem hk)
  rcases Nat.lt_or_ge (bs.getD i 0) w.heap.size with h1 | h1
  · exact h1
  · rw [Array.getElem?_eq_none h1] at this; cases this
theorem Sy.below (S : Sy w0 r bs s F a w) {w' : World} (hb : Below w.heap.size w w') : Sy w0 r bs s F a w' := by
  have hk : ∀ i, i < bs.length → w'.heap[bs.getD i 0]? = w.heap[bs.getD i 0]? := fun i hi => hb.block _ (S.lt hi)
  refine ⟨S.df, S.sz, S.tm, S.bl, fun i k h => ?_, S.nd, S.lo, fun f hf => ?_, ?_⟩
  · have hi : i < bs.length := by rw [S.bl]; exact (List.getElem?_eq_some_iff.1 h).1
    rw [hk i hi]; exact S.bx i k h
  · obtain ⟨h1, h2⟩ := S.fs f hf
    exact ⟨f.st w w' h1 (fun b hb' => hb.block b (f.lt w h1 b hb')), h2⟩
  · have g := S.gr
    exact ⟨hb.os.trans g.os, hb.tape.trans g.tape, hb.output.trans g.output, Nat.le_trans g.size hb.size, fun k hk hne => (hb.block k (Nat.lt_of_lt_of_le hk g.size)).trans (g.block k hk hne)⟩
theorem QcO {bs : List Nat} {b i : Nat} : (bs ++ [b]).getD i 0 = if i < bs.length then bs.getD i 0 else if i = bs.length then b else 0 := by
  split
  · rename_i h; simp [List.getD, List.getElem?_append_left h]
  · rename_i h
    split
    · rename_i h2; subst h2; simp [List.getD]
    · rename_i h2; simp [List.getD, List.getElem?_append_right (Nat.le_of_not_lt h)]; rw [List.getElem?_eq_none (by simp; omega)]; rfl
def SS.new (s : SS) (k : Bx) : SS := { s with K := s.K ++ [k] }
theorem Sy.new (S : Sy w0 r bs s F a w) (k : Bx) : Sy w0 r (bs ++ [w.heap.size]) (s.new k) F a (w.alloc (.cells k.cs.toArray k.ty (0, 0))) := by
  have hb : Below w.heap.size w (w.alloc (.cells k.cs.toArray k.ty (0, 0))) := (Below.refl _ _).alloc (Nat.le_refl _) _
  have S' := S.below hb
  have hl : (bs ++ [w.heap.size]).length = bs.length + 1 := by simp
  have hlt : ∀ i, i < bs.length → bs.getD i 0 < w.heap.size := fun i hi => S.lt hi
  refine ⟨S'.df, S'.sz, fun t x h => ?_, by simp [SS.new, S.bl], fun i k' h => ?_, fun i j hi hj he => ?_, fun i hi => ?_, fun f hf => ?_, S'.gr⟩
  · obtain ⟨h1, h2⟩ := S'.tm t x h
    exact ⟨by rw [den_app h2]; exact h1, SV.ok_mono h2 (by omega)⟩
  · have h' : (s.K ++ [k])[i]? = some k' := h
    rw [QcO]
    by_cases hi : i < bs.length
    · rw [if_pos hi]
      rw [List.getElem?_append_left (by rw [← S.bl]; exact hi)] at h'
      exact S'.bx i k' h'
    · rw [if_neg hi]
      have hi2 : i = bs.length := by
        have := (List.getElem?_eq_some_iff.1 h').1
        simp at this
        rw [← S.bl] at this
        omega
      rw [if_pos hi2]
      rw [hi2, S.bl, List.getElem?_append_right (Nat.le_refl _)] at h'
      simp at h'
      subst h'
      exact heap_alloc_new w _
  · rw [hl] at hi hj
    rw [QcO, QcO] at he
    by_cases h1 : i < bs.length <;> by_cases h2 : j < bs.length
    · rw [if_pos h1, if_pos h2] at he; exact S.nd i j h1 h2 he
    · rw [if_pos h1, if_neg h2, if_pos (by omega)] at he; have := hlt i h1; omega
    · rw [if_neg h1, if_pos h2, if_pos (by omega)] at he; have := hlt j h2; omega
    · omega
  · rw [hl] at hi
    rw [QcO]
    by_cases h1 : i < bs.length
    · rw [if_pos h1]; exact S.lo i h1
    · rw [if_neg h1, if_pos (by omega)]; exact Or.inl S.gr.size
  · obtain ⟨h1, h2⟩ := S'.fs f hf
    refine ⟨h1, fun i hi => ?_⟩
    rw [hl] at hi
    rw [QcO]
    by_cases h3 : i < bs.length
    · rw [if_pos h3]; exact h2 i h3
    · rw [if_neg h3, if_pos (by omega)]
      intro he
      have := f.lt w (S.fs f hf).1 _ he
      omega
theorem Sy.newv (S : Sy w0 r bs s F a w) (k : Bx) (d : Option Nat) {x : SV} (hx : x.ok (bs.length + 1)) : Sy w0 r (bs ++ [w.heap.size]) ((s.new k).put d x) F (a.put d (den (bs ++ [w.heap.size]) x)) (w.alloc (.cells k.cs.toArray k.ty (0, 0))) :=
  (S.new k).put d (by simpa using hx)
def setL : List Value → Nat → List Value → List Value
  | cs, _, [] => cs
  | cs, o, v :: r => setL (cs.set o v) (o + 1) r
theorem QcW (b : Nat) (ty : TypeId) : ∀ (vs : List Value) (o : Nat) (w : World) (cs : List Value), w.heap[b]? = some (.cells cs.toArray ty (0, 0)) → (w.setCells b o vs).heap[b]? = some (.cells (setL cs o vs).toArray ty (0, 0))
  | [], _, _, _, h => h
  | v :: r, o, w, cs, h => by
    rw [World.setCells, setL]
    refine QcW b ty r (o + 1) _ (cs.set o v) ?_
    simp only [World.setCell, Array.getElem?_modify]
    simp [h]
theorem setCells_os (b : Nat) : ∀ (vs : List Value) (o : Nat) (w : World), (w.setCells b o vs).os = w.os ∧ (w.setCells b o vs).tape = w.tape ∧ (w.setCells b o vs).output = w.output ∧ (w.setCells b o vs).heap.size = w.heap.size ∧ ∀ k, k ≠ b → (w.setCells b o vs).heap[k]? = w.heap[k]?
  | [], _, _ => ⟨rfl, rfl, rfl, rfl, fun _ _ => rfl⟩
  | v :: r, o, w => by
    obtain ⟨h1, h2, h3, h4, h5⟩ := setCells_os b r (o + 1) (w.setCell ⟨b, o, none⟩ v)
    exact ⟨h1, h2, h3, h4.trans (by simp [World.setCell]), fun k hk => (h5 k hk).trans (Below.heap_setCell _ _ _ _ hk)⟩
def SS.setK (s : SS) (i : Nat) (k : Bx) : SS := { s with K := s.K.set i k }
theorem Sy.store (S : Sy w0 r bs s F a w) {i o : Nat} {k : Bx} (hk : s.K[i]? = some k) (vs : List Value) : Sy w0 r bs (s.setK i ⟨k.ty, setL k.cs o vs⟩) F a (w.setCells (bs.getD i 0) o vs) := by
  have hi : i < bs.length := by rw [S.bl]; exact (List.getElem?_eq_some_iff.1 hk).1
  obtain ⟨h1, h2, h3, h4, h5⟩ := setCells_os (bs.getD i 0) vs o w
  refine ⟨S.df, S.sz, S.tm, by simp [SS.setK, S.bl], fun j k' h => ?_, S.nd, S.lo, fun f hf => ?_, ?_⟩
  · have h' : (s.K.set i ⟨k.ty, setL k.cs o vs⟩)[j]? = some k' := h
    by_cases hj : i = j
    · subst hj
      rw [List.getElem?_set_self (by rw [← S.bl]; exact hi)] at h'
      simp only [Option.some.injEq] at h'
      subst h'
      exact QcW _ _ vs o w k.cs (S.bx i k hk)
    · rw [List.getElem?_set_ne hj] at h'
      have hjl : j < bs.length := by rw [S.bl]; exact (List.getElem?_eq_some_iff.1 h').1
      rw [h5 _ (fun he => hj (S.nd j i hjl hi he).symm)]
      exact S.bx j k' h'
  · obtain ⟨g1, g2⟩ := S.fs f hf
    exact ⟨f.st w _ g1 (fun b hb => h5 b (fun he => g2 i hi (he ▸ hb))), g2⟩
  · have g := S.gr
    refine ⟨h1.trans g.os, h2.trans g.tape, h3.trans g.output, by rw [h4]; exact g.size, fun b hb hne => ?_⟩
    rw [h5 b ?_]
    · exact g.block b hb hne
    · intro he
      rcases S.lo i hi with hl | hl
      · omega
      · exact hne (by rw [he]; exact hl)
theorem Sy.drew (S : Sy w0 r bs s F a w) : Sy w0 r bs s F a w.drew :=
  S.below ⟨rfl, rfl, rfl, Nat.le_refl _, fun _ _ => rfl⟩
def pev (P : Program) {α : Type} : Sem α → Option α
  | .pure a => some a
  | .program k => pev P (k P)
  | .mark _ k => pev P k
  | _ => none
theorem pev_run {α : Type} {P : Program} (m : Sem α) {x : α} (h : pev P m = some x) (w : World) : m.run P w = .ok x w := by
  induction m with
  | pure a => simp only [pev, Option.some.injEq] at h; subst h; rfl
  | program k ih => simp only [pev] at h; exact ih P h
  | mark m k ih => simp only [pev] at h; exact ih h
  | _ => simp [pev] at h
theorem Qb_ {α β : Type} {l : Array α} {f g : α → β} (h : ∀ x ∈ l.toList, f x = g x) : l.map f = l.map g := by
  apply Array.ext'
  simp only [Array.toList_map]
  exact List.map_congr_left h
theorem execOp_congr {ρ ρ' : Operand → Value} (o : Oper) (h : ∀ x ∈ o.op.operands.toList, ρ x = ρ' x) (hs : ∀ cs b, o.op ≠ .select cs b) : execOp ρ o = execOp ρ' o := by
  obtain ⟨dst, op, ty, pos, after, guard⟩ := o
  simp only at h hs
  cases op <;> simp only [Op.operands] at h <;> simp only [execOp]
  case build t parts =>
    have : (parts.map fun (i, x) => (i, ρ x)) = (parts.map fun (i, x) => (i, ρ' x)) := Qb_ fun q hq => by
      show (q.1, ρ q.2) = (q.1, ρ' q.2)
      rw [h q.2 (by simp; exact ⟨q.1, by simpa using hq⟩)]
    rw [this]
  case buildSlice t n parts =>
    have : (parts.map fun (i, x) => (i, ρ x)) = (parts.map fun (i, x) => (i, ρ' x)) := Qb_ fun q hq => by
      show (q.1, ρ q.2) = (q.1, ρ' q.2)
      rw [h q.2 (by simp; exact ⟨q.1, by simpa using hq⟩)]
    rw [this]
  case makeFunc fn first captured =>
    rw [Qb_ (g := ρ') fun q hq => h q (by simp; left; simpa using hq), Qb_ (l := captured) (g := ρ') fun q hq => h q (by simp; right; simpa using hq)]
  case makeMap t x => cases x <;> simp_all
  case slice t x l hh m => cases l <;> cases hh <;> cases m <;> simp_all
  case call c =>
    have ha : c.args.map ρ = c.args.map ρ' := Qb_ fun q hq => h q (by simp [Call.operands]; right; simpa using hq)
    have hr : resolve ρ c ty = resolve ρ' c ty := by
      unfold resolve
      rw [ha]
      cases hc : c.callee with
      | builtin b => rfl
      | invoke rv m => simp only; rw [h rv (by simp [Call.operands, hc])]
      | value f => simp only; rw [h f (by simp [Call.operands, hc])]
    rw [hr]
  case go c =>
    have ha : c.args.map ρ = c.args.map ρ' := Qb_ fun q hq => h q (by simp [Call.operands]; right; simpa using hq)
    have hr : resolve ρ c ty = resolve ρ' c ty := by
      unfold resolve
      rw [ha]
      cases hc : c.callee with
      | builtin b => rfl
      | invoke rv m => simp only; rw [h rv (by simp [Call.operands, hc])]
      | value f => simp only; rw [h f (by simp [Call.operands, hc])]
    rw [hr]
  case defer c =>
    have ha : c.args.map ρ = c.args.map ρ' := Qb_ fun q hq => h q (by simp [Call.operands]; right; simpa using hq)
    have hr : resolve ρ c ty = resolve ρ' c ty := by
      unfold resolve
      rw [ha]
      cases hc : c.callee with
      | builtin b => rfl
      | invoke rv m => simp only; rw [h rv (by simp [Call.operands, hc])]
      | value f => simp only; rw [h f (by simp [Call.operands, hc])]
    rw [hr]
  case select cs b => exact absurd rfl (hs cs b)
  all_goals simp_all
def ldS (P : Program) (ty : TypeId) (cs : List Value) (o : Nat) : Option Value :=
  match P.underlying ty, (P.info? ty).map (·.size) with
  | some d, some n => if d.isRow then (if o + n ≤ cs.length then some (.agg ((cs.drop o).take n).toArray) else none) else cs[o]?
  | _, _ => none
def stS (P : Program) (ty : TypeId) (cs : List Value) (o : Nat) (v : Value) : Option (List Value) :=
  match (P.info? ty).map (·.size) with
  | some n => if v.cells.size = n ∧ o + n ≤ cs.length ∧ v.cells.toList.all (·.oneCell') = true then some (setL cs o v.cells.toList) else none
  | none => none
def zeroS (P : Program) (ty : TypeId) : Option (List Value) := (pev P (zeroValue ty)).map (·.cells.toList)
def fieldS (P : Program) (t : TypeId) (f : Nat) : Option Nat :=
  match P.underlying t with
  | some (.struct fields) => match fields[f]? with
    | some fl => match (P.info? fl.type).map (·.size) with
      | some n => if n = 0 then none else some fl.offset
      | none => none
    | none => none
  | _ => none
def notSel : Op → Bool
  | .select _ _ => false
  | _ => true
def dflt (P : Program) (s : SS) (o : Oper) : Option SS :=
  match o.op.operands.toList.all s.isV && notSel o.op with
  | true => match pev P (execOp s.env o) with
    | some (.value x) => some (s.put o.dst (.v x))
    | _ => none
  | false => none
def capS (s : SS) : List Operand → Option (List (Nat × Nat))
  | [] => some []
  | x :: r => match s.val x, capS s r with
    | some (.p i o), some l => some ((i, o) :: l)
    | _, _ => none
def bslS (P : Program) (t : TypeId) (len : Nat) (parts : Array (Nat × Value)) : Option Bx :=
  match P.underlying t with
  | some (.slice elem) => match (P.info? elem).map (·.size), pev P (zeroValue elem) with
    | some size, some z => if len * size = 0 ∨ len * size > 2 ^ 24 then none else
      match Instr.fill (fun i => some (i * size, size)) ((Array.range (len * size)).map (z.cells[· % z.cells.size]!)) parts.toList with
      | some cells => some ⟨elem, cells.toList⟩
      | none => none
    | _, _ => none
  | _ => none
def sop (P : Program) (s : SS) (o : Oper) : Option SS :=
  match o.op with
  | .move x => (s.val x).map (s.put o.dst)
  | .assign x => (s.val x).map (s.put o.dst)
  | .load ty x => match s.val x with
    | some (.p i off) => match s.K[i]? with
      | some k => (ldS P ty k.cs off).map fun v => s.put o.dst (.v v)
      | none => none
    | _ => none
  | .store ty x y => match s.val x, s.val y with
    | some (.p i off), some (.v v) => match s.K[i]? with
      | some k => (stS P ty k.cs off v).map fun cs => (s.setK i ⟨k.ty, cs⟩).put o.dst (.v undef)
      | none => none
    | _, _ => none
  | .alloc ty => (zeroS P ty).map fun cs => (s.new ⟨ty, cs⟩).put o.dst (.p s.K.length 0)
  | .box ty x => match s.val x with
    | some (.v v) => some ((s.new ⟨ty, v.cells.toList⟩).put o.dst (.p s.K.length 0))
    | _ => none
  | .buildSlice t len parts => if parts.toList.all (fun q => s.isV q.2) then
      (bslS P t len (parts.map fun (i, x) => (i, s.env x))).map fun k => (s.new k).put o.dst (.s s.K.length 0 len len)
    else none
  | .fieldAddr t x f => match s.val x with
    | some (.p i off) => (fieldS P t f).map fun q => s.put o.dst (.p i (off + q))
    | some (.v _) => dflt P s o
    | _ => none
  | .nilCheck x => match s.val x with
    | some (.p i off) => some (s.put o.dst (.p i off))
    | some (.v _) => dflt P s o
    | _ => none
  | .makeFunc (.func fn) first captured => if first.size = 0 then
      match capS s captured.toList with
      | some l => some (s.put o.dst (.f fn l))
      | none => dflt P s o
    else dflt P s o
  | _ => dflt P s o
theorem Qcj (S : Sy w0 r bs s F a w) {o : Oper} {s' : SS} (h : dflt P s o = some s') {K : Act → World → Prop} {Q : Exit → Act → World → Prop}
    (hk : ∀ bs' a' w', Sy w0 r (bs ++ bs') s' F a' w' → K a' w') : o.wp P a w K Q := by
  unfold dflt at h
  cases hc : (o.op.operands.toList.all s.isV && notSel o.op) with
  | false => rw [hc] at h; cases h
  | true =>
    rw [hc] at h
    simp only [Bool.and_eq_true, List.all_eq_true] at hc
    obtain ⟨h1, h2⟩ := hc
    have he : execOp a.eval o = execOp s.env o := execOp_congr o (fun x hx => S.env (h1 x hx)) (fun cs b e => by rw [e] at h2; cases h2)
    cases hp : pev P (execOp s.env o) with
    | none => rw [hp] at h; cases h
    | some n =>
      rw [hp] at h
      cases n <;> simp at h
      rename_i x
      subst h
      unfold Oper.wp
      rw [he, pev_run _ hp w, Oper.upon_value]
      refine hk [] _ _ ?_
      rw [List.append_nil]
      exact S.put o.dst (x := .v x) trivial
theorem run_info {ty : TypeId} {n : Nat} (h : (P.info? ty).map (·.size) = some n) (w : World) : (sizeOf ty).run P w = .ok n w := by
  cases hq : P.info? ty with
  | none => rw [hq] at h; cases h
  | some i => rw [hq] at h; simp at h; simp [sizeOf, typeInfo, hq, h]
section
variable {b : Nat} {cs : List Value} {ty : TypeId} {o : Nat} (h : w.heap[b]? = some (.cells cs.toArray ty (0, 0)))
include b cs ty o h
theorem Qdl : w.cell? ⟨b, o, none⟩ = cs[o]? := by
  simp [World.cell?, h]
theorem frozen_of_heap : w.frozen? ⟨b, o, none⟩ = false := by
  simp [World.frozen?, h]
end
theorem Qh4 {ty ty' : TypeId} {cs : List Value} {b o : Nat} {v : Value} (h : ldS P ty cs o = some v) (hh : w.heap[b]? = some (.cells cs.toArray ty' (0, 0))) : (loadVar ty ⟨b, o, none⟩).run P w = .ok v w := by
  unfold ldS at h
  cases hu : P.underlying ty with
  | none => rw [hu] at h; simp at h
  | some d =>
    cases hi : (P.info? ty).map (·.size) with
    | none => rw [hu, hi] at h; simp at h
    | some n =>
      rw [hu, hi] at h
      simp only at h
      by_cases hd : d.isRow
      · rw [if_pos hd] at h
        split at h
        · rename_i hn
          simp only [Option.some.injEq] at h
          subst h
          refine run_loadVar_mid w b o ty _ d ?_ hu hd ?_
          · intro j x hj
            rw [Qdl hh]
            rw [List.getElem?_take] at hj
            split at hj
            · rw [List.getElem?_drop] at hj; exact hj
            · cases hj
          · rw [hi]; simp; omega
        · cases h
      · rw [if_neg hd] at h
        have hagg : (isAgg ty).run P w = .ok false w := by
          unfold isAgg
          rw [Sem.run_bind, run_underlying hu w]
          cases d <;> simp_all
        unfold loadVar
        rw [Sem.run_bind, hagg]
        simp only [Result.andThen_ok, Bool.false_eq_true, if_false]
        simp only [load, Sem.run, (Qdl hh).trans h]
theorem QkK {ty ty' : TypeId} {cs cs' : List Value} {b o : Nat} {v : Value} (h : stS P ty cs o v = some cs') (hh : w.heap[b]? = some (.cells cs.toArray ty' (0, 0))) : (storeVar ty ⟨b, o, none⟩ v).run P w = .ok () (w.setCells b o v.cells.toList) ∧ cs' = setL cs o v.cells.toList := by
  unfold stS at h
  cases hi : (P.info? ty).map (·.size) with
  | none => rw [hi] at h; simp at h
  | some n =>
    rw [hi] at h
    simp only at h
    split at h
    · rename_i hc
      obtain ⟨h1, h2, h3⟩ := hc
      simp only [Option.some.injEq] at h
      refine ⟨?_, h.symm⟩
      have hs := run_storeCells_cells (P := P) b o v.cells.toList 0 w (fun j hj => by
        rw [Qdl hh]
        have hl : v.cells.toList.length = n := by rw [← h1]; simp
        rw [Nat.add_zero, List.getElem?_eq_getElem (by omega)]; rfl) (fun j hj => frozen_of_heap hh) (fun x hx => by simpa using (List.all_eq_true.1 h3) x hx)
      simp only [Nat.add_zero] at hs
      simp only [storeVar, Sem.run_bind, run_info hi, Result.andThen_ok, h1, ne_eq, not_true_eq_false, if_false, Sem.run_pure]
      simpa using hs
    · cases h
theorem zeroS_run {ty : TypeId} {cs : List Value} (h : zeroS P ty = some cs) (w : World) : ∃ z : Value, z.cells.toList = cs ∧ (zeroValue ty).run P w = .ok z w := by
  unfold zeroS at h
  cases hp : pev P (zeroValue ty) with
  | none => rw [hp] at h; cases h
  | some z => rw [hp] at h; simp at h; exact ⟨z, h, pev_run _ hp w⟩
theorem fieldS_run {t : TypeId} {f q b o : Nat} (h : fieldS P t f = some q) (w : World) : (Instr.fieldAt t (.pointer (some ⟨b, o, none⟩)) f).run P w = .ok (.pointer (some ⟨b, o + q, none⟩)) w := by
  unfold fieldS at h
  cases hu : P.underlying t with
  | none => rw [hu] at h; simp at h
  | some d =>
    rw [hu] at h
    cases d <;> simp at h
    rename_i fields
    cases hf : fields[f]? with
    | none => rw [hf] at h; simp at h
    | some fl =>
      rw [hf] at h
      simp only at h
      cases hi : (P.info? fl.type).map (·.size) with
      | none => rw [hi] at h; simp at h
      | some n =>
        rw [hi] at h
        simp only at h
        split at h
        · cases h
        · rename_i hn
          simp only [Option.some.injEq] at h
          subst h
          simp only [Instr.fieldAt, Sem.run_bind, run_underlying hu w, Result.andThen_ok, hf, Instr.sureAddr, Sem.run_pure, fieldPlace, run_info hi, if_neg hn]
          rw [Addr.add_mid]
theorem Qep (S : Sy w0 r bs s F a w) : ∀ (l : List Operand) {c : List (Nat × Nat)}, capS s l = some c → l.map a.eval = c.map (fun q => Value.pointer (some (adr bs q.1 q.2))) ∧ ∀ q ∈ c, q.1 < bs.length
  | [], c, h => by simp [capS] at h; subst h; simp
  | x :: l, c, h => by
    simp only [capS] at h
    cases hx : s.val x with
    | none => rw [hx] at h; cases h
    | some y =>
      rw [hx] at h
      cases y with
      | p i o =>
        cases hc : capS s l with
        | none => rw [hc] at h; cases h
        | some c' =>
          rw [hc] at h
          simp only [Option.some.injEq] at h
          subst h
          obtain ⟨h1, h2⟩ := S.val hx
          obtain ⟨h3, h4⟩ := Qep S l hc
          refine ⟨by simp [h1, h3, den], fun q hq => ?_⟩
          rcases List.mem_cons.1 hq with rfl | hq
          · exact h2
          · exact h4 q hq
      | _ => simp at h
theorem QkV {ty : TypeId} {n : Nat} (h : (P.info? ty).map (·.size) = some n) (w : World) : (sizeOf ty).run P w = .ok n w := by
  cases hq : P.info? ty with
  | none => rw [hq] at h; cases h
  | some i => rw [hq] at h; simp at h; simp [sizeOf, typeInfo, hq, h]
theorem bslS_run {t : TypeId} {len : Nat} {parts : Array (Nat × Value)} {k : Bx} (h : bslS P t len parts = some k) (w : World) :
    (Instr.buildSlice t len parts).run P w = .ok (.slice (some ⟨w.heap.size, 0, none⟩) len len) (w.alloc (.cells k.cs.toArray k.ty (0, 0))) := by
  unfold bslS at h
  cases hu : P.underlying t with
  | none => rw [hu] at h; cases h
  | some d =>
    rw [hu] at h
    cases d <;> simp only [reduceCtorEq] at h
    rename_i elem
    cases hi : (P.info? elem).map (·.size) with
    | none => rw [hi] at h; simp at h
    | some size =>
      cases hz : pev P (zeroValue elem) with
      | none => rw [hi, hz] at h; simp at h
      | some z =>
        rw [hi, hz] at h
        simp only at h
        split at h
        · cases h
        · rename_i hn
          cases hf : Instr.fill (fun i => some (i * size, size)) ((Array.range (len * size)).map (z.cells[· % z.cells.size]!)) parts.toList with
          | none => rw [hf] at h; cases h
          | some cells =>
            rw [hf] at h
            simp only [Option.some.injEq] at h
            subst h
            have h1 : ¬ len * size = 0 := fun e => hn (Or.inl e)
            have h2 : ¬ len * size > 2 ^ 24 := fun e => hn (Or.inr e)
            simp only [Instr.buildSlice, Sem.run_bind, run_underlying hu w, Result.andThen_ok, QkV hi, if_neg h2, if_neg h1, Sem.run_pure, pev_run _ hz, hf, newRow, newObj]
            rfl
theorem Qfm {b : Nat} : (bs ++ [b]).getD bs.length 0 = b := by rw [QcO, if_neg (Nat.lt_irrefl _), if_pos rfl]
theorem QeY (S : Sy w0 r bs s F a w) {o : Oper} {s' : SS} (h : sop P s o = some s') {K : Act → World → Prop} {Q : Exit → Act → World → Prop}
    (hk : ∀ bs' a' w', Sy w0 r (bs ++ bs') s' F a' w' → K a' w') : o.wp P a w K Q := by
  have hk0 : ∀ a' w', Sy w0 r bs s' F a' w' → K a' w' := fun a' w' h => hk [] a' w' (by rw [List.append_nil]; exact h)
  unfold sop at h
  cases ho : o.op with
  | move x =>
    rw [ho] at h; simp only at h
    cases hx : s.val x with
    | none => rw [hx] at h; cases h
    | some y =>
      rw [hx] at h; simp only [Option.map_some, Option.some.injEq] at h; subst h
      obtain ⟨h1, h2⟩ := S.val hx
      unfold Oper.wp execOp
      simp only [ho, h1]
      exact hk0 _ _ (S.put o.dst h2)
  | assign x =>
    rw [ho] at h; simp only at h
    cases hx : s.val x with
    | none => rw [hx] at h; cases h
    | some y =>
      rw [hx] at h; simp only [Option.map_some, Option.some.injEq] at h; subst h
      obtain ⟨h1, h2⟩ := S.val hx
      unfold Oper.wp execOp
      simp only [ho, h1]
      exact hk0 _ _ (S.put o.dst h2)
  | load ty x =>
    rw [ho] at h; simp only at h
    cases hx : s.val x with
    | none => rw [hx] at h; cases h
    | some y =>
      rw [hx] at h
      cases y with
      | p i off =>
        simp only at h
        cases hK : s.K[i]? with
        | none => rw [hK] at h; cases h
        | some k =>
          rw [hK] at h; simp only at h
          cases hl : ldS P ty k.cs off with
          | none => rw [hl] at h; cases h
          | some v =>
            rw [hl] at h; simp only [Option.map_some, Option.some.injEq] at h; subst h
            obtain ⟨h1, h2⟩ := S.val hx
            have hr := Qh4 hl (S.bx i k hK)
            unfold Oper.wp execOp
            simp only [ho, h1, den, adr, Instr.loadAt, Instr.sureAddr, Sem.run_bind, Sem.run_pure, Result.andThen_ok, hr]
            exact hk0 _ _ (S.put o.dst (x := .v v) trivial)
      | _ => simp at h
  | store ty x y =>
    rw [ho] at h; simp only at h
    cases hx : s.val x with
    | none => rw [hx] at h; simp at h
    | some z =>
      rw [hx] at h
      cases z with
      | p i off =>
        cases hy : s.val y with
        | none => rw [hy] at h; simp at h
        | some u =>
          rw [hy] at h
          cases u with
          | v v =>
            simp only at h
            cases hK : s.K[i]? with
            | none => rw [hK] at h; cases h
            | some k =>
              rw [hK] at h; simp only at h
              cases hl : stS P ty k.cs off v with
              | none => rw [hl] at h; cases h
              | some cs =>
                rw [hl] at h; simp only [Option.map_some, Option.some.injEq] at h; subst h
                obtain ⟨h1, h2⟩ := S.val hx
                obtain ⟨h3, h4⟩ := S.val hy
                obtain ⟨hr, he⟩ := QkK hl (S.bx i k hK)
                subst he
                unfold Oper.wp execOp
                simp only [ho, h1, h3, den, adr, Instr.storeAt, Instr.sureAddr, Sem.run_bind, Sem.run_pure, Result.andThen_ok, hr]
                have S2 := (S.store hK (o := off) v.cells.toList).put o.dst (x := .v undef) trivial
                exact hk0 _ _ S2
          | _ => simp at h
      | _ => simp at h
  | alloc ty =>
    rw [ho] at h; simp only at h
    cases hz : zeroS P ty with
    | none => rw [hz] at h; cases h
    | some cs =>
      rw [hz] at h; simp only [Option.map_some, Option.some.injEq] at h; subst h
      obtain ⟨z, hz1, hz2⟩ := zeroS_run hz w
      have hr : (Instr.alloc ty true (.tuple #[])).run P w = .ok (.pointer (some ⟨w.heap.size, 0, none⟩)) (w.alloc (.cells cs.toArray ty (0, 0))) := by
        simp only [Instr.alloc, Sem.run_bind, hz2, Result.andThen_ok, newVar, newRow, newObj]
        rw [← hz1]
        rfl
      unfold Oper.wp execOp
      simp only [ho, Sem.run_bind, hr, Result.andThen_ok, Sem.run_pure]
      have S2 := S.newv ⟨ty, cs⟩ o.dst (x := .p s.K.length 0) (by show s.K.length < _; rw [← S.bl]; omega)
      refine hk _ _ _ (?_ : Sy w0 r (bs ++ [w.heap.size]) _ F _ _)
      have e : den (bs ++ [w.heap.size]) (.p s.K.length 0) = .pointer (some ⟨w.heap.size, 0, none⟩) := by simp only [den, adr]; rw [← S.bl, Qfm]
      rw [e] at S2
      exact S2
  | box ty x =>
    rw [ho] at h; simp only at h
    cases hx : s.val x with
    | none => rw [hx] at h; cases h
    | some y =>
      rw [hx] at h
      cases y with
      | v v =>
        simp only [Option.some.injEq] at h; subst h
        obtain ⟨h1, h2⟩ := S.val hx
        unfold Oper.wp execOp
        simp only [ho, h1, den]
        have hr : (Instr.box ty v).run P w = .ok (.pointer (some ⟨w.heap.size, 0, none⟩)) (w.alloc (.cells v.cells ty (0, 0))) := rfl
        simp only [Sem.run_bind, hr, Result.andThen_ok, Sem.run_pure]
        have S2 := S.newv ⟨ty, v.cells.toList⟩ o.dst (x := .p s.K.length 0) (by show s.K.length < _; rw [← S.bl]; omega)
        refine hk _ _ _ (?_ : Sy w0 r (bs ++ [w.heap.size]) _ F _ _)
        have e : den (bs ++ [w.heap.size]) (.p s.K.length 0) = .pointer (some ⟨w.heap.size, 0, none⟩) := by simp only [den, adr]; rw [← S.bl, Qfm]
        rw [e] at S2
        simpa using S2
      | _ => simp at h
  | buildSlice t len parts =>
    rw [ho] at h; simp only at h
    split at h
    · rename_i hp
      rw [List.all_eq_true] at hp
      have he : (parts.map fun (i, x) => (i, a.eval x)) = (parts.map fun (i, x) => (i, s.env x)) := Qb_ fun q hq => by
        show (q.1, a.eval q.2) = (q.1, s.env q.2)
        rw [S.env (hp q hq)]
      cases hb : bslS P t len (parts.map fun (i, x) => (i, s.env x)) with
      | none => rw [hb] at h; cases h
      | some k =>
        rw [hb] at h; simp only [Option.map_some, Option.some.injEq] at h; subst h
        unfold Oper.wp execOp
        simp only [ho]
        rw [he]
        simp only [Sem.run_bind, bslS_run hb, Result.andThen_ok, Sem.run_pure]
        have S2 := S.newv k o.dst (x := .s s.K.length 0 len len) (by show s.K.length < _; rw [← S.bl]; omega)
        refine hk _ _ _ (?_ : Sy w0 r (bs ++ [w.heap.size]) _ F _ _)
        have e : den (bs ++ [w.heap.size]) (.s s.K.length 0 len len) = .slice (some ⟨w.heap.size, 0, none⟩) len len := by simp only [den, adr]; rw [← S.bl, Qfm]
        rw [e] at S2
        exact S2
    · cases h
  | fieldAddr t x f =>
    rw [ho] at h; simp only at h
    cases hx : s.val x with
    | none => rw [hx] at h; cases h
    | some y =>
      rw [hx] at h
      cases y with
      | p i off =>
        simp only at h
        cases hf : fieldS P t f with
        | none => rw [hf] at h; cases h
        | some q =>
          rw [hf] at h; simp only [Option.map_some, Option.some.injEq] at h; subst h
          obtain ⟨h1, h2⟩ := S.val hx
          unfold Oper.wp execOp
          simp only [ho, h1, den, adr, Sem.run_bind, fieldS_run hf, Result.andThen_ok, Sem.run_pure]
          exact hk0 _ _ (S.put o.dst (x := .p i (off + q)) h2)
      | v _ => exact Qcj S h hk
      | _ => simp at h
  | nilCheck x =>
    rw [ho] at h; simp only at h
    cases hx : s.val x with
    | none => rw [hx] at h; cases h
    | some y =>
      rw [hx] at h
      cases y with
      | p i off =>
        simp only [Option.some.injEq] at h; subst h
        obtain ⟨h1, h2⟩ := S.val hx
        unfold Oper.wp execOp
        simp only [ho, h1, den, adr, Sem.run_pure]
        exact hk0 _ _ (S.put o.dst (x := .p i off) h2)
      | v _ => exact Qcj S h hk
      | _ => simp at h
  | makeFunc fn first captured =>
    rw [ho] at h
    cases fn with
    | func fn =>
      simp only at h
      split at h
      · rename_i hf
        cases hc : capS s captured.toList with
        | none => rw [hc] at h; exact Qcj S h hk
        | some l =>
          rw [hc] at h; simp only [Option.some.injEq] at h; subst h
          obtain ⟨h1, h2⟩ := Qep S _ hc
          unfold Oper.wp execOp
          simp only [ho, Instr.makeFunc, Sem.run_bind, Sem.run_pure, Result.andThen_ok]
          have e : Value.func (.func fn) (first.map a.eval) (captured.map a.eval) = den bs (.f fn l) := by
            simp only [den]
            congr 1
            · have : first = #[] := Array.eq_empty_of_size_eq_zero hf
              subst this; simp
            · apply Array.ext'; simp only [Array.toList_map]; rw [h1]
          rw [e]
          exact hk0 _ _ (S.put o.dst (x := .f fn l) h2)
      · exact Qcj S h hk
    | _ => exact Qcj S (by simpa using h) hk
  | _ => rw [ho] at h; exact Qcj S h hk
def Qa2 (s : SS) (ops : Array Oper) (o : Oper) : Option Bool :=
  match o.guard with
  | none => some true
  | some (j, want) => match ((ops[j]?).bind (·.dst)).bind s.get with
    | some (.v (.bool b)) => some (b == want)
    | some (.v (.tuple _)) => some false
    | _ => none
theorem Qar (S : Sy w0 r bs s F a w) {ops : Array Oper} {o : Oper} {b : Bool} (h : Qa2 s ops o = some b) : Region.wanted o (yielded ops a.tmps) = b := by
  unfold Qa2 at h
  unfold Region.wanted
  cases hg : o.guard with
  | none => rw [hg] at h; simpa using h
  | some jw =>
    obtain ⟨j, want⟩ := jw
    rw [hg] at h; simp only at h ⊢
    cases hd : (ops[j]?).bind (·.dst) with
    | none => rw [hd] at h; simp at h
    | some d =>
      rw [hd] at h
      simp only [Option.bind_some] at h
      cases hx : s.get d with
      | none => rw [hx] at h; simp at h
      | some y =>
        rw [hx] at h
        cases y with
        | v v =>
          cases v with
          | bool c =>
            simp only [Option.some.injEq] at h
            subst h
            have := (S.tm d _ hx).1
            unfold yielded
            rw [hd, Option.bind_some, this]
            simp only [den]
            cases c <;> cases want <;> rfl
          | tuple vs =>
            simp only [Option.some.injEq] at h
            subst h
            have := (S.tm d _ hx).1
            unfold yielded
            rw [hd, Option.bind_some, this]
            simp only [den]
            cases want <;> rfl
          | _ => simp at h
        | _ => simp at h
def Qe3 (P : Program) (ops : Array Oper) : List Oper → SS → List Oper × SS
  | [], s => ([], s)
  | o :: rest, s => match Qa2 s ops o with
    | some false => Qe3 P ops rest (s.put o.dst (.v undef))
    | some true => match sop P s o with
      | some s' => Qe3 P ops rest s'
      | none => (o :: rest, s)
    | none => (o :: rest, s)
theorem Qda {ops : Array Oper} {Q : Exit → Act → World → Prop} : ∀ (l : List Oper) {s : SS} {bs : List Nat} {a : Act} {w : World}, Sy w0 r bs s F a w →
    (∀ bs' a' w', Sy w0 r (bs ++ bs') (Qe3 P ops l s).2 F a' w' → wpList P ops Q (Qe3 P ops l s).1 a' w') → wpList P ops Q l a w
  | [], s, bs, a, w, S, h => h [] a w (by rw [List.append_nil]; exact S)
  | o :: rest, s, bs, a, w, S, h => by
    unfold Qe3 at h
    cases hw : Qa2 s ops o with
    | none => rw [hw] at h; exact h [] a w (by rw [List.append_nil]; exact S)
    | some b =>
      rw [hw] at h
      have hw' := Qar S hw
      cases b with
      | false =>
        simp only at h
        refine wpList_step fun K hK => ?_
        rw [hw']
        simp only [Bool.false_eq_true, if_false]
        exact hK _ _ (Qda rest (S.put o.dst (x := .v undef) trivial) h)
      | true =>
        simp only at h
        cases hs : sop P s o with
        | none => rw [hs] at h; exact h [] a w (by rw [List.append_nil]; exact S)
        | some s' =>
          rw [hs] at h
          simp only at h
          refine wpList_step fun K hK => ?_
          rw [hw', if_pos rfl]
          refine QeY S hs fun bs1 a1 w1 S1 => hK _ _ (Qda rest S1 fun bs2 a2 w2 S2 => ?_)
          exact h (bs1 ++ bs2) a2 w2 (by rw [← List.append_assoc]; exact S2)
inductive It where
  | code (c : Code)
  | ops (all : Array Oper) (l : List Oper)
  | blk (id : Nat)
  | rnd (n : Nat) (c : Code)
def post (P : Program) : List It → (Exit → Act → World → Prop) → Exit → Act → World → Prop
  | [], Q => Q
  | .code c :: k, Q => Exit.then (c.wp P (post P k Q)) (post P k Q)
  | .ops all l :: k, Q => Exit.then (wpList P all (post P k Q) l) (post P k Q)
  | .blk id :: k, Q => Exit.inBlock id (post P k Q)
  | .rnd n c :: k, Q => Exit.then (Code.rounds P c (post P k Q) n) (post P k Q)
def unw (id : Nat) : List It → Option (List It)
  | [] => none
  | .blk j :: k => if id = j then some k else unw id k
  | _ :: k => unw id k
theorem unw_sound {id : Nat} {Q : Exit → Act → World → Prop} : ∀ (k : List It) {k' : List It}, unw id k = some k' → post P k' Q .normal a w → post P k Q (.exit id) a w
  | [], k', h, _ => by simp [unw] at h
  | .blk j :: k, k', h, hp => by
    simp only [unw] at h
    by_cases hj : id = j
    · rw [if_pos hj] at h
      simp only [Option.some.injEq] at h
      subst h
      show Exit.inBlock j _ _ _ _
      simp only [Exit.inBlock, if_pos hj]
      exact hp
    · rw [if_neg hj] at h
      show Exit.inBlock j _ _ _ _
      simp only [Exit.inBlock, if_neg hj]
      exact unw_sound k h hp
  | .code c :: k, k', h, hp => unw_sound k h hp
  | .ops _ _ :: k, k', h, hp => unw_sound k h hp
  | .rnd _ _ :: k, k', h, hp => unw_sound k h hp
theorem ret_sound {Q : Exit → Act → World → Prop} (h : Q .ret a w) : ∀ k : List It, post P k Q .ret a w
  | [] => h
  | .blk j :: k => ret_sound h k
  | .code c :: k => ret_sound h k
  | .ops _ _ :: k => ret_sound h k
  | .rnd _ _ :: k => ret_sound h k
theorem panic_sound {Q : Exit → Act → World → Prop} {ch : List PanicEntry} (h : Q (.panic ch) a w) : ∀ k : List It, post P k Q (.panic ch) a w
  | [] => h
  | .blk j :: k => panic_sound h k
  | .code c :: k => panic_sound h k
  | .ops _ _ :: k => panic_sound h k
  | .rnd _ _ :: k => panic_sound h k
structure Cfg where
  k : List It
  s : SS
structure Opt where
  L : Nat
  stops : List Nat
def Qcv (P : Program) (O : Opt) : Cfg → Option Cfg
  | ⟨.ops all [] :: k, s⟩ => some ⟨k, s⟩
  | ⟨.ops all (o :: l) :: k, s⟩ => match Qe3 P all (o :: l) s with
    | ([], s') => some ⟨k, s'⟩
    | (o' :: l', s') => if l'.length < l.length then some ⟨.ops all (o' :: l') :: k, s'⟩ else none
  | ⟨.blk _ :: k, s⟩ => some ⟨k, s⟩
  | ⟨.rnd n c :: k, s⟩ => if O.stops.contains 999 then none else match n with
    | n + 1 => some ⟨.code c :: .rnd n c :: k, s⟩
    | 0 => none
  | ⟨.code .skip :: k, s⟩ => some ⟨k, s⟩
  | ⟨.code (.seq x y) :: k, s⟩ => some ⟨.code x :: .code y :: k, s⟩
  | ⟨.code (.block id c) :: k, s⟩ => some ⟨.code c :: .blk id :: k, s⟩
  | ⟨.code (.loop c) :: k, s⟩ => if O.L = 0 then none else some ⟨.rnd O.L c :: k, s⟩
  | ⟨.code (.exit id) :: k, s⟩ => (unw id k).map fun k' => ⟨k', s⟩
  | ⟨.code (.region id ops false) :: k, s⟩ => if O.stops.contains id then none else some ⟨.ops ops ops.toList :: k, s⟩
  | ⟨.code (.cond c x y) :: k, s⟩ => match s.val c with
    | some (.v (.bool true)) => some ⟨.code x :: k, s⟩
    | some (.v (.bool false)) => some ⟨.code y :: k, s⟩
    | _ => none
  | _ => none
def QfA (P : Program) (O : Opt) : Nat → Cfg → Cfg
  | 0, c => c
  | n + 1, c => match Qcv P O c with
    | some c' => QfA P O n c'
    | none => c
theorem QhJ {O : Opt} {c c' : Cfg} (S : Sy w0 r bs c.s F a w) (h : Qcv P O c = some c') {Q : Exit → Act → World → Prop}
    (hk : ∀ bs' a' w', Sy w0 r (bs ++ bs') c'.s F a' w' → post P c'.k Q .normal a' w') : post P c.k Q .normal a w := by
  have hk0 : Sy w0 r bs c'.s F a w → post P c'.k Q .normal a w := fun h => hk [] a w (by rw [List.append_nil]; exact h)
  obtain ⟨k, s⟩ := c
  match k, h with
  | .ops all [] :: k, h => simp only [Qcv, Option.some.injEq] at h; subst h; exact hk0 S
  | .ops all (o :: l) :: k, h =>
    simp only [Qcv] at h
    refine Qda (o :: l) S fun bs1 a1 w1 S1 => ?_
    cases hr : Qe3 P all (o :: l) s with
    | mk l' s' =>
      rw [hr] at h S1
      cases l' with
      | nil => simp only [Option.some.injEq] at h; subst h; exact hk _ _ _ S1
      | cons o' l' =>
        simp only at h
        split at h
        · simp only [Option.some.injEq] at h; subst h; exact hk _ _ _ S1
        · cases h
  | .blk id :: k, h =>
    simp only [Qcv, Option.some.injEq] at h; subst h
    show Exit.inBlock id (post P k Q) .normal a w
    exact hk0 S
  | .rnd n c :: k, h =>
    simp only [Qcv] at h
    split at h
    · cases h
    · cases n with
      | zero => cases h
      | succ n => simp only [Option.some.injEq] at h; subst h; exact hk0 S
  | .code .skip :: k, h => simp only [Qcv, Option.some.injEq] at h; subst h; exact wp_skip (hk0 S)
  | .code (.seq x y) :: k, h => simp only [Qcv, Option.some.injEq] at h; subst h; exact wp_seq (hk0 S)
  | .code (.block id c) :: k, h => simp only [Qcv, Option.some.injEq] at h; subst h; exact wp_block (hk0 S)
  | .code (.loop c) :: k, h =>
    simp only [Qcv] at h
    split at h
    · cases h
    · simp only [Option.some.injEq] at h; subst h; exact wp_loop_rounds O.L (hk0 S)
  | .code (.exit id) :: k, h =>
    simp only [Qcv] at h
    cases hu : unw id k with
    | none => rw [hu] at h; cases h
    | some k' =>
      rw [hu] at h
      simp only [Option.map_some, Option.some.injEq] at h; subst h
      exact wp_exit (unw_sound k hu (hk0 S))
  | .code (.region id ops false) :: k, h =>
    simp only [Qcv] at h
    split at h
    · cases h
    · simp only [Option.some.injEq] at h; subst h; exact wp_region_list (hk0 S)
  | .code (.cond c x y) :: k, h =>
    simp only [Qcv] at h
    cases hv : s.val c with
    | none => rw [hv] at h; cases h
    | some u =>
      rw [hv] at h
      cases u with
      | v u =>
        cases u with
        | bool b =>
          have he := (S.val hv).1
          cases b with
          | true => simp only [Option.some.injEq] at h; subst h; exact wp_cond_true he (hk0 S)
          | false => simp only [Option.some.injEq] at h; subst h; exact wp_cond_false he (hk0 S)
        | _ => simp at h
      | _ => simp at h
  | [], h => simp [Qcv] at h
  | .code .ret :: k, h => simp [Qcv] at h
  | .code (.region id ops true) :: k, h => simp [Qcv] at h
  | .code (.goto l) :: k, h => simp [Qcv] at h
  | .code (.label l) :: k, h => simp [Qcv] at h
  | .code (.rangeFunc _ _ _ _) :: k, h => simp [Qcv] at h
  | .code (.scope _) :: k, h => simp [Qcv] at h
  | .code (.refuse _) :: k, h => simp [Qcv] at h
theorem QfH {O : Opt} {Q : Exit → Act → World → Prop} : ∀ (n : Nat) {c : Cfg} {bs : List Nat} {a : Act} {w : World}, Sy w0 r bs c.s F a w →
    (∀ bs' a' w', Sy w0 r (bs ++ bs') (QfA P O n c).s F a' w' → post P (QfA P O n c).k Q .normal a' w') → post P c.k Q .normal a w
  | 0, c, bs, a, w, S, h => h [] a w (by rw [List.append_nil]; exact S)
  | n + 1, c, bs, a, w, S, h => by
    unfold QfA at h
    cases hs : Qcv P O c with
    | none => rw [hs] at h; exact h [] a w (by rw [List.append_nil]; exact S)
    | some c' =>
      rw [hs] at h
      simp only at h
      refine QhJ S hs fun bs1 a1 w1 S1 => QfH (O := O) n S1 fun bs2 a2 w2 S2 => ?_
      exact h (bs1 ++ bs2) a2 w2 (by rw [← List.append_assoc]; exact S2)
def entersB (P : Program) (f : FuncId) : Bool :=
  match P.funcs[f]? with
  | some fn => !(fn.name == "runtime.NumGoroutine") && fn.body.isSome
  | none => false
theorem entersB_run {f : FuncId} (h : entersB P f = true) (args : Array Value) (w : World) : (callFunc f args).run P w = .ok (.enter f args) w := by
  unfold entersB at h
  cases hf : P.funcs[f]? with
  | none => rw [hf] at h; cases h
  | some fn =>
    rw [hf] at h
    simp only [Bool.and_eq_true, Bool.not_eq_true'] at h
    have h1 : fn.name ≠ "runtime.NumGoroutine" := by simpa using h.1
    obtain ⟨c, hc⟩ := Option.isSome_iff_exists.1 h.2
    simp [callFunc, hf, h1, hc]
def QhG (s : SS) : List Operand → Option (List SV)
  | [] => some []
  | x :: r => match s.val x, QhG s r with
    | some v, some l => some (v :: l)
    | _, _ => none
theorem QeR (S : Sy w0 r bs s F a w) : ∀ (l : List Operand) {c : List SV}, QhG s l = some c → l.map a.eval = c.map (den bs)
  | [], c, h => by simp [QhG] at h; subst h; rfl
  | x :: l, c, h => by
    simp only [QhG] at h
    cases hx : s.val x with
    | none => rw [hx] at h; cases h
    | some y =>
      rw [hx] at h
      cases hl : QhG s l with
      | none => rw [hl] at h; cases h
      | some c' =>
        rw [hl] at h
        simp only [Option.some.injEq] at h; subst h
        simp [(S.val hx).1, QeR S l hl]
def Qb8 (P : Program) (c : Cfg) : Option (FuncId × List SV) :=
  match c with
  | ⟨.ops all (o :: l) :: k, s⟩ => match Qa2 s all o, o.op with
    | some true, .call ca => match ca.callee with
      | .value x => match s.val x, QhG s ca.args.toList with
        | some (.v (.func (.func f) first caps)), some as => if entersB P f then some (f, first.toList.map .v ++ as ++ caps.toList.map .v) else none
        | some (.f f caps), some as => if entersB P f then some (f, as ++ caps.map fun q => .p q.1 q.2) else none
        | _, _ => none
      | _ => none
    | _, _ => none
  | _ => none
def Qet (c : Cfg) (x : SV) : Cfg :=
  match c with
  | ⟨.ops all (o :: l) :: k, s⟩ => ⟨.ops all l :: k, s.put o.dst x⟩
  | c => c
theorem QgE (S : Sy w0 r bs s F a w) {all : Array Oper} {o : Oper} {l : List Oper} {k : List It} {f : FuncId} {args : Array Value}
    (hh : (Qb8 P ⟨.ops all (o :: l) :: k, s⟩).map (fun q => (q.1, q.2.map (den bs))) = some (f, args.toList)) :
    Region.wanted o (yielded all a.tmps) = true ∧ (execOp a.eval o).run P w = .ok (.enter f args) w := by
  unfold Qb8 at hh
  simp only at hh
  cases hw : Qa2 s all o with
  | none => rw [hw] at hh; simp at hh
  | some b =>
    rw [hw] at hh
    cases b with
    | false => simp at hh
    | true =>
      refine ⟨Qar S hw, ?_⟩
      cases ho : o.op <;> rw [ho] at hh <;> simp only [Option.map_none, reduceCtorEq] at hh
      case call ca =>
        cases hc : ca.callee <;> rw [hc] at hh <;> simp only [Option.map_none, reduceCtorEq] at hh
        case value x =>
          cases hx : s.val x with
          | none => rw [hx] at hh; simp at hh
          | some y =>
            rw [hx] at hh
            cases hv : QhG s ca.args.toList with
            | none => rw [hv] at hh; revert hh; split <;> simp_all
            | some as =>
              rw [hv] at hh
              have hargs := QeR S _ hv
              have ha : ca.args.map a.eval = (as.map (den bs)).toArray := by apply Array.ext'; simp only [Array.toList_map]; exact hargs
              have he := (S.val hx).1
              cases y with
              | v y =>
                cases y with
                | func fn first caps =>
                  cases fn with
                  | func g =>
                    simp only at hh
                    split at hh
                    · rename_i hb
                      simp only [Option.map_some, Option.some.injEq, Prod.mk.injEq] at hh
                      obtain ⟨rfl, hh⟩ := hh
                      have e : first ++ (as.map (den bs)).toArray ++ caps = args := by
                        apply Array.ext'
                        rw [← hh]
                        simp [List.map_append, Function.comp_def, den]
                      simp only [execOp, ho, resolve, hc, he, den, Deferred.ofValue, ha, Sem.run_bind, Sem.run_pure, Result.andThen_ok, invoke, e, entersB_run hb]
                    · simp at hh
                  | _ => simp at hh
                | _ => simp at hh
              | f g caps =>
                simp only at hh
                split at hh
                · rename_i hb
                  simp only [Option.map_some, Option.some.injEq, Prod.mk.injEq] at hh
                  obtain ⟨rfl, hh⟩ := hh
                  have e : #[] ++ (as.map (den bs)).toArray ++ (caps.map fun q => Value.pointer (some (adr bs q.1 q.2))).toArray = args := by
                    apply Array.ext'
                    rw [← hh]
                    simp [List.map_append, Function.comp_def, den]
                  simp only [execOp, ho, resolve, hc, he, den, Deferred.ofValue, ha, Sem.run_bind, Sem.run_pure, Result.andThen_ok, invoke, e, entersB_run hb]
                · simp at hh
              | _ => simp at hh
theorem Qbg {c : Cfg} (S : Sy w0 r bs c.s F a w) {X : Type} {val : X → Value} {C : X → World → Prop} {f : FuncId} {args : Array Value} {Q : Exit → Act → World → Prop}
    (hC : Calls P f args w fun e w' => ∃ x, e = .returned (val x) ∧ C x w' ∧ Below w.heap.size w w')
    (hh : (Qb8 P c).map (fun q => (q.1, q.2.map (den bs))) = some (f, args.toList))
    (h : ∀ x a' w', C x w' → Below w.heap.size w w' → Sy w0 r bs (Qet c (.v (val x))).s F a' w' → post P (Qet c (.v (val x))).k Q .normal a' w') : post P c.k Q .normal a w := by
  obtain ⟨k, s⟩ := c
  match k with
  | .ops all (o :: l) :: k =>
    obtain ⟨h1, h2⟩ := QgE S hh
    show wpList P all (post P k Q) (o :: l) a w
    refine wpList_step fun K hK => ?_
    rw [if_pos h1]
    unfold Oper.wp
    rw [h2, Oper.upon_enter]
    refine Calls.mono hC ?_
    rintro e w' ⟨x, rfl, hx, hb⟩
    exact hK _ _ (h x _ w' hx hb ((S.below hb).put o.dst (x := .v (val x)) trivial))
  | [] => simp [Qb8] at hh
  | .code _ :: _ => simp [Qb8] at hh
  | .blk _ :: _ => simp [Qb8] at hh
  | .rnd _ _ :: _ => simp [Qb8] at hh
  | .ops _ [] :: _ => simp [Qb8] at hh
theorem QaJ {c : Cfg} (S : Sy w0 r bs c.s F a w) {v : Value} {f : FuncId} {args : Array Value} {Q : Exit → Act → World → Prop}
    (hC : Calls P f args w fun e w' => e = .returned v ∧ Below w.heap.size w w')
    (hh : (Qb8 P c).map (fun q => (q.1, q.2.map (den bs))) = some (f, args.toList))
    (h : ∀ a' w', Below w.heap.size w w' → Sy w0 r bs (Qet c (.v v)).s F a' w' → post P (Qet c (.v v)).k Q .normal a' w') : post P c.k Q .normal a w :=
  Qbg S (X := Unit) (val := fun _ => v) (C := fun _ _ => True) (hC.mono fun e w' h => ⟨(), h.1, trivial, h.2⟩) hh fun _ a' w' _ hb S' => h a' w' hb S'
def QgZ (P : Program) (s : SS) : List ResultVar → Option (List SV)
  | [] => some []
  | .tmp t :: r => match s.get t, QgZ P s r with
    | some x, some l => some (x :: l)
    | _, _ => none
  | .cell t ty :: r => match s.get t, QgZ P s r with
    | some (.p i o), some l => match s.K[i]? with
      | some k => (ldS P ty k.cs o).map fun v => .v v :: l
      | none => none
    | _, _ => none
theorem mapM_run {α β : Type} {f : α → Sem β} {g : α → Option β} : ∀ (l : List α) {r : List β}, (∀ x ∈ l, ∀ y, g x = some y → (f x).run P w = .ok y w) → l.mapM g = some r → (l.mapM f).run P w = .ok r w
  | [], r, _, h => by simp at h; subst h; rfl
  | x :: l, r, hf, h => by
    rw [List.mapM_cons] at h ⊢
    cases hx : g x with
    | none => rw [hx] at h; cases h
    | some y =>
      rw [hx] at h
      cases hl : l.mapM g with
      | none => rw [hl] at h; cases h
      | some r' =>
        rw [hl] at h
        cases h
        rw [Sem.run_bind, hf x (by simp) y hx]
        simp only [Result.andThen_ok]
        rw [Sem.run_bind, mapM_run l (fun z hz => hf z (List.mem_cons_of_mem _ hz)) hl]
        rfl
theorem Qe7 (S : Sy w0 r bs s F a w) {g : ResultVar → Option Value} (hg : ∀ rv, g rv = ((QgZ P s [rv]).bind (·.head?)).map (den bs)) : ∀ (l : List ResultVar) {ys : List SV}, QgZ P s l = some ys → l.mapM g = some (ys.map (den bs))
  | [], ys, h => by simp [QgZ] at h; subst h; rfl
  | .tmp t :: l, ys, h => by
    simp only [QgZ] at h
    cases hx : s.get t with
    | none => rw [hx] at h; simp at h
    | some x =>
      cases hl : QgZ P s l with
      | none => rw [hx, hl] at h; simp at h
      | some l' =>
        rw [hx, hl] at h; simp only [Option.some.injEq] at h; subst h
        rw [List.mapM_cons, hg, Qe7 S hg l hl]
        simp [QgZ, hx]
  | .cell t ty :: l, ys, h => by
    simp only [QgZ] at h
    cases hx : s.get t with
    | none => rw [hx] at h; simp at h
    | some x =>
      cases hl : QgZ P s l with
      | none => rw [hx, hl] at h; cases x <;> simp at h
      | some l' =>
        rw [hx, hl] at h
        cases x with
        | p i o =>
          simp only at h
          cases hK : s.K[i]? with
          | none => rw [hK] at h; simp at h
          | some k =>
            rw [hK] at h; simp only at h
            cases hv : ldS P ty k.cs o with
            | none => rw [hv] at h; simp at h
            | some v =>
              rw [hv] at h; simp only [Option.map_some, Option.some.injEq] at h; subst h
              rw [List.mapM_cons, hg, Qe7 S hg l hl]
              simp [QgZ, hx, hK, hv]
        | _ => simp at h
def retV (bs : List Nat) : List SV → Value
  | [x] => den bs x
  | l => .tuple (l.map (den bs)).toArray
def resOp (tmps : Array Value) : ResultVar → Sem Value
  | .tmp t => pure (tmps.getD t undef)
  | .cell a t => do loadVar t (← asAddr (tmps.getD a undef))
theorem results_op (fn : Func) (tmps : Array Value) : results fn tmps = (do let vs ← fn.results.mapM (resOp tmps); pure (if h : vs.size = 1 then vs[0] else .tuple vs)) := by
  unfold results
  congr 1
theorem resS_run (S : Sy w0 r bs s F a w) {fn : Func} {ys : List SV} (h : QgZ P s fn.results.toList = some ys) : (results fn a.tmps).run P w = .ok (retV bs ys) w := by
  have hm : (fn.results.mapM (resOp a.tmps)).run P w = .ok (ys.map (den bs)).toArray w := by
    rw [← Array.toArray_toList (xs := fn.results), List.mapM_toArray, Sem.run_map]
    rw [mapM_run (g := fun rv => ((QgZ P s [rv]).bind (·.head?)).map (den bs)) fn.results.toList ?_ (Qe7 S (fun _ => rfl) _ h)]
    · rfl
    · intro rv _ y hy
      cases rv with
      | tmp t =>
        simp only [QgZ] at hy
        cases hx : s.get t with
        | none => rw [hx] at hy; simp at hy
        | some x =>
          rw [hx] at hy
          simp at hy
          subst hy
          have := (S.tm t x hx).1
          simp [resOp, Array.getD_eq_getD_getElem?, this]
      | cell t ty =>
        simp only [QgZ] at hy
        cases hx : s.get t with
        | none => rw [hx] at hy; simp at hy
        | some x =>
          rw [hx] at hy
          cases x with
          | p i o =>
            simp only at hy
            cases hK : s.K[i]? with
            | none => rw [hK] at hy; simp at hy
            | some k =>
              rw [hK] at hy; simp only at hy
              cases hv : ldS P ty k.cs o with
              | none => rw [hv] at hy; simp at hy
              | some v =>
                rw [hv] at hy
                simp [den] at hy
                subst hy
                have := (S.tm t _ hx).1
                have e : a.tmps.getD t undef = .pointer (some (adr bs i o)) := by simp [Array.getD_eq_getD_getElem?, this, den]
                simp only [resOp, e, asAddr, Sem.run_bind, Sem.run_pure, Result.andThen_ok]
                exact Qh4 hv (S.bx i k hK)
          | _ => simp at hy
  rw [results_op, Sem.run_bind, hm]
  simp only [Result.andThen_ok, Sem.run_pure]
  congr 1
  match ys with
  | [] => rfl
  | [x] => rfl
  | x :: y :: l => simp [retV]
def atEnd : List It → Bool
  | [] => true
  | .code .ret :: _ => true
  | _ => false
theorem Qan {c : Cfg} (S : Sy w0 r bs c.s F a w) {fn : Func} {R : Ending → World → Prop} {v : Value} (he : atEnd c.k = true)
    (hr : (QgZ P c.s fn.results.toList).map (retV bs) = some v) (hR : Gr w0 w r → R (.returned v) w) (hd : DF.d = [] := by rfl) : post P c.k (bodyPost P fn R) .normal a w := by
  obtain ⟨k, s⟩ := c
  cases hy : QgZ P s fn.results.toList with
  | none => simp only at hr; rw [hy] at hr; cases hr
  | some ys =>
    simp only at hr
    rw [hy] at hr; simp only [Option.map_some, Option.some.injEq] at hr; subst hr
    have h1 : a.defers = [] ∧ ∃ v, (results fn a.tmps).run P w = .ok v w ∧ R (.returned v) w := ⟨S.df.trans hd, _, resS_run S hy, hR S.gr⟩
    match k, he with
    | [], _ => exact h1
    | .code .ret :: k, _ => exact wp_ret (ret_sound h1 k)
theorem Qgy (w : World) (r : List Nat) : Gr w w r := ⟨rfl, rfl, rfl, Nat.le_refl _, fun _ _ _ => rfl⟩
def T0 (l : List SV) : List (Nat × SV) := l.zipIdx.map fun q => (q.2, q.1)
theorem Qff : ∀ (l : List SV) (i t : Nat) {x : SV}, ((l.zipIdx i).map fun q => (q.2, q.1)).lookup t = some x → i ≤ t ∧ l[t - i]? = some x
  | [], _, _, _, h => by simp at h
  | y :: l, i, t, x, h => by
    simp only [List.zipIdx_cons, List.map_cons, List.lookup_cons] at h
    cases ht : (t == i) with
    | true =>
      rw [ht] at h; simp at ht h; subst ht h
      simp
    | false =>
      rw [ht] at h; simp at ht
      obtain ⟨h1, h2⟩ := Qff l (i + 1) t h
      refine ⟨by omega, ?_⟩
      rw [show t - i = (t - (i + 1)) + 1 by omega]
      simpa using h2
def QaW (fn : Func) : Code := fn.body.getD .skip
def cfg0 (fn : Func) (args : Array Value) : Cfg := ⟨[.code (QaW fn)], ⟨args.size + (fn.ntmps - args.size), T0 (args.toList.map .v), []⟩⟩
theorem Qaj {c : Cfg} (O : Opt) (n : Nat) (S : Sy w0 r bs c.s F a w) {Q : Exit → Act → World → Prop}
    (h : ∀ bs' a' w', Sy w0 r (bs ++ bs') (QfA P O n c).s F a' w' → post P (QfA P O n c).k Q .normal a' w') : post P c.k Q .normal a w := QfH n S h
section
variable (S : Sy w0 r bs s F a w)
include S
theorem Sy.fact {f : RF} (hf : f ∈ F) : f.P w := (S.fs f hf).1
theorem Sy.add (f : RF) (hP : f.P w) (ha : ∀ i, i < bs.length → ¬f.bl (bs.getD i 0)) : Sy w0 r bs s (f :: F) a w :=
  ⟨S.df, S.sz, S.tm, S.bl, S.bx, S.nd, S.lo, fun g hg => by
    rcases List.mem_cons.1 hg with rfl | hg
    · exact ⟨hP, ha⟩
    · exact S.fs g hg, S.gr⟩
theorem Sy.sub {F' : List RF} (h : ∀ f ∈ F', f ∈ F) : Sy w0 r bs s F' a w :=
  ⟨S.df, S.sz, S.tm, S.bl, S.bx, S.nd, S.lo, fun g hg => S.fs g (h g hg), S.gr⟩
theorem Sy.cast (t : Nat) (v : Value) {v' : Value} (hg : s.get t = some (.v v')) (he : v' = v) : Sy w0 r bs (s.put (some t) (.v v)) F a w := by
  have h := S.tm t _ hg
  have h2 := S.put (some t) (x := .v v) trivial
  have e : a.put (some t) (den bs (.v v)) = a := by
    unfold Act.put
    simp only [den]
    obtain ⟨tmps, d⟩ := a
    simp only at h ⊢
    congr 1
    subst he
    have h3 := h.1
    simp only [den] at h3
    apply Array.ext_getElem?
    intro i
    by_cases hi : t = i
    · subst hi
      rw [Array.getElem?_setIfInBounds_self, h3]
      have := (Array.getElem?_eq_some_iff.1 h3).1
      simp [this]
    · rw [Array.getElem?_setIfInBounds_ne hi]
  rw [e] at h2
  exact h2
end
theorem Sy.grown {g : Nat} (S : Sy w0 r bs s F a w) {w' : World} (hg : w.grownBy w' (some g)) (h0 : g ∈ r ∨ w0.heap.size ≤ g) {F' : List RF} (hF : ∀ f ∈ F', f ∈ F ∧ ¬f.bl g) (hn : ∀ i, i < bs.length → bs.getD i 0 ≠ g) : Sy w0 r bs s F' a w' := by
  refine ⟨S.df, S.sz, S.tm, S.bl, fun i k h => ?_, S.nd, S.lo, fun f hf => ?_, ?_⟩
  · have hi : i < bs.length := by rw [S.bl]; exact (List.getElem?_eq_some_iff.1 h).1
    rw [hg.block _ (S.lt hi) (by simp; exact hn i hi)]; exact S.bx i k h
  · obtain ⟨h1, h2⟩ := hF f hf
    obtain ⟨h3, h4⟩ := S.fs f h1
    exact ⟨f.st w w' h3 (fun b hb => hg.block b (f.lt w h3 b hb) (by simp; intro e; exact h2 (e ▸ hb))), h4⟩
  · have G := S.gr
    exact ⟨hg.os.trans G.os, hg.tape.trans G.tape, hg.output.trans G.output, Nat.le_trans G.size hg.size, fun k hk hne => (hg.block k (Nat.lt_of_lt_of_le hk G.size) (by
      rcases h0 with h0 | h0
      · simp only [ne_eq, Option.some.injEq]; intro e; exact hne (e ▸ h0)
      · simp; omega)).trans (G.block k hk hne)⟩
theorem QiG {g : Nat} {c : Cfg} (S : Sy w0 r bs c.s F a w) (h0 : g ∈ r ∨ w0.heap.size ≤ g) {X : Type} {val : X → Value} {C : X → World → Prop} {f : FuncId} {args : Array Value} {Q : Exit → Act → World → Prop}
    (hC : Calls P f args w fun e w' => ∃ x, e = .returned (val x) ∧ C x w' ∧ w.grownBy w' (some g))
    (hh : (Qb8 P c).map (fun q => (q.1, q.2.map (den bs))) = some (f, args.toList)) (F' : List RF) (hF : ∀ f ∈ F', f ∈ F ∧ ¬f.bl g) (hn : ∀ i, i < bs.length → bs.getD i 0 ≠ g)
    (h : ∀ x a' w', C x w' → w.grownBy w' (some g) → Sy w0 r bs (Qet c (.v (val x))).s F' a' w' → post P (Qet c (.v (val x))).k Q .normal a' w') : post P c.k Q .normal a w := by
  obtain ⟨k, s⟩ := c
  match k with
  | .ops all (o :: l) :: k =>
    obtain ⟨h1, h2⟩ := QgE S hh
    show wpList P all (post P k Q) (o :: l) a w
    refine wpList_step fun K hK => ?_
    rw [if_pos h1]
    unfold Oper.wp
    rw [h2, Oper.upon_enter]
    refine Calls.mono hC ?_
    rintro e w' ⟨x, rfl, hx, hb⟩
    exact hK _ _ (h x _ w' hx hb ((S.grown hb h0 hF hn).put o.dst (x := .v (val x)) trivial))
  | [] => simp [Qb8] at hh
  | .code _ :: _ => simp [Qb8] at hh
  | .blk _ :: _ => simp [Qb8] at hh
  | .rnd _ _ :: _ => simp [Qb8] at hh
  | .ops _ [] :: _ => simp [Qb8] at hh
theorem Qci {Q : Exit → Act → World → Prop} {ch : List PanicEntry} : ∀ k : List It, post P k Q (.panic ch) a w = Q (.panic ch) a w
  | [] => rfl
  | .blk j :: k => Qci k
  | .code c :: k => Qci k
  | .ops _ _ :: k => Qci k
  | .rnd _ _ :: k => Qci k
def SV.inL (π : List Nat) : SV → Bool
  | .v _ => true
  | .p i _ => π.contains i
  | .s i _ _ _ => π.contains i
  | .f _ caps => caps.all fun q => π.contains q.1
def SV.ren (f : Nat → Nat) : SV → SV
  | .v x => .v x
  | .p i o => .p (f i) o
  | .s i o l c => .s (f i) o l c
  | .f fn caps => .f fn (caps.map fun q => (f q.1, q.2))
def okSel (π : List Nat) (n : Nat) : Bool := π.all (· < n) && (List.range π.length).all fun j => π.idxOf (π.getD j 0) == j
theorem QfR : ∀ (T : List (Nat × SV)) {t : Nat} {x : SV}, T.lookup t = some x → (t, x) ∈ T
  | [], t, x, h => by simp at h
  | q :: T, t, x, h => by
    rw [List.lookup_cons] at h
    cases ht : (t == q.1) with
    | true => rw [ht] at h; simp at ht h; subst ht h; simp
    | false => rw [ht] at h; exact List.mem_cons_of_mem _ (QfR T h)
theorem Sy.to (S : Sy w0 r bs s F a w) (π : List Nat) (s' : SS) (hp : okSel π s.K.length = true) (hn : s'.n = s.n) (hK : s'.K.map some = π.map fun i => s.K[i]?)
    (hI : (s'.T.all fun q => match s.get q.1 with
      | some x => x.inL π
      | none => false) = true)
    (hT : (s'.T.map fun q => (s.get q.1).map (SV.ren fun i => π.idxOf i)) = s'.T.map fun q => some q.2) : Sy w0 r (π.map fun i => bs.getD i 0) s' F a w := by
  unfold okSel at hp
  simp only [Bool.and_eq_true, List.all_eq_true, decide_eq_true_eq, beq_iff_eq, List.mem_range] at hp
  obtain ⟨h3, h5⟩ := hp
  have hl : bs.length = s.K.length := S.bl
  have hget : ∀ j, j < π.length → (π.map fun i => bs.getD i 0).getD j 0 = bs.getD (π.getD j 0) 0 := fun j hj => by
    simp [List.getD, List.getElem?_map, List.getElem?_eq_getElem hj]
  have hidx : ∀ i, i ∈ π → π.idxOf i < π.length ∧ π.getD (π.idxOf i) 0 = i := fun i hm => by
    have hlt := List.idxOf_lt_length_of_mem hm
    exact ⟨hlt, by simp [List.getD, List.getElem?_eq_getElem hlt]⟩
  have hadr : ∀ i o, i ∈ π → adr (π.map fun i => bs.getD i 0) (π.idxOf i) o = adr bs i o := fun i o hi => by
    unfold adr
    rw [hget _ (hidx i hi).1, (hidx i hi).2]
  have hKl : s'.K.length = π.length := by have := congrArg List.length hK; simpa using this
  refine ⟨S.df, by rw [hn]; exact S.sz, fun t x h => ?_, by simp [hKl], fun j k hk => ?_, fun i j hi hj he => ?_, fun i hi => ?_, fun f hf => ?_, S.gr⟩
  · have hm := QfR s'.T h
    have h1 := List.map_inj_left.1 hT (t, x) hm
    have h2 := List.all_eq_true.1 hI (t, x) hm
    simp only at h1 h2
    cases hg : s.get t with
    | none => rw [hg] at h1; cases h1
    | some y =>
      rw [hg] at h1 h2
      simp only [Option.map_some, Option.some.injEq] at h1
      subst h1
      obtain ⟨g1, g2⟩ := S.tm t y hg
      cases y with
      | v v => exact ⟨g1, trivial⟩
      | p i o =>
        have hi : i ∈ π := by simpa [SV.inL] using h2
        exact ⟨by rw [g1]; simp only [den, SV.ren]; rw [hadr i o hi], by simpa [SV.ok, SV.ren] using (hidx i hi).1⟩
      | s i o l c =>
        have hi : i ∈ π := by simpa [SV.inL] using h2
        exact ⟨by rw [g1]; simp only [den, SV.ren]; rw [hadr i o hi], by simpa [SV.ok, SV.ren] using (hidx i hi).1⟩
      | f fn caps =>
        have hi : ∀ q ∈ caps, q.1 ∈ π := fun q hq => by have := List.all_eq_true.1 (show caps.all (fun q => π.contains q.1) = true from h2) q hq; simpa using this
        refine ⟨?_, ?_⟩
        · rw [g1]
          simp only [den, SV.ren, List.map_map]
          congr 3
          exact (List.map_congr_left fun q hq => by simp only [Function.comp]; rw [hadr q.1 q.2 (hi q hq)]).symm
        · intro q hq
          simp only [List.mem_map] at hq
          obtain ⟨q', hq', rfl⟩ := hq
          simpa using (hidx q'.1 (hi q' hq')).1
  · have hj : j < π.length := by rw [← hKl]; exact (List.getElem?_eq_some_iff.1 hk).1
    have e : (s'.K.map some)[j]? = some (some k) := by simp [hk]
    rw [hK] at e
    simp only [List.getElem?_map, List.getElem?_eq_getElem hj, Option.map_some, Option.some.injEq] at e
    rw [hget j hj, show π.getD j 0 = π[j] by simp [List.getD, List.getElem?_eq_getElem hj]]
    exact S.bx _ k e
  · simp only [List.length_map] at hi hj
    rw [hget i hi, hget j hj] at he
    have e1 : π.getD i 0 = π[i] := by simp [List.getD, List.getElem?_eq_getElem hi]
    have e2 : π.getD j 0 = π[j] := by simp [List.getD, List.getElem?_eq_getElem hj]
    rw [e1, e2] at he
    have := S.nd _ _ (by rw [hl]; exact h3 _ (List.getElem_mem hi)) (by rw [hl]; exact h3 _ (List.getElem_mem hj)) he
    have k1 := h5 i hi
    have k2 := h5 j hj
    rw [e1] at k1
    rw [e2] at k2
    rw [this] at k1
    omega
  · simp only [List.length_map] at hi
    rw [hget i hi]
    exact S.lo _ (by rw [hl]; have : π.getD i 0 = π[i] := by simp [List.getD, List.getElem?_eq_getElem hi]
                     rw [this]; exact h3 _ (List.getElem_mem hi))
  · obtain ⟨g1, g2⟩ := S.fs f hf
    refine ⟨g1, fun i hi => ?_⟩
    simp only [List.length_map] at hi
    rw [hget i hi]
    exact g2 _ (by rw [hl]; have : π.getD i 0 = π[i] := by simp [List.getD, List.getElem?_eq_getElem hi]
                   rw [this]; exact h3 _ (List.getElem_mem hi))
def Qa_ (c : Cfg) : Code :=
  match c.k with
  | .code (.loop b) :: _ => b
  | _ => .skip
def isL (c : Cfg) : Bool :=
  match c.k with
  | .code (.loop _) :: _ => true
  | _ => false
theorem QaR {c : Cfg} (n : Nat) (hl : isL c = true) {Q : Exit → Act → World → Prop} (h : post P (.rnd n (Qa_ c) :: c.k.tail) Q .normal a w) : post P c.k Q .normal a w := by
  obtain ⟨k, s⟩ := c
  match k, hl with
  | .code (.loop b) :: k, _ => exact wp_loop_rounds n h
theorem Sy.same (S : Sy w0 r bs s F a w) (t : Nat) {x y : SV} (hg : s.get t = some x) (hy : y.ok bs.length) (he : den bs y = den bs x) : Sy w0 r bs (s.put (some t) y) F a w := by
  have h := S.tm t _ hg
  have h2 := S.put (some t) hy
  have e : a.put (some t) (den bs y) = a := by
    unfold Act.put
    obtain ⟨tmps, d⟩ := a
    simp only at h ⊢
    congr 1
    apply Array.ext_getElem?
    intro i
    by_cases hi : t = i
    · subst hi
      rw [Array.getElem?_setIfInBounds_self, h.1, he]
      have := (Array.getElem?_eq_some_iff.1 h.1).1
      simp [this]
    · rw [Array.getElem?_setIfInBounds_ne hi]
  rw [e] at h2
  exact h2
theorem Qas {f : FuncId} {fn : Func} {args : Array Value} {w : World} {R : Ending → World → Prop} (r : List Nat) (F : List RF) (hF : ∀ f ∈ F, f.P w) (hf : P.funcs[f]? = some fn) (hb : fn.body.isSome = true) (hd : DF.d = [] := by rfl)
    (h : ∀ a, Sy w r [] (cfg0 fn args).s F a w → post P (cfg0 fn args).k (bodyPost P fn R) .normal a w) : Calls P f args w R := by
  obtain ⟨c, hc⟩ := Option.isSome_iff_exists.1 hb
  have hbo : QaW fn = c := by unfold QaW; rw [hc]; rfl
  have hpost : ∀ Q a w, post P (cfg0 fn args).k Q .normal a w = c.wp P Q a w := fun Q a w => by show (QaW fn).wp P _ a w = _; rw [hbo]; rfl
  refine calls_of_wp hf hc ((hpost _ _ _).symm ▸ h _ ⟨hd.symm, by simp [cfg0], fun t x hx => ?_, rfl, fun i k hk => by simp [cfg0] at hk, fun i j hi => by simp at hi, fun i hi => by simp at hi, fun f hf => ⟨hF f hf, fun i hi => by simp at hi⟩, Qgy _ _⟩)
  simp only [SS.get, cfg0, T0] at hx
  obtain ⟨h1, h2⟩ := Qff _ 0 t hx
  rw [Nat.sub_zero, List.getElem?_map] at h2
  cases ha : args.toList[t]? with
  | none => rw [ha] at h2; cases h2
  | some y =>
    rw [ha] at h2
    simp only [Option.map_some, Option.some.injEq] at h2; subst h2
    have hl : t < args.size := by have := (List.getElem?_eq_some_iff.1 ha).1; simpa using this
    refine ⟨?_, trivial⟩
    simp only [den]
    rw [Array.getElem?_append_left hl]
    rw [← Array.getElem?_toList]; exact ha
theorem Qjc {w w' : World} {r : List Nat} (h : Below w.heap.size w w') : Gr w w' r := ⟨h.os, h.tape, h.output, h.size, fun k hk _ => h.block k hk⟩
theorem QlQ {w w' : World} {g : Nat} (h : Gr w w' [g]) : w.grownBy w' (some g) := ⟨h.os, h.tape, h.output, h.size, fun k hk hne => h.block k hk (by simp only [List.mem_singleton]; intro e; exact hne (by rw [e]))⟩
def cfgR (fn : Func) (args : List SV) (K : List Bx) : Cfg := ⟨[.code (QaW fn)], ⟨args.length + (fn.ntmps - args.length), T0 args, K⟩⟩
theorem QgU {f : FuncId} {fn : Func} {w : World} {R : Ending → World → Prop} (r : List Nat) (bs : List Nat) (K : List Bx) (args : List SV) (F : List RF) (hl : bs.length = K.length) (hK : ∀ i k, K[i]? = some k → w.heap[bs.getD i 0]? = some (.cells k.cs.toArray k.ty (0, 0)))
    (hnd : ∀ i j, i < bs.length → j < bs.length → bs.getD i 0 = bs.getD j 0 → i = j) (hlo : ∀ i, i < bs.length → bs.getD i 0 ∈ r) (ha : ∀ x ∈ args, x.ok bs.length) (hF : ∀ f ∈ F, f.P w ∧ ∀ i, i < bs.length → ¬f.bl (bs.getD i 0)) (hf : P.funcs[f]? = some fn) (hb : fn.body.isSome = true) (hd : DF.d = [] := by rfl)
    (h : ∀ a, Sy w r bs (cfgR fn args K).s F a w → post P (cfgR fn args K).k (bodyPost P fn R) .normal a w) : Calls P f (args.map (den bs)).toArray w R := by
  obtain ⟨c, hc⟩ := Option.isSome_iff_exists.1 hb
  have hbo : QaW fn = c := by unfold QaW; rw [hc]; rfl
  have hpost : ∀ Q a w, post P (cfgR fn args K).k Q .normal a w = c.wp P Q a w := fun Q a w => by show (QaW fn).wp P _ a w = _; rw [hbo]; rfl
  refine calls_of_wp hf hc ((hpost _ _ _).symm ▸ h _ ⟨hd.symm, by simp [cfgR], fun t x hx => ?_, hl, hK, hnd, fun i hi => Or.inr (hlo i hi), hF, Qgy _ _⟩)
  simp only [SS.get, cfgR, T0] at hx
  obtain ⟨h1, h2⟩ := Qff _ 0 t hx
  rw [Nat.sub_zero] at h2
  have hlt : t < args.length := (List.getElem?_eq_some_iff.1 h2).1
  refine ⟨?_, ha x (List.mem_of_getElem? h2)⟩
  rw [Array.getElem?_append_left (by simpa using hlt)]
  simp [h2]
def aftH (c : Cfg) (i : Nat) (k' : Bx) (x : SV) : Cfg := Qet ⟨c.k, c.s.setK i k'⟩ x
theorem sy_callH {c : Cfg} (S : Sy w0 r bs c.s F a w) (i : Nat) (k k' : Bx) (G : List Nat) (hk : c.s.K[i]? = some k) (hG : ∀ g ∈ G, g ∈ r ∨ w0.heap.size ≤ g) {v : Value} {C : World → Prop} {f : FuncId} {args : Array Value} {Q : Exit → Act → World → Prop}
    (hC : Calls P f args w fun e w' => e = .returned v ∧ C w' ∧ w'.heap[bs.getD i 0]? = some (.cells k'.cs.toArray k'.ty (0, 0)) ∧ Gr w w' (bs.getD i 0 :: G))
    (hh : (Qb8 P c).map (fun q => (q.1, q.2.map (den bs))) = some (f, args.toList)) (F' : List RF) (hF : ∀ f ∈ F', f ∈ F ∧ ∀ g ∈ G, ¬f.bl g) (hn : ∀ j, j < bs.length → bs.getD j 0 ∉ G)
    (h : ∀ a' w', C w' → Sy w0 r bs (aftH c i k' (.v v)).s F' a' w' → post P (aftH c i k' (.v v)).k Q .normal a' w') : post P c.k Q .normal a w := by
  obtain ⟨kk, s⟩ := c
  match kk with
  | .ops all (o :: l) :: kk =>
    obtain ⟨h1, h2⟩ := QgE S hh
    show wpList P all (post P kk Q) (o :: l) a w
    refine wpList_step fun K hK => ?_
    rw [if_pos h1]
    unfold Oper.wp
    rw [h2, Oper.upon_enter]
    refine Calls.mono hC ?_
    rintro e w' ⟨rfl, hx, hb, hg⟩
    have hi : i < bs.length := by rw [S.bl]; exact (List.getElem?_eq_some_iff.1 hk).1
    have S1 : Sy w0 r bs (s.setK i k') F' a w' := by
      refine ⟨S.df, S.sz, S.tm, by simp [SS.setK, S.bl], fun j q hq => ?_, S.nd, S.lo, fun f hf => ?_, ?_⟩
      · have hq' : (s.K.set i k')[j]? = some q := hq
        by_cases hj : i = j
        · subst hj
          rw [List.getElem?_set_self (by rw [← S.bl]; exact hi)] at hq'
          simp only [Option.some.injEq] at hq'
          subst hq'
          exact hb
        · rw [List.getElem?_set_ne hj] at hq'
          have hjl : j < bs.length := by rw [S.bl]; exact (List.getElem?_eq_some_iff.1 hq').1
          rw [hg.block _ (S.lt hjl) (by
            intro hm
            rcases List.mem_cons.1 hm with e | hm
            · exact hj (S.nd j i hjl hi e).symm
            · exact hn j hjl hm)]
          exact S.bx j q hq'
      · obtain ⟨h3, h4⟩ := hF f hf
        obtain ⟨h5, h6⟩ := S.fs f h3
        exact ⟨f.st w w' h5 fun b hbl => hg.block b (f.lt w h5 b hbl) (by
          intro hm
          rcases List.mem_cons.1 hm with e | hm
          · exact h6 i hi (e ▸ hbl)
          · exact h4 b hm hbl), h6⟩
      · have G0 := S.gr
        refine ⟨hg.os.trans G0.os, hg.tape.trans G0.tape, hg.output.trans G0.output, Nat.le_trans G0.size hg.size, fun b hb' hne => (hg.block b (Nat.lt_of_lt_of_le hb' G0.size) ?_).trans (G0.block b hb' hne)⟩
        intro hm
        rcases List.mem_cons.1 hm with e | hm
        · rcases S.lo i hi with hl | hl
          · omega
          · exact hne (e ▸ hl)
        · rcases hG b hm with hr | hr
          · exact hne hr
          · omega
    exact hK _ _ (h _ w' hx (S1.put o.dst (x := .v v) trivial))
  | [] => simp [Qb8] at hh
  | .code _ :: _ => simp [Qb8] at hh
  | .blk _ :: _ => simp [Qb8] at hh
  | .rnd _ _ :: _ => simp [Qb8] at hh
  | .ops _ [] :: _ => simp [Qb8] at hh
theorem Sy.lo0 (S : Sy w0 [] bs s F a w) : ∀ i, i < bs.length → w0.heap.size ≤ bs.getD i 0 := fun i hi => (S.lo i hi).elim id (fun h => by cases h)
def regC (c : Cfg) : Cfg :=
  match c with
  | ⟨.code (.region _ ops false) :: k, s⟩ => ⟨.ops ops ops.toList :: k, s⟩
  | c => c
def opsN (P : Program) : Nat → Cfg → Cfg
  | 0, c => c
  | n + 1, ⟨.ops all (o :: l) :: k, s⟩ => match Qa2 s all o with
    | some false => opsN P n ⟨.ops all l :: k, s.put o.dst (.v undef)⟩
    | some true => match sop P s o with
      | some s' => opsN P n ⟨.ops all l :: k, s'⟩
      | none => ⟨.ops all (o :: l) :: k, s⟩
    | none => ⟨.ops all (o :: l) :: k, s⟩
  | _ + 1, ⟨.ops all [] :: k, s⟩ => ⟨k, s⟩
  | _ + 1, c => c
theorem Qcn {c : Cfg} (S : Sy w0 r bs c.s F a w) {Q : Exit → Act → World → Prop} (h : Sy w0 r bs (regC c).s F a w → post P (regC c).k Q .normal a w) : post P c.k Q .normal a w := by
  obtain ⟨k, s⟩ := c
  match k with
  | .code (.region id ops false) :: k => exact wp_region_list (h S)
  | [] => exact h S
  | .ops _ _ :: _ => exact h S
  | .blk _ :: _ => exact h S
  | .rnd _ _ :: _ => exact h S
  | .code (.region id ops true) :: k => exact h S
  | .code .skip :: _ => exact h S
  | .code (.seq _ _) :: _ => exact h S
  | .code (.cond _ _ _) :: _ => exact h S
  | .code (.block _ _) :: _ => exact h S
  | .code (.loop _) :: _ => exact h S
  | .code (.rangeFunc _ _ _ _) :: _ => exact h S
  | .code (.exit _) :: _ => exact h S
  | .code (.scope _) :: _ => exact h S
  | .code (.label _) :: _ => exact h S
  | .code (.goto _) :: _ => exact h S
  | .code .ret :: _ => exact h S
  | .code (.refuse _) :: _ => exact h S
theorem Qeh {Q : Exit → Act → World → Prop} : ∀ (n : Nat) {c : Cfg} {bs : List Nat} {a : Act} {w : World}, Sy w0 r bs c.s F a w →
    (∀ bs' a' w', Sy w0 r (bs ++ bs') (opsN P n c).s F a' w' → post P (opsN P n c).k Q .normal a' w') → post P c.k Q .normal a w
  | 0, c, bs, a, w, S, h => h [] a w (by rw [List.append_nil]; exact S)
  | n + 1, ⟨.ops all (o :: l) :: k, s⟩, bs, a, w, S, h => by
    unfold opsN at h
    cases hw : Qa2 s all o with
    | none => rw [hw] at h; exact h [] a w (by rw [List.append_nil]; exact S)
    | some b =>
      rw [hw] at h
      have hw' := Qar S hw
      show wpList P all (post P k Q) (o :: l) a w
      cases b with
      | false =>
        simp only at h
        refine wpList_step fun K hK => ?_
        rw [hw']
        simp only [Bool.false_eq_true, if_false]
        refine hK _ _ ?_
        exact Qeh n (c := ⟨.ops all l :: k, s.put o.dst (.v undef)⟩) (S.put o.dst (x := .v undef) trivial) h
      | true =>
        simp only at h
        cases hs : sop P s o with
        | none => rw [hs] at h; exact h [] a w (by rw [List.append_nil]; exact S)
        | some s' =>
          rw [hs] at h
          simp only at h
          refine wpList_step fun K hK => ?_
          rw [hw', if_pos rfl]
          refine QeY S hs fun bs1 a1 w1 S1 => hK _ _ ?_
          exact Qeh n (c := ⟨.ops all l :: k, s'⟩) S1 fun bs2 a2 w2 S2 => h (bs1 ++ bs2) a2 w2 (by rw [← List.append_assoc]; exact S2)
  | n + 1, ⟨.ops all [] :: k, s⟩, bs, a, w, S, h => h [] a w (by rw [List.append_nil]; exact S)
  | n + 1, ⟨[], s⟩, bs, a, w, S, h => h [] a w (by rw [List.append_nil]; exact S)
  | n + 1, ⟨.code _ :: _, s⟩, bs, a, w, S, h => h [] a w (by rw [List.append_nil]; exact S)
  | n + 1, ⟨.blk _ :: _, s⟩, bs, a, w, S, h => h [] a w (by rw [List.append_nil]; exact S)
  | n + 1, ⟨.rnd _ _ :: _, s⟩, bs, a, w, S, h => h [] a w (by rw [List.append_nil]; exact S)
theorem Qad {c : Cfg} (n : Nat) (S : Sy w0 r bs c.s F a w) {Q : Exit → Act → World → Prop}
    (h : ∀ bs' a' w', Sy w0 r (bs ++ bs') (opsN P n c).s F a' w' → post P (opsN P n c).k Q .normal a' w') : post P c.k Q .normal a w := Qeh n S h
def Qj8 (c : Cfg) (t : Nat) (v : Value) : Cfg := ⟨c.k, c.s.put (some t) (.v v)⟩
theorem Qco {c : Cfg} (t : Nat) {v v' : Value} (S : Sy w0 r bs c.s F a w) (he : v' = v) (hg : c.s.get t = some (.v v')) {Q : Exit → Act → World → Prop}
    (h : Sy w0 r bs (Qj8 c t v).s F a w → post P (Qj8 c t v).k Q .normal a w) : post P c.k Q .normal a w := h (S.cast t v hg he)
theorem Qap {c : Cfg} (st n k : Nat) (S : Sy w0 r bs c.s F a w) {Q : Exit → Act → World → Prop} (h : ∀ bs' a' w', Sy w0 r (bs ++ bs') (opsN P k (regC (QfA P ⟨0, [st]⟩ n c))).s F a' w' → post P (opsN P k (regC (QfA P ⟨0, [st]⟩ n c))).k Q .normal a' w') : post P c.k Q .normal a w :=
  Qaj ⟨0, [st]⟩ n S fun _ _ _ S => Qcn S fun S => Qad k S fun _ a w S => h _ a w (by rw [List.append_assoc] at S; exact S)
theorem Qah {c : Cfg} (S : Sy w0 r bs c.s F a w) {Q : Exit → Act → World → Prop} (h : ∀ bs' a' w', Sy w0 r (bs ++ bs') (QfA P ⟨0, []⟩ 60 c).s F a' w' → post P (QfA P ⟨0, []⟩ 60 c).k Q .normal a' w') : post P c.k Q .normal a w :=
  Qaj ⟨0, []⟩ 60 S fun _ a w S => h _ a w S
theorem Qab {c : Cfg} (t : Nat) {b b' : Bool} (S : Sy w0 r bs c.s F a w) (he : b' = b) {Q : Exit → Act → World → Prop} (h : Sy w0 r bs (Qj8 c t (.bool b)).s F a w → post P (Qj8 c t (.bool b)).k Q .normal a w) (hg : c.s.get t = some (.v (.bool b')) := by kernel_rfl) : post P c.k Q .normal a w := Qco t S (congrArg Value.bool he) hg h
theorem QaB {c : Cfg} (t : Nat) {b b' : Int} (S : Sy w0 r bs c.s F a w) (he : b' = b) {Q : Exit → Act → World → Prop} (h : Sy w0 r bs (Qj8 c t (.int .i64 b)).s F a w → post P (Qj8 c t (.int .i64 b)).k Q .normal a w) (hg : c.s.get t = some (.v (.int .i64 b')) := by kernel_rfl) : post P c.k Q .normal a w := Qco t S (congrArg (Value.int .i64) he) hg h
end
class PInv [KP] (Q : Exit → Act → World → Prop) : Prop where
  out : ∀ (d : Option Nat) (v : Value) (c : List PanicEntry) (a : Act) (w : World), (KP.keep.all fun t => d != some t) = true → Q (.panic c) (a.put d v) w → Q (.panic c) a w
instance [KP] {P : Program} {fn : Func} {R : Ending → World → Prop} : PInv (bodyPost P fn R) := ⟨fun d v c a w _ h => by
  cases d with
  | none => exact h
  | some d => exact h⟩
instance [KP] {l : Nat} {J : Act → World → Prop} {Q : Exit → Act → World → Prop} [PInv Q] : PInv (Exit.jump l J Q) := ⟨fun d v c a w hk h => PInv.out (Q := Q) d v c a w hk h⟩
class HF where
  fs : List RF
instance (priority := low) noHF : HF := ⟨[]⟩
section
variable [DF] [KP] [HF]
variable {P : Program} {w0 : World} {r : List Nat} {bs : List Nat} {s : SS} {F : List RF} {a : Act} {w : World}
theorem Qeq {QQ : Exit → Act → World → Prop} [PInv QQ] (k : List It) (d : Option Nat) (v : Value) (c : List PanicEntry) (a : Act) (w : World) (hk : (KP.keep.all fun t => d != some t) = true) (h : post P k QQ (.panic c) (a.put d v) w) : post P k QQ (.panic c) a w := by
  rw [Qci] at h ⊢
  exact PInv.out d v c a w hk h
def dval (P : Program) (s : SS) (o : Oper) : Option SV :=
  match o.op.operands.toList.all s.isV && notSel o.op with
  | true => match pev P (execOp s.env o) with
    | some (.value x) => some (.v x)
    | _ => none
  | false => none
def qval (P : Program) (K0 : List Bx) (ro : List Nat) (s : SS) (o : Oper) : Option SV :=
  match o.op with
  | .move x => s.val x
  | .assign x => s.val x
  | .load ty x => match s.val x with
    | some (.p i off) => if ro.contains i then match K0[i]? with
        | some k => (ldS P ty k.cs off).map .v
        | none => none
      else none
    | _ => none
  | .fieldAddr t x f => match s.val x with
    | some (.p i off) => (fieldS P t f).map fun q => .p i (off + q)
    | some (.v _) => dval P s o
    | _ => none
  | .nilCheck x => match s.val x with
    | some (.p i off) => some (.p i off)
    | some (.v _) => dval P s o
    | _ => none
  | .indexAddr _ _ _ => none
  | .makeFunc (.func fn) first captured => if first.size = 0 then (capS s captured.toList).map (.f fn) else dval P s o
  | .store _ _ _ => none
  | .alloc _ => none
  | .box _ _ => none
  | .buildSlice _ _ _ => none
  | _ => dval P s o
def QbM (B : List Nat) (K0 : List Bx) (ro : List Nat) (W : World) : Prop := (∀ i ∈ ro, ∀ k, K0[i]? = some k → W.heap[B.getD i 0]? = some (.cells k.cs.toArray k.ty (0, 0))) ∧ ∀ f ∈ HF.fs, f.P W
structure Sd [DF] [HF] (w0 : World) (r : List Nat) (B : List Nat) (K0 : List Bx) (ro : List Nat) (bs : List Nat) (s : SS) (F : List RF) (a : Act) (w : World) : Prop where
  S : Sy w0 r bs s F a w
  pre : ∀ i, i < B.length → bs.getD i 0 = B.getD i 0
  bl : B.length = K0.length
  ff : ∀ f ∈ HF.fs, f ∈ F
  hro : ∀ i ∈ ro, i < B.length → s.K[i]? = K0[i]?
theorem Sd.hold {B : List Nat} {K0 : List Bx} {ro : List Nat} (D : Sd w0 r B K0 ro bs s F a w) : QbM B K0 ro w := ⟨fun i hi k hk => by
  have hl : i < B.length := by rw [D.bl]; exact (List.getElem?_eq_some_iff.1 hk).1
  rw [← D.pre i hl]
  exact D.S.bx i k (by rw [D.hro i hi hl]; exact hk), fun f hf => (D.S.fs f (D.ff f hf)).1⟩
theorem Sd.put {B : List Nat} {K0 : List Bx} {ro : List Nat} (D : Sd w0 r B K0 ro bs s F a w) (d : Option Nat) {x : SV} (hx : x.ok bs.length) : Sd w0 r B K0 ro bs (s.put d x) F (a.put d (den bs x)) w :=
  ⟨D.S.put d hx, D.pre, D.bl, D.ff, fun i hi hl => by
    have : (s.put d x).K = s.K := by unfold SS.put; cases d with
      | none => rfl
      | some d => simp only; split <;> rfl
    rw [this]; exact D.hro i hi hl⟩
theorem Qb3 {o : Oper} {s : SS} (S : Sy w0 r bs s F a w) {x : SV} (h : dval P s o = some x) : x.ok bs.length ∧ ∀ W : World, (execOp a.eval o).run P W = .ok (.value (den bs x)) W := by
  unfold dval at h
  cases hc : (o.op.operands.toList.all s.isV && notSel o.op) with
  | false => rw [hc] at h; cases h
  | true =>
    rw [hc] at h
    simp only [Bool.and_eq_true, List.all_eq_true] at hc
    obtain ⟨h1, h2⟩ := hc
    have he : execOp a.eval o = execOp s.env o := execOp_congr o (fun x hx => S.env (h1 x hx)) (fun cs b e => by rw [e] at h2; cases h2)
    cases hp : pev P (execOp s.env o) with
    | none => rw [hp] at h; cases h
    | some n =>
      rw [hp] at h
      cases n <;> simp at h
      subst h
      exact ⟨trivial, fun W => by rw [he, pev_run _ hp W]; rfl⟩
theorem QjL {B : List Nat} {K0 : List Bx} {ro : List Nat} (D : Sd w0 r B K0 ro bs s F a w) {o : Oper} {x : SV} (h : qval P K0 ro s o = some x) :
    x.ok bs.length ∧ ∀ W, QbM B K0 ro W → (execOp a.eval o).run P W = .ok (.value (den bs x)) W := by
  have S := D.S
  unfold qval at h
  cases ho : o.op with
  | move y =>
    rw [ho] at h; simp only at h
    obtain ⟨h1, h2⟩ := S.val h
    exact ⟨h2, fun W _ => by unfold execOp; simp only [ho, h1]; rfl⟩
  | assign y =>
    rw [ho] at h; simp only at h
    obtain ⟨h1, h2⟩ := S.val h
    exact ⟨h2, fun W _ => by unfold execOp; simp only [ho, h1]; rfl⟩
  | load ty y =>
    rw [ho] at h; simp only at h
    cases hx : s.val y with
    | none => rw [hx] at h; cases h
    | some z =>
      rw [hx] at h
      cases z with
      | p i off =>
        simp only at h
        split at h
        · rename_i hc
          have hi : i ∈ ro := by simpa using hc
          cases hK : K0[i]? with
          | none => rw [hK] at h; cases h
          | some k =>
            rw [hK] at h; simp only at h
            cases hl : ldS P ty k.cs off with
            | none => rw [hl] at h; cases h
            | some v =>
              rw [hl] at h; simp only [Option.map_some, Option.some.injEq] at h; subst h
              obtain ⟨h1, h2⟩ := S.val hx
              refine ⟨trivial, fun W hW => ?_⟩
              have hlt : i < B.length := by rw [D.bl]; exact (List.getElem?_eq_some_iff.1 hK).1
              have hr := Qh4 (P := P) (w := W) hl (hW.1 i hi k hK)
              unfold execOp
              simp only [ho, h1, den, adr, D.pre i hlt, Instr.loadAt, Instr.sureAddr, Sem.run_bind, Sem.run_pure, Result.andThen_ok, hr]
        · cases h
      | _ => simp at h
  | fieldAddr t y f =>
    rw [ho] at h; simp only at h
    cases hx : s.val y with
    | none => rw [hx] at h; cases h
    | some z =>
      rw [hx] at h
      cases z with
      | p i off =>
        simp only at h
        cases hf : fieldS P t f with
        | none => rw [hf] at h; cases h
        | some q =>
          rw [hf] at h; simp only [Option.map_some, Option.some.injEq] at h; subst h
          obtain ⟨h1, h2⟩ := S.val hx
          exact ⟨h2, fun W _ => by unfold execOp; simp only [ho, h1, den, adr, Sem.run_bind, fieldS_run hf, Result.andThen_ok, Sem.run_pure]⟩
      | v _ => exact ⟨(Qb3 S h).1, fun W _ => (Qb3 S h).2 W⟩
      | _ => simp at h
  | makeFunc fn first captured =>
    rw [ho] at h
    cases fn with
    | func fn =>
      simp only at h
      split at h
      · rename_i hf
        cases hc : capS s captured.toList with
        | none => rw [hc] at h; cases h
        | some l =>
          rw [hc] at h; simp only [Option.map_some, Option.some.injEq] at h; subst h
          obtain ⟨h1, h2⟩ := Qep S _ hc
          refine ⟨h2, fun W _ => ?_⟩
          unfold execOp
          simp only [ho, Instr.makeFunc, Sem.run_bind, Sem.run_pure, Result.andThen_ok]
          have e : Value.func (.func fn) (first.map a.eval) (captured.map a.eval) = den bs (.f fn l) := by
            simp only [den]
            congr 1
            · have : first = #[] := Array.eq_empty_of_size_eq_zero hf
              subst this; simp
            · apply Array.ext'; simp only [Array.toList_map]; rw [h1]
          rw [e]
      · exact ⟨(Qb3 S h).1, fun W _ => (Qb3 S h).2 W⟩
    | _ => exact ⟨(Qb3 S h).1, fun W _ => (Qb3 S h).2 W⟩
  | nilCheck y =>
    rw [ho] at h; simp only at h
    cases hx : s.val y with
    | none => rw [hx] at h; cases h
    | some z =>
      rw [hx] at h
      cases z with
      | p i off =>
        simp only [Option.some.injEq] at h; subst h
        obtain ⟨h1, h2⟩ := S.val hx
        exact ⟨h2, fun W _ => by unfold execOp; simp only [ho, h1, den, adr, Sem.run_pure]⟩
      | v _ => exact ⟨(Qb3 S h).1, fun W _ => (Qb3 S h).2 W⟩
      | _ => simp at h
  | indexAddr t x y => rw [ho] at h; cases h
  | store t x y => rw [ho] at h; cases h
  | alloc t => rw [ho] at h; cases h
  | box t x => rw [ho] at h; cases h
  | buildSlice t n p => rw [ho] at h; cases h
  | _ => rw [ho] at h; exact ⟨(Qb3 S h).1, fun W _ => (Qb3 S h).2 W⟩
def QeD (P : Program) (ops : Array Oper) (K0 : List Bx) (ro : List Nat) (listed : Array Bool) (s : SS) : List Nat → Option (Nat × SS)
  | [] => none
  | i :: l => match ops[i]? with
    | some o => match Qa2 s ops o with
      | some false => if Region.free .any ops listed i && KP.keep.all (fun t => o.dst != some t) then some (i, s.put o.dst (.v undef)) else QeD P ops K0 ro listed s l
      | some true => if KP.keep.all (fun t => o.dst != some t) = true then (match qval P K0 ro s o with
        | some x => if Region.free .any ops listed i && KP.keep.all (fun t => o.dst != some t) then some (i, s.put o.dst x) else QeD P ops K0 ro listed s l
        | none => QeD P ops K0 ro listed s l) else QeD P ops K0 ro listed s l
      | none => QeD P ops K0 ro listed s l
    | none => QeD P ops K0 ro listed s l
def Qf4 (P : Program) (ops : Array Oper) (K0 : List Bx) (ro : List Nat) : Nat → Array Bool → SS → Nat × Array Bool × SS
  | 0, listed, s => (0, listed, s)
  | n + 1, listed, s => match QeD P ops K0 ro listed s (Region.ready .any ops listed) with
    | some (i, s') => Qf4 P ops K0 ro n (listed.setIfInBounds i true) s'
    | none => (n + 1, listed, s)
section
variable {ops : Array Oper} {B : List Nat} {K0 : List Bx} {ro : List Nat} {QQ : Exit → Act → World → Prop} [PInv QQ] {k : List It}
theorem Qg0 {listed : Array Bool} : ∀ (l : List Nat) {i : Nat} {s' : SS}, QeD P ops K0 ro listed s l = some (i, s') → i ∈ l ∧ Region.free .any ops listed i = true ∧
    ∃ o, ops[i]? = some o ∧ (KP.keep.all fun t => o.dst != some t) = true ∧ ((Qa2 s ops o = some false ∧ s' = s.put o.dst (.v undef)) ∨ (Qa2 s ops o = some true ∧ ∃ x, qval P K0 ro s o = some x ∧ s' = s.put o.dst x))
  | [], i, s', h => by simp [QeD] at h
  | j :: l, i, s', h => by
    have rest : QeD P ops K0 ro listed s l = some (i, s') → i ∈ j :: l ∧ Region.free .any ops listed i = true ∧
        ∃ o, ops[i]? = some o ∧ (KP.keep.all fun t => o.dst != some t) = true ∧ ((Qa2 s ops o = some false ∧ s' = s.put o.dst (.v undef)) ∨ (Qa2 s ops o = some true ∧ ∃ x, qval P K0 ro s o = some x ∧ s' = s.put o.dst x)) := fun h => by
      obtain ⟨h1, h2⟩ := Qg0 l h
      exact ⟨List.mem_cons_of_mem _ h1, h2⟩
    simp only [QeD] at h
    cases ho : ops[j]? with
    | none => rw [ho] at h; exact rest h
    | some o =>
      rw [ho] at h; simp only at h
      cases hw : Qa2 s ops o with
      | none => rw [hw] at h; exact rest h
      | some b =>
        rw [hw] at h
        cases b with
        | false =>
          simp only at h
          split at h
          · rename_i hf
            simp only [Option.some.injEq, Prod.mk.injEq] at h
            rw [Bool.and_eq_true] at hf
            obtain ⟨rfl, rfl⟩ := h
            exact ⟨by simp, hf.1, o, ho, hf.2, Or.inl ⟨hw, rfl⟩⟩
          · exact rest h
        | true =>
          simp only at h
          by_cases hkk : (KP.keep.all fun t => o.dst != some t) = true
          case neg => rw [if_neg hkk] at h; exact rest h
          rw [if_pos hkk] at h
          cases hq : qval P K0 ro s o with
          | none => rw [hq] at h; exact rest h
          | some x =>
            rw [hq] at h; simp only at h
            split at h
            · rename_i hf
              simp only [Option.some.injEq, Prod.mk.injEq] at h
              rw [Bool.and_eq_true] at hf
              obtain ⟨rfl, rfl⟩ := h
              exact ⟨by simp, hf.1, o, ho, hf.2, Or.inr ⟨hw, x, hq, rfl⟩⟩
            · exact rest h
abbrev PQ (P : Program) (k : List It) (QQ : Exit → Act → World → Prop) := post P k QQ
theorem Qdp (hs : Region.noSelect ops = true) : ∀ (n : Nat) {listed : Array Bool} {s : SS} {a : Act}, Sd w0 r B K0 ro bs s F a w →
    (∀ a', Sd w0 r B K0 ro bs (Qf4 P ops K0 ro n listed s).2.2 F a' w → wpAnyH P .any ops (PQ P k QQ) (QbM B K0 ro) (Qf4 P ops K0 ro n listed s).1 (Qf4 P ops K0 ro n listed s).2.1 a' w) →
    wpAnyH P .any ops (PQ P k QQ) (QbM B K0 ro) n listed a w
  | 0, listed, s, a, D, h => h a D
  | n + 1, listed, s, a, D, h => by
    unfold Qf4 at h
    cases hq : QeD P ops K0 ro listed s (Region.ready .any ops listed) with
    | none => rw [hq] at h; exact h a D
    | some q =>
      obtain ⟨i, s'⟩ := q
      rw [hq] at h; simp only at h
      obtain ⟨h1, h2, o, ho, hk, h3⟩ := Qg0 _ hq
      have hr : (Region.ready .any ops listed).contains i = true := by simpa using h1
      rcases h3 with ⟨hw, rfl⟩ | ⟨hw, x, hx, rfl⟩
      · exact wpAnyH_take ho hs h2 hr (fun c a w h => Qeq k o.dst undef c a w hk h) (Or.inr ⟨Qar D.S hw, rfl⟩) D.hold (Qdp hs n (D.put o.dst (x := .v undef) trivial) h)
      · obtain ⟨hok, hrun⟩ := QjL D hx
        exact wpAnyH_take ho hs h2 hr (fun c a w h => Qeq k o.dst _ c a w hk h) (Or.inl ⟨Qar D.S hw, hrun⟩) D.hold (Qdp hs n (D.put o.dst hok) h)
def Nxt (P : Program) (ops : Array Oper) (Q : Exit → Act → World → Prop) (S : World → Prop) (m : Nat) (listed : Array Bool) (a : Act) (w : World) (i : Nat) : Prop :=
  wpOp P ops Q i (fun a' w' => S w' ∧ wpAnyH P .any ops Q S m (listed.setIfInBounds i true) a' w') a w
def Qai (P : Program) (ops : Array Oper) (Q : Exit → Act → World → Prop) (S : World → Prop) (m : Nat) (listed : Array Bool) (a : Act) (w : World) : List Nat → Prop
  | [] => True
  | i :: l => Nxt P ops Q S m listed a w i ∧ Qai P ops Q S m listed a w l
theorem QfP {Q : Exit → Act → World → Prop} {S : World → Prop} {m : Nat} {listed : Array Bool} : ∀ (l : List Nat), Qai P ops Q S m listed a w l → ∀ i ∈ l, Nxt P ops Q S m listed a w i
  | [], _, i, hi => by cases hi
  | j :: l, h, i, hi => by
    rcases List.mem_cons.1 hi with rfl | hi
    · exact h.1
    · exact QfP l h.2 i hi
theorem Qfw {Q : Exit → Act → World → Prop} {S : World → Prop} {n : Nat} {listed : Array Bool} (rs : List Nat) (m : Nat) (hn : n = m + 1) (hr : Region.ready .any ops listed = rs) (hne : rs ≠ [])
    (h : Qai P ops Q S m listed a w rs) : wpAnyH P .any ops Q S n listed a w := by
  subst hn
  exact wpAnyH_all hr hne (QfP rs h)
def opS (P : Program) (ops : Array Oper) (s : SS) (i : Nat) : Option SS :=
  match ops[i]? with
  | some o => match Qa2 s ops o with
    | some true => sop P s o
    | some false => some (s.put o.dst (.v undef))
    | none => none
  | none => none
theorem Sd.next {bs' : List Nat} {s' : SS} {a' : Act} {w' : World} (D : Sd w0 r B K0 ro bs s F a w) (S' : Sy w0 r (bs ++ bs') s' F a' w') (hlen : B.length ≤ bs.length) (hro : ro.map (fun i => s'.K[i]?) = ro.map (fun i => K0[i]?)) : Sd w0 r B K0 ro (bs ++ bs') s' F a' w' :=
  ⟨S', fun i hi => by rw [← D.pre i hi]; simp [List.getD, List.getElem?_append_left (Nat.lt_of_lt_of_le hi hlen)], D.bl, D.ff, fun i hi _ => List.map_inj_left.1 hro i hi⟩
theorem Qlp {m : Nat} {listed : Array Bool} {i : Nat} (D : Sd w0 r B K0 ro bs s F a w) (hlen : B.length ≤ bs.length) (hs : (opS P ops s i).isSome = true) (hro : ro.map (fun j => ((opS P ops s i).getD s).K[j]?) = ro.map (fun j => K0[j]?))
    (h : ∀ bs' a' w', Sd w0 r B K0 ro (bs ++ bs') ((opS P ops s i).getD s) F a' w' → B.length ≤ (bs ++ bs').length → wpAnyH P .any ops (PQ P k QQ) (QbM B K0 ro) m (listed.setIfInBounds i true) a' w') :
    Nxt P ops (PQ P k QQ) (QbM B K0 ro) m listed a w i := by
  obtain ⟨s', hs'⟩ := Option.isSome_iff_exists.1 hs
  rw [hs'] at hro h
  simp only [Option.getD_some] at hro h
  have fin : ∀ bs' a' w', Sy w0 r (bs ++ bs') s' F a' w' → QbM B K0 ro w' ∧ wpAnyH P .any ops (PQ P k QQ) (QbM B K0 ro) m (listed.setIfInBounds i true) a' w' := fun bs' a' w' S' => by
    have D' := D.next S' hlen hro
    exact ⟨D'.hold, h bs' a' w' D' (by simp; omega)⟩
  unfold opS at hs'
  unfold Nxt
  cases ho : ops[i]? with
  | none => rw [ho] at hs'; cases hs'
  | some o =>
    rw [ho] at hs'; simp only at hs'
    unfold wpOp
    rw [ho]
    simp only
    cases hw : Qa2 s ops o with
    | none => rw [hw] at hs'; cases hs'
    | some b =>
      rw [hw] at hs'
      rw [Qar D.S hw]
      cases b with
      | true =>
        rw [if_pos rfl]
        exact Or.inl (QeY D.S hs' fin)
      | false =>
        simp only [Option.some.injEq] at hs'
        subst hs'
        simp only [Bool.false_eq_true, if_false]
        exact fin [] _ _ (by rw [List.append_nil]; exact D.S.put o.dst (x := .v undef) trivial)
theorem QiY {m : Nat} {listed : Array Bool} {i : Nat} (D : Sd w0 r B K0 ro bs s F a w) {X : Type} {val : X → Value} {C : X → World → Prop} {f : FuncId} {args : Array Value}
    (hC : Calls P f args w fun e w' => ∃ x, e = .returned (val x) ∧ C x w' ∧ Below w.heap.size w w')
    (hh : ((ops[i]?).bind fun o => Qb8 P ⟨[.ops ops [o]], s⟩).map (fun q => (q.1, q.2.map (den bs))) = some (f, args.toList))
    (h : ∀ x a' w', C x w' → Below w.heap.size w w' → Sd w0 r B K0 ro bs (s.put ((ops[i]?).bind (·.dst)) (.v (val x))) F a' w' → wpAnyH P .any ops (PQ P k QQ) (QbM B K0 ro) m (listed.setIfInBounds i true) a' w') :
    Nxt P ops (PQ P k QQ) (QbM B K0 ro) m listed a w i := by
  unfold Nxt
  cases ho : ops[i]? with
  | none => rw [ho] at hh; simp at hh
  | some o =>
    rw [ho] at hh h; simp only [Option.bind_some] at hh h
    obtain ⟨h1, h2⟩ := QgE D.S hh
    unfold wpOp
    rw [ho]
    simp only
    rw [if_pos h1]
    refine Or.inl ?_
    unfold Oper.wp
    rw [h2, Oper.upon_enter]
    refine Calls.mono hC ?_
    rintro e w' ⟨x, rfl, hx, hb⟩
    have D1 : Sd w0 r B K0 ro bs s F a w' := ⟨D.S.below hb, D.pre, D.bl, D.ff, D.hro⟩
    have D' := D1.put o.dst (x := .v (val x)) trivial
    exact ⟨D'.hold, h x _ w' hx hb D'⟩
theorem any_done {Q : Exit → Act → World → Prop} {S : World → Prop} {n : Nat} {listed : Array Bool} (hr : Region.ready .any ops listed = []) (h : Q .normal a w) : wpAnyH P .any ops Q S n listed a w := wpAnyH_done hr h n
end
def QaH (c : Cfg) : Array Oper :=
  match c.k with
  | .code (.region _ ops true) :: _ => ops
  | _ => #[]
def isD (c : Cfg) : Bool :=
  match c.k with
  | .code (.region _ _ true) :: _ => true
  | _ => false
def kD (c : Cfg) : List It := c.k.tail
theorem sy_draw {c : Cfg} {QQ : Exit → Act → World → Prop} [PInv QQ] (ro : List Nat) (hm : P.follows .mixedOrders = true) (hd : isD c = true) (S : Sy w0 r bs c.s F a w) (hs : Region.noSelect (QaH c) = true)
    (h : ∀ w1, Sd w0 r bs c.s.K ro bs c.s F a w1 → wpAnyH P .any (QaH c) (PQ P (kD c) QQ) (QbM bs c.s.K ro) (QaH c).size (Array.replicate (QaH c).size false) a w1) (hff : ∀ f ∈ HF.fs, f ∈ F := by exact fun f hf => absurd hf List.not_mem_nil) : post P c.k QQ .normal a w := by
  obtain ⟨k, s⟩ := c
  match k, hd with
  | .code (.region id ops true) :: k, _ => exact wp_region_held hm (h _ ⟨S.drew, fun _ _ => rfl, S.bl, hff, fun _ _ _ => rfl⟩)
structure DC where
  m : Nat
  lst : Array Bool
  s : SS
def DC.pred (d : DC) : Nat := d.m - 1
def drq (P : Program) (ops : Array Oper) (K0 : List Bx) (ro : List Nat) (d : DC) : DC :=
  match Qf4 P ops K0 ro d.m d.lst d.s with
  | (m, l, s) => ⟨m, l, s⟩
def GD (P : Program) (c : Cfg) (QQ : Exit → Act → World → Prop) (B : List Nat) (ro : List Nat) (d : DC) (a : Act) (w : World) : Prop :=
  wpAnyH P .any (QaH c) (PQ P (kD c) QQ) (QbM B c.s.K ro) d.m d.lst a w
def d0 (P : Program) (c : Cfg) (ro : List Nat) : DC := drq P (QaH c) c.s.K ro ⟨(QaH c).size, Array.replicate (QaH c).size false, c.s⟩
def dV (P : Program) (c : Cfg) (ro : List Nat) (d : DC) (i : Nat) (v : SV) : DC := drq P (QaH c) c.s.K ro ⟨d.m - 1, d.lst.setIfInBounds i true, d.s.put (((QaH c)[i]?).bind (·.dst)) v⟩
def dO (P : Program) (c : Cfg) (ro : List Nat) (d : DC) (i : Nat) : DC := drq P (QaH c) c.s.K ro ⟨d.m - 1, d.lst.setIfInBounds i true, (opS P (QaH c) d.s i).getD d.s⟩
def endD (c : Cfg) (d : DC) : Cfg := ⟨kD c, d.s⟩
section
variable {c : Cfg} {QQ : Exit → Act → World → Prop} [PInv QQ] {B : List Nat} {ro : List Nat} {d : DC}
theorem Qbx (hs : Region.noSelect (QaH c) = true) (D : Sd w0 r B c.s.K ro bs d.s F a w)
    (h : ∀ a', Sd w0 r B c.s.K ro bs (drq P (QaH c) c.s.K ro d).s F a' w → GD P c QQ B ro (drq P (QaH c) c.s.K ro d) a' w) :
    wpAnyH P .any (QaH c) (PQ P (kD c) QQ) (QbM B c.s.K ro) d.m d.lst a w := Qdp hs d.m D h
theorem QaF (ro : List Nat) (hm : P.follows .mixedOrders = true) (hd : isD c = true) (S : Sy w0 r bs c.s F a w) (hs : Region.noSelect (QaH c) = true)
    (h : ∀ a' w1, Sd w0 r bs c.s.K ro bs (d0 P c ro).s F a' w1 → GD P c QQ bs ro (d0 P c ro) a' w1) (hff : ∀ f ∈ HF.fs, f ∈ F := by exact fun f hf => absurd hf List.not_mem_nil) : post P c.k QQ .normal a w :=
  sy_draw ro hm hd S hs (fun w1 D => Qbx (d := ⟨(QaH c).size, Array.replicate (QaH c).size false, c.s⟩) hs D (fun a' D' => h a' w1 D')) hff
section
variable (i : Nat) (D : Sd w0 r B c.s.K ro bs d.s F a w) (hs : Region.noSelect (QaH c) = true) (hn : (d.m != 0) = true) (hr : Region.ready .any (QaH c) d.lst = [i])
include i D hs hn hr
theorem Qih {X : Type} {val : X → Value} {C : X → World → Prop} {f : FuncId} {args : Array Value} (hC : Calls P f args w fun e w' => ∃ x, e = .returned (val x) ∧ C x w' ∧ Below w.heap.size w w') (hh : (((QaH c)[i]?).bind fun o => Qb8 P ⟨[.ops (QaH c) [o]], d.s⟩).map (fun q => (q.1, q.2.map (den bs))) = some (f, args.toList)) (h : ∀ x a' w', C x w' → Below w.heap.size w w' → Sd w0 r B c.s.K ro bs (dV P c ro d i (.v (val x))).s F a' w' → GD P c QQ B ro (dV P c ro d i (.v (val x))) a' w') : GD P c QQ B ro d a w := by
  have hn' : d.m = (d.m - 1) + 1 := by simp at hn; omega
  exact Qfw [i] (d.m - 1) hn' hr (by simp) ⟨QiY D hC hh fun x a' w' hx hb D' => Qbx (d := ⟨d.m - 1, d.lst.setIfInBounds i true, d.s.put (((QaH c)[i]?).bind (·.dst)) (.v (val x))⟩) hs D' fun a'' D'' => h x a'' w' hx hb D'', trivial⟩
theorem Qdw {v : Value} {f : FuncId} {args : Array Value} (hC : Calls P f args w fun e w' => e = .returned v ∧ Below w.heap.size w w') (hh : (((QaH c)[i]?).bind fun o => Qb8 P ⟨[.ops (QaH c) [o]], d.s⟩).map (fun q => (q.1, q.2.map (den bs))) = some (f, args.toList)) (h : ∀ a' w', Below w.heap.size w w' → Sd w0 r B c.s.K ro bs (dV P c ro d i (.v v)).s F a' w' → GD P c QQ B ro (dV P c ro d i (.v v)) a' w') : GD P c QQ B ro d a w :=
  Qih i D hs hn hr (X := Unit) (val := fun _ => v) (C := fun _ _ => True) (hC.mono fun e w' h => ⟨(), h.1, trivial, h.2⟩) hh fun _ a' w' _ hb D' => h a' w' hb D'
theorem QeE (hlen : B.length ≤ bs.length) (hi : (opS P (QaH c) d.s i).isSome = true) (hro : ro.map (fun j => ((opS P (QaH c) d.s i).getD d.s).K[j]?) = ro.map (fun j => c.s.K[j]?)) (h : ∀ bs' a' w', Sd w0 r B c.s.K ro (bs ++ bs') (dO P c ro d i).s F a' w' → B.length ≤ (bs ++ bs').length → GD P c QQ B ro (dO P c ro d i) a' w') : GD P c QQ B ro d a w := by
  have hn' : d.m = (d.m - 1) + 1 := by simp at hn; omega
  exact Qfw [i] (d.m - 1) hn' hr (by simp) ⟨Qlp D hlen hi hro fun bs' a' w' D' hl => Qbx (d := ⟨d.m - 1, d.lst.setIfInBounds i true, (opS P (QaH c) d.s i).getD d.s⟩) hs D' fun a'' D'' => h bs' a'' w' D'' hl, trivial⟩
end
theorem Qac (rs : List Nat) (hn : (d.m != 0) = true) (hr : Region.ready .any (QaH c) d.lst = rs) (hne : rs.isEmpty = false) (h : Qai P (QaH c) (PQ P (kD c) QQ) (QbM B c.s.K ro) d.pred d.lst a w rs) : GD P c QQ B ro d a w := by
  have hn' : d.m = (d.m - 1) + 1 := by simp at hn; omega
  exact Qfw rs (d.m - 1) hn' hr (by intro e; rw [e] at hne; cases hne) h
section
variable (i : Nat) (D : Sd w0 r B c.s.K ro bs d.s F a w) (hs : Region.noSelect (QaH c) = true)
include i D hs
theorem QaD {X : Type} {val : X → Value} {C : X → World → Prop} {f : FuncId} {args : Array Value} (hC : Calls P f args w fun e w' => ∃ x, e = .returned (val x) ∧ C x w' ∧ Below w.heap.size w w') (hh : (((QaH c)[i]?).bind fun o => Qb8 P ⟨[.ops (QaH c) [o]], d.s⟩).map (fun q => (q.1, q.2.map (den bs))) = some (f, args.toList)) (h : ∀ x a' w', C x w' → Below w.heap.size w w' → Sd w0 r B c.s.K ro bs (dV P c ro d i (.v (val x))).s F a' w' → GD P c QQ B ro (dV P c ro d i (.v (val x))) a' w') : Nxt P (QaH c) (PQ P (kD c) QQ) (QbM B c.s.K ro) d.pred d.lst a w i :=
  QiY D hC hh fun x a' w' hx hb D' => Qbx (d := ⟨d.m - 1, d.lst.setIfInBounds i true, d.s.put (((QaH c)[i]?).bind (·.dst)) (.v (val x))⟩) hs D' fun a'' D'' => h x a'' w' hx hb D''
theorem Qbr (hlen : B.length ≤ bs.length) (hi : (opS P (QaH c) d.s i).isSome = true) (hro : ro.map (fun j => ((opS P (QaH c) d.s i).getD d.s).K[j]?) = ro.map (fun j => c.s.K[j]?)) (h : ∀ bs' a' w', Sd w0 r B c.s.K ro (bs ++ bs') (dO P c ro d i).s F a' w' → B.length ≤ (bs ++ bs').length → GD P c QQ B ro (dO P c ro d i) a' w') : Nxt P (QaH c) (PQ P (kD c) QQ) (QbM B c.s.K ro) d.pred d.lst a w i :=
  Qlp D hlen hi hro fun bs' a' w' D' hl => Qbx (d := ⟨d.m - 1, d.lst.setIfInBounds i true, (opS P (QaH c) d.s i).getD d.s⟩) hs D' fun a'' D'' => h bs' a'' w' D'' hl
end
theorem Sd.addF {K0 : List Bx} {s : SS} (D : Sd w0 r B K0 ro bs s F a w) (f : RF) (hP : f.P w) (ha : ∀ i, i < bs.length → ¬f.bl (bs.getD i 0)) : Sd w0 r B K0 ro bs s (f :: F) a w := ⟨D.S.add f hP ha, D.pre, D.bl, fun g hg => List.mem_cons_of_mem _ (D.ff g hg), D.hro⟩
theorem dr_tk (i : Nat) (D : Sd w0 r B c.s.K ro bs d.s F a w) (hs : Region.noSelect (QaH c) = true) (hn : (d.m != 0) = true) (hf : (Region.free .any (QaH c) d.lst i && (Region.ready .any (QaH c) d.lst).contains i && KP.keep.all fun t => ((QaH c)[i]?).bind (·.dst) != some t) = true)
    {o : Oper} (ho : (QaH c)[i]? = some o) {x : SV} (hx : x.ok bs.length) (hw : Qa2 d.s (QaH c) o = some true) (hrun : ∀ W, QbM B c.s.K ro W → (execOp a.eval o).run P W = .ok (.value (den bs x)) W)
    (h : ∀ a', Sd w0 r B c.s.K ro bs (dV P c ro d i x).s F a' w → GD P c QQ B ro (dV P c ro d i x) a' w) : GD P c QQ B ro d a w := by
  have hn' : d.m = (d.m - 1) + 1 := by simp at hn; omega
  simp only [Bool.and_eq_true] at hf
  obtain ⟨⟨h1, h2⟩, h3⟩ := hf
  have e : ((QaH c)[i]?).bind (·.dst) = o.dst := by rw [ho]; rfl
  rw [e] at h3
  show wpAnyH P .any (QaH c) (PQ P (kD c) QQ) (QbM B c.s.K ro) d.m d.lst a w
  rw [hn']
  refine wpAnyH_take ho hs h1 h2 (fun c' a w h => Qeq (kD c) o.dst _ c' a w h3 h) (Or.inl ⟨Qar D.S hw, hrun⟩) D.hold ?_
  exact Qbx (d := ⟨d.m - 1, d.lst.setIfInBounds i true, d.s.put (((QaH c)[i]?).bind (·.dst)) x⟩) hs (by rw [e]; exact D.put o.dst hx) h
theorem QaM (D : Sd w0 r B c.s.K ro bs d.s F a w) (hr : Region.ready .any (QaH c) d.lst = [])
    (h : Sy w0 r bs (endD c d).s F a w → post P (endD c d).k QQ .normal a w) : GD P c QQ B ro d a w := any_done hr (h D.S)
end
def seqR (P : Program) (ops : Array Oper) : List Oper → List SV → SS → SS
  | [], _, s => s
  | o :: l, rs, s => match Qa2 s ops o with
    | some false => seqR P ops l rs (s.put o.dst (.v undef))
    | some true => match sop P s o with
      | some s' => seqR P ops l rs s'
      | none => match rs with
        | x :: rs' => seqR P ops l rs' (s.put o.dst x)
        | [] => s
    | none => s
def QjK (P : Program) (c : Cfg) (rs : List SV) : SS := seqR P (QaH c) (QaH c).toList rs c.s
end
end Go.Proofs.Ytfhmdlihnidjoaa.SZ
namespace Go.Proofs.Ytfhmdlihnidjoaa.EX
set_option linter.unusedVariables false
set_option linter.unusedSimpArgs false
set_option linter.unusedSectionVars false
set_option maxRecDepth 100000
open Go Go.RowKit
section
inductive Tr (α : Type) where
  | leaf
  | node (v : Option α) (l r : Tr α)
namespace Tr
variable {α : Type}
def getN (g : Nat) : Tr α → Nat → Option α :=
  Nat.rec (motive := fun _ => Tr α → Nat → Option α) (fun _ _ => none)
    (fun _ ih t n => Tr.casesOn (motive := fun _ => Option α) t none
      (fun v l r => Nat.casesOn (motive := fun _ => Option α) n v (fun m => Nat.casesOn (motive := fun _ => Option α) (Nat.mod m 2) (ih l (Nat.div m 2)) (fun _ => ih r (Nat.div m 2))))) g
def get (t : Tr α) (n : Nat) : Option α := getN 40 t n
def put (f : Nat) : Tr α → Nat → Option α → Tr α :=
  Nat.rec (motive := fun _ => Tr α → Nat → Option α → Tr α) (fun t _ _ => t)
    (fun _ ih t n x => Tr.casesOn (motive := fun _ => Tr α) t
      (Nat.casesOn (motive := fun _ => Tr α) n (node x leaf leaf) (fun m => Nat.casesOn (motive := fun _ => Tr α) (Nat.mod m 2) (node none (ih leaf (Nat.div m 2) x) leaf) (fun _ => node none leaf (ih leaf (Nat.div m 2) x))))
      (fun v l r => Nat.casesOn (motive := fun _ => Tr α) n (node x l r) (fun m => Nat.casesOn (motive := fun _ => Tr α) (Nat.mod m 2) (node v (ih l (Nat.div m 2) x) r) (fun _ => node v l (ih r (Nat.div m 2) x))))) f
theorem QbK (g n : Nat) : getN g (leaf : Tr α) n = none := by cases g <;> rfl
theorem get_leaf (n : Nat) : (leaf : Tr α).get n = none := QbK 40 n
theorem QcN (g : Nat) (v : Option α) (l r : Tr α) : getN (g + 1) (node v l r) 0 = v := rfl
theorem QbT (g : Nat) (v : Option α) (l r : Tr α) (m : Nat) : getN (g + 1) (node v l r) (m + 1) = if m % 2 = 0 then getN g l (m / 2) else getN g r (m / 2) := by
  show Nat.casesOn (motive := fun _ => Option α) (m % 2) (getN g l (m / 2)) (fun _ => getN g r (m / 2)) = _
  cases m % 2 with
  | zero => rfl
  | succ k => rfl
theorem Qlb (f : Nat) (v : Option α) (l r : Tr α) (x : Option α) : put (f + 1) (node v l r) 0 x = node x l r := rfl
theorem Qld (f : Nat) (x : Option α) : put (f + 1) leaf 0 x = node x leaf leaf := rfl
theorem Qla (f : Nat) (v : Option α) (l r : Tr α) (m : Nat) (x : Option α) : put (f + 1) (node v l r) (m + 1) x = if m % 2 = 0 then node v (put f l (m / 2) x) r else node v l (put f r (m / 2) x) := by
  show Nat.casesOn (motive := fun _ => Tr α) (m % 2) (node v (put f l (m / 2) x) r) (fun _ => node v l (put f r (m / 2) x)) = _
  cases m % 2 with
  | zero => rfl
  | succ k => rfl
theorem Qlc (f : Nat) (m : Nat) (x : Option α) : put (f + 1) leaf (m + 1) x = if m % 2 = 0 then node none (put f leaf (m / 2) x) leaf else node none leaf (put f leaf (m / 2) x) := by
  show Nat.casesOn (motive := fun _ => Tr α) (m % 2) (node none (put f leaf (m / 2) x) leaf) (fun _ => node none leaf (put f leaf (m / 2) x)) = _
  cases m % 2 with
  | zero => rfl
  | succ k => rfl
theorem Qd4 : ∀ (f g : Nat) (t : Tr α) (n k : Nat) (x : Option α), n + 1 < 2 ^ f → n + 1 < 2 ^ g → getN g (put f t n x) k = if k = n then x else getN g t k
  | 0, g, t, n, k, x, h, h' => by simp at h
  | f + 1, 0, t, n, k, x, h, h' => by simp at h'
  | f + 1, g + 1, leaf, 0, k, x, h, h' => by
    rw [Qld]
    cases k with
    | zero => simp [QcN]
    | succ k => rw [QbT]; split <;> simp [QbK]
  | f + 1, g + 1, leaf, m + 1, k, x, h, h' => by
    have hm : m / 2 + 1 < 2 ^ f := by rw [Nat.pow_succ] at h; omega
    have hg : m / 2 + 1 < 2 ^ g := by rw [Nat.pow_succ] at h'; omega
    rw [Qlc]
    split
    · rename_i h0
      cases k with
      | zero => simp [QcN, QbK]
      | succ k =>
        rw [QbT, QbK, QbK]
        split
        · rename_i h1
          rw [Qd4 f g leaf (m / 2) (k / 2) x hm hg, QbK]
          by_cases e : k = m
          · subst e; simp
          · have e2 : ¬ (k / 2 = m / 2) := by omega
            have e3 : ¬ (k + 1 = m + 1) := by omega
            rw [if_neg e2, if_neg e3]
        · rename_i h1; rw [if_neg (by intro e; apply h1; omega)]
    · rename_i h0
      cases k with
      | zero => simp [QcN, QbK]
      | succ k =>
        rw [QbT, QbK, QbK]
        split
        · rename_i h1; rw [if_neg (by intro e; apply h0; omega)]
        · rename_i h1
          rw [Qd4 f g leaf (m / 2) (k / 2) x hm hg, QbK]
          by_cases e : k = m
          · subst e; simp
          · have e2 : ¬ (k / 2 = m / 2) := by omega
            have e3 : ¬ (k + 1 = m + 1) := by omega
            rw [if_neg e2, if_neg e3]
  | f + 1, g + 1, node v l r, 0, k, x, h, h' => by
    rw [Qlb]
    cases k with
    | zero => simp [QcN]
    | succ k => rw [QbT, QbT, if_neg (Nat.succ_ne_zero k)]
  | f + 1, g + 1, node v l r, m + 1, k, x, h, h' => by
    have hm : m / 2 + 1 < 2 ^ f := by rw [Nat.pow_succ] at h; omega
    have hg : m / 2 + 1 < 2 ^ g := by rw [Nat.pow_succ] at h'; omega
    rw [Qla]
    split
    · rename_i h0
      cases k with
      | zero => simp [QcN]
      | succ k =>
        rw [QbT, QbT]
        split
        · rename_i h1
          rw [Qd4 f g l (m / 2) (k / 2) x hm hg]
          by_cases e : k = m
          · subst e; simp
          · have e2 : ¬ (k / 2 = m / 2) := by omega
            have e3 : ¬ (k + 1 = m + 1) := by omega
            rw [if_neg e2, if_neg e3]
        · rename_i h1; rw [if_neg (by intro e; apply h1; omega)]
    · rename_i h0
      cases k with
      | zero => simp [QcN]
      | succ k =>
        rw [QbT, QbT]
        split
        · rename_i h1; rw [if_neg (by intro e; apply h0; omega)]
        · rename_i h1
          rw [Qd4 f g r (m / 2) (k / 2) x hm hg]
          by_cases e : k = m
          · subst e; simp
          · have e2 : ¬ (k / 2 = m / 2) := by omega
            have e3 : ¬ (k + 1 = m + 1) := by omega
            rw [if_neg e2, if_neg e3]
theorem get_put (t : Tr α) (n k : Nat) (x : Option α) (h : n + 1 < 2 ^ 40) : (put 40 t n x).get k = if k = n then x else t.get k := Qd4 40 40 t n k x h h
def set (t : Tr α) (n : Nat) (x : Option α) : Tr α := put 40 t n x
end Tr
inductive SV where
  | v (x : Value)
  | y (x : Value)
  | p (i o : Nat)
  | s (i o l c : Nat)
  | r (i o l c : Nat)
  | z (i o q : Nat)
  | m (i : Nat)
  | g (cs : List SV)
  | t (cs : List SV)
  | f (fn : FuncId) (first caps : List SV)
  | e (ty : TypeId) (x : SV)
  | q (i o l c : Nat)
  | a (i o : Nat)
class FC where
  b : Nat → Nat
  o : Nat → Nat
  cs : Nat → List SV
  ok : World → Prop
  mono : ∀ w w' : World, ok w → w.grownBy w' none → ok w'
instance noFC : FC := ⟨fun _ => 0, fun _ => 0, fun _ => [], fun _ => True, fun _ _ _ _ => trivial⟩
variable [FC]
abbrev Pl := Nat → Nat × Nat
mutual
def den (B : Pl) : SV → Value
  | .v x => x
  | .y x => x
  | .p i o => .pointer (some ⟨(B i).1, o, none⟩)
  | .s i o l c => .slice (some ⟨(B i).1, o, none⟩) l c
  | .r i o l c => .slice (some ⟨(B i).1, o, none⟩) l ((B i).2 + c)
  | .z i o q => .slice (some ⟨(B i).1, if (B i).2 = 0 then o else q, none⟩) 0 (B i).2
  | .m i => .map (some (B i).1)
  | .g cs => .agg (Qam B cs).toArray
  | .t cs => .tuple (Qam B cs).toArray
  | .f fn first caps => .func (.func fn) (Qam B first).toArray (Qam B caps).toArray
  | .e ty x => .iface ty (den B x)
  | .q i o l c => .slice (some ⟨FC.b i, FC.o i + o, none⟩) l c
  | .a i o => .pointer (some ⟨FC.b i, FC.o i + o, none⟩)
def Qam (B : Pl) : List SV → List Value
  | [] => []
  | x :: l => den B x :: Qam B l
end
mutual
def bd (S : Nat → Prop) : SV → Prop
  | .v _ => True
  | .y _ => True
  | .p i _ => S i
  | .s i _ _ _ => S i
  | .r i _ _ _ => S i
  | .z i _ _ => S i
  | .m i => S i
  | .g cs => bdL S cs
  | .t cs => bdL S cs
  | .f _ first caps => bdL S first ∧ bdL S caps
  | .e _ x => bd S x
  | .q _ _ _ _ => True
  | .a _ _ => True
def bdL (S : Nat → Prop) : List SV → Prop
  | [] => True
  | x :: l => bd S x ∧ bdL S l
end
theorem QaI (B : Pl) : ∀ l : List SV, Qam B l = l.map (den B)
  | [] => by simp [Qam]
  | x :: l => by simp [Qam, QaI B l]
theorem QaK {S : Nat → Prop} : ∀ {l : List SV}, bdL S l ↔ ∀ x ∈ l, bd S x
  | [] => by simp [bdL]
  | x :: l => by simp [bdL, QaK (l := l)]
def Ag (n n' : Nat) (B B' : Pl) : Prop := ∀ i, i < n ∨ n' ≤ i → B' i = B i
theorem Ag.refl (n n' : Nat) (B : Pl) : Ag n n' B B := fun _ _ => rfl
theorem Ag.trans {n m k : Nat} {B C D : Pl} (h : Ag n m B C) (g : Ag m k C D) (hnm : n ≤ m) (hmk : m ≤ k) : Ag n k B D := fun i hi => (g i (by omega)).trans (h i (by omega))
theorem Ag.on {n n' : Nat} {B B' : Pl} {S : Nat → Prop} (h : Ag n n' B B') (hS : ∀ j, S j → j < n) : ∀ i, S i → B' i = B i := fun i hi => h i (Or.inl (hS i hi))
def ext (S : Nat → Prop) (n n' : Nat) : Nat → Prop := fun j => S j ∨ (n ≤ j ∧ j < n')
theorem Qal (S : Nat → Prop) (n : Nat) : ext S n n = S := by funext j; apply propext; unfold ext; exact ⟨fun h => h.elim id (fun h => by omega), Or.inl⟩
theorem QdL {S : Nat → Prop} {n m k : Nat} (h : n ≤ m) (g : m ≤ k) : ext (ext S n m) m k = ext S n k := by
  funext j; apply propext; unfold ext
  exact ⟨fun h => h.elim (fun h => h.elim Or.inl (fun h => Or.inr (by omega))) (fun h => Or.inr (by omega)), fun h => h.elim (fun h => Or.inl (Or.inl h)) (fun h => if hj : j < m then Or.inl (Or.inr ⟨h.1, hj⟩) else Or.inr (by omega))⟩
theorem QfW {S : Nat → Prop} {n n' : Nat} (hS : ∀ j, S j → j < n) (h : n ≤ n') : ∀ j, ext S n n' j → j < n' := fun j hj => hj.elim (fun h' => by have := hS j h'; omega) (fun h' => h'.2)
theorem QbU {S : Nat → Prop} {n n' : Nat} : ∀ j, S j → ext S n n' j := fun _ h => Or.inl h
mutual
theorem Qf0 {S : Nat → Prop} {B B' : Pl} (h : ∀ i, S i → B' i = B i) : ∀ {x : SV}, bd S x → den B' x = den B x
  | .v _, _ => by simp [den]
  | .y _, _ => by simp [den]
  | .p i _, hb => by simp only [bd] at hb; simp [den, h i hb]
  | .s i _ _ _, hb => by simp only [bd] at hb; simp [den, h i hb]
  | .r i _ _ _, hb => by simp only [bd] at hb; simp [den, h i hb]
  | .z i _ _, hb => by simp only [bd] at hb; simp [den, h i hb]
  | .m i, hb => by simp only [bd] at hb; simp [den, h i hb]
  | .g cs, hb => by simp only [bd] at hb; simp [den, QcE h hb]
  | .t cs, hb => by simp only [bd] at hb; simp [den, QcE h hb]
  | .f _ a b, hb => by simp only [bd] at hb; simp [den, QcE h hb.1, QcE h hb.2]
  | .e _ x, hb => by simp only [bd] at hb; simp [den, Qf0 h hb]
  | .q _ _ _ _, _ => by simp [den]
  | .a _ _, _ => by simp [den]
theorem QcE {S : Nat → Prop} {B B' : Pl} (h : ∀ i, S i → B' i = B i) : ∀ {l : List SV}, bdL S l → Qam B' l = Qam B l
  | [], _ => by simp [Qam]
  | x :: l, hb => by simp only [bdL] at hb; simp [Qam, Qf0 h hb.1, QcE h hb.2]
end
mutual
theorem QbZ {S S' : Nat → Prop} (h : ∀ j, S j → S' j) : ∀ {x : SV}, bd S x → bd S' x
  | .v _, _ => by simp [bd]
  | .y _, _ => by simp [bd]
  | .p i _, hb => by simp only [bd] at hb ⊢; exact h _ hb
  | .s i _ _ _, hb => by simp only [bd] at hb ⊢; exact h _ hb
  | .r i _ _ _, hb => by simp only [bd] at hb ⊢; exact h _ hb
  | .z i _ _, hb => by simp only [bd] at hb ⊢; exact h _ hb
  | .m i, hb => by simp only [bd] at hb ⊢; exact h _ hb
  | .g cs, hb => by simp only [bd] at hb ⊢; exact QbE h hb
  | .t cs, hb => by simp only [bd] at hb ⊢; exact QbE h hb
  | .f _ a b, hb => by simp only [bd] at hb ⊢; exact ⟨QbE h hb.1, QbE h hb.2⟩
  | .e _ x, hb => by simp only [bd] at hb ⊢; exact QbZ h hb
  | .q _ _ _ _, _ => by simp [bd]
  | .a _ _, _ => by simp [bd]
theorem QbE {S S' : Nat → Prop} (h : ∀ j, S j → S' j) : ∀ {l : List SV}, bdL S l → bdL S' l
  | [], _ => by simp [bdL]
  | x :: l, hb => by simp only [bdL] at hb ⊢; exact ⟨QbZ h hb.1, QbE h hb.2⟩
end
structure Bx where
  ty : TypeId
  cs : List SV
  sz : Nat := 0
  mp : Bool := false
  es : List SV := []
def Qfs : Nat → List Value → List MapEntry
  | n, k :: v :: l => { key := k, val := v, born := n } :: Qfs (n + 1) l
  | _, _ => []
def fzOf : List SV → Nat → Nat × Nat
  | [], _ => (0, 0)
  | _ :: _, n => (n, n + 1)
def itO : List SV → Option (ByteArray × Nat)
  | [.v (.string s), .v (.int .i64 (.ofNat p))] => some (s, p)
  | _ => none
def objM (B : Pl) (es : List SV) : Obj :=
  match itO es with
  | some (s, p) => .stringIter s p
  | none => .map (Qfs 0 (Qam B es)).toArray (Qfs 0 (Qam B es)).length
def Qcd (B : Pl) (k : Bx) (rest : List Value) : Obj :=
  match k.mp with
  | false => .cells (Qam B k.cs ++ rest).toArray k.ty (fzOf k.es (Qam B k.cs ++ rest).length)
  | true => objM B k.es
def bdK (S : Nat → Prop) (k : Bx) : Prop := bdL S k.cs ∧ (k.mp = true → k.cs = [] ∧ k.sz = 0 ∧ bdL S k.es)
theorem Qce {S S' : Nat → Prop} {k : Bx} (h : ∀ j, S j → S' j) (g : bdK S k) : bdK S' k :=
  ⟨QbE h g.1, fun e => ⟨(g.2 e).1, (g.2 e).2.1, QbE h (g.2 e).2.2⟩⟩
theorem QdX {S : Nat → Prop} {B B' : Pl} {k : Bx} (h : ∀ i, S i → B' i = B i) (g : bdK S k) (rest : List Value) : Qcd B' k rest = Qcd B k rest := by
  unfold Qcd
  cases e : k.mp with
  | false => simp only; rw [QcE h g.1]
  | true => simp only [objM]; rw [QcE h (g.2 e).2.2]
theorem bdK.cell {S : Nat → Prop} {k : Bx} (g : bdK S k) {o : Nat} (h : o < k.cs.length) : k.mp = false := by
  cases e : k.mp with
  | false => rfl
  | true => rw [(g.2 e).1] at h; exact absurd h (Nat.not_lt_zero _)
theorem Qcp {B : Pl} {k : Bx} (h : k.mp = false) (rest : List Value) : Qcd B k rest = .cells (Qam B k.cs ++ rest).toArray k.ty (fzOf k.es (Qam B k.cs ++ rest).length) := by
  unfold Qcd; rw [h]
theorem QdI {B : Pl} {k : Bx} (h : k.mp = false) (he : k.es = []) (rest : List Value) : Qcd B k rest = .cells (Qam B k.cs ++ rest).toArray k.ty (0, 0) := by
  rw [Qcp h, he]; rfl
def nilB : List SV → Bool
  | [] => true
  | _ => false
theorem Qlu {l : List SV} (h : nilB l = true) : l = [] := by
  cases l with
  | nil => rfl
  | cons a b => cases h
abbrev RF := SZ.RF
def Qe4 (c : Nat) (k : Bx) (rest : List Value) : Prop := rest.length = c * k.sz ∧ (k.sz = 0 ∨ c * k.sz + k.cs.length ≤ maxLen * k.sz)
def FcAt (w : World) : Prop := FC.ok w ∧ ∀ i j x, (FC.cs i)[j]? = some x → w.cell? ⟨FC.b i, FC.o i + j, none⟩ = some (den (fun _ => (0, 0)) x) ∧ bd (fun _ => False) x
theorem FcAt.grown {w w' : World} (h : FcAt w) (g : w.grownBy w' none) : FcAt w' := by
  refine ⟨FC.mono w w' h.1 g, fun i j x hx => ?_⟩
  obtain ⟨h1, h2⟩ := h.2 i j x hx
  refine ⟨?_, h2⟩
  simp only [World.cell?] at h1 ⊢
  have hlt : FC.b i < w.heap.size := by
    cases hh : w.heap[FC.b i]? with
    | none => rw [hh] at h1; cases h1
    | some ob => exact (Array.getElem?_eq_some_iff.1 hh).1
  rw [g.block _ hlt (by simp)]
  exact h1
theorem QaT (w : World) : @FcAt noFC w := ⟨trivial, fun i j x hx => by cases hx⟩
structure Re (w0 : World) (F : List RF) (B : Pl) (K : Nat → Option Bx) (S : Nat → Prop) (w : World) : Prop where
  bx : ∀ i k, K i = some k → S i ∧ bdK S k ∧ ∃ rest, Qe4 (B i).2 k rest ∧ w.heap[(B i).1]? = some (Qcd B k rest)
  nd : ∀ i j ki kj, K i = some ki → K j = some kj → (B i).1 = (B j).1 → i = j
  lo : ∀ i k, K i = some k → w0.heap.size ≤ (B i).1
  fs : ∀ f ∈ F, f.P w ∧ ∀ i k, K i = some k → ¬f.bl (B i).1
  gr : w0.grownBy w none ∧ FcAt w0
structure Ra (B : Pl) (T : Nat → Option SV) (n : Nat) (S : Nat → Prop) (a : Act) : Prop where
  sz : a.tmps.size = n
  tm : ∀ t x, T t = some x → a.tmps[t]? = some (den B x) ∧ bd S x
section
variable {P : Program} {w0 : World} {F : List RF} {B : Pl} {K : Nat → Option Bx} {T : Nat → Option SV} {n nx : Nat} {S : Nat → Prop} {a : Act} {w : World}
theorem Re.lt (R : Re w0 F B K S w) {i : Nat} {k : Bx} (h : K i = some k) : (B i).1 < w.heap.size := by
  obtain ⟨_, _, rest, _, h2⟩ := R.bx i k h
  exact (Array.getElem?_eq_some_iff.1 h2).1
theorem Qjc {w0 w w' : World} (g : w0.grownBy w none) (hb : Below w.heap.size w w') : w0.grownBy w' none :=
  ⟨hb.os.trans g.os, hb.tape.trans g.tape, hb.output.trans g.output, Nat.le_trans g.size hb.size, fun k hk hne => (hb.block k (Nat.lt_of_lt_of_le hk g.size)).trans (g.block k hk hne)⟩
theorem Re.below (R : Re w0 F B K S w) {w' : World} (hb : Below w.heap.size w w') : Re w0 F B K S w' := by
  refine ⟨fun i k h => ?_, R.nd, R.lo, fun f hf => ?_, Qjc R.gr.1 hb, R.gr.2⟩
  · obtain ⟨h1, h2, rest, h4, h3⟩ := R.bx i k h
    exact ⟨h1, h2, rest, h4, by rw [hb.block _ (R.lt h)]; exact h3⟩
  · obtain ⟨h1, h2⟩ := R.fs f hf
    exact ⟨f.st w w' h1 (fun b hb' => hb.block b (f.lt w h1 b hb')), h2⟩
theorem Ra.ag {B' : Pl} {S' : Nat → Prop} (A : Ra B T n S a) (h : ∀ i, S i → B' i = B i) (hn : ∀ j, S j → S' j) : Ra B' T n S' a :=
  ⟨A.sz, fun t x hx => by
    obtain ⟨h1, h2⟩ := A.tm t x hx
    exact ⟨by rw [Qf0 h h2]; exact h1, QbZ hn h2⟩⟩
def QbW {α : Type} (T : Nat → Option α) (d : Nat) (x : Option α) : Nat → Option α := fun t => if t = d then x else T t
theorem Ra.put {d : Nat} {x : SV} (A : Ra B T n S a) (hd : d < n) (hx : bd S x) : Ra B (QbW T d (some x)) n S (a.put (some d) (den B x)) := by
  refine ⟨by simp [Act.put, A.sz], fun t y h => ?_⟩
  unfold QbW at h
  by_cases e : t = d
  · subst e; simp at h; subst h
    exact ⟨by simp [Act.put, A.sz, hd], hx⟩
  · rw [if_neg e] at h
    obtain ⟨h1, h2⟩ := A.tm t y h
    exact ⟨by simp only [Act.put]; rw [Array.getElem?_setIfInBounds_ne (by omega)]; exact h1, h2⟩
def QbQ (B : Pl) (n : Nat) (x : Nat × Nat) : Pl := fun i => if i = n then x else B i
theorem Re.new (R : Re w0 F B K S w) (k : Bx) (rest : List Value) (c : Nat) (hk : bdK S k) (hr : Qe4 c k rest) (hS : ∀ j, S j → j < nx) :
    Re w0 F (QbQ B nx (w.heap.size, c)) (QbW K nx (some k)) (ext S nx (nx + 1)) (w.alloc (Qcd B k rest)) ∧ Ag nx (nx + 1) B (QbQ B nx (w.heap.size, c)) := by
  have hag' : Ag nx (nx + 1) B (QbQ B nx (w.heap.size, c)) := fun i hi => by unfold QbQ; rw [if_neg (by omega)]
  have hag : ∀ i, S i → QbQ B nx (w.heap.size, c) i = B i := hag'.on hS
  have R' := R.below ((Below.refl w.heap.size w).alloc (Nat.le_refl _) (Qcd B k rest))
  have hold : ∀ i k', K i = some k' → S i := fun i k' h => (R.bx i k' h).1
  refine ⟨⟨fun i k' h => ?_, fun i j ki kj hi hj he => ?_, fun i k' h => ?_, fun f hf => ?_, R'.gr⟩, hag'⟩
  · unfold QbW at h
    by_cases e : i = nx
    · subst e; simp at h; subst h
      refine ⟨Or.inr ⟨Nat.le_refl _, by omega⟩, Qce QbU hk, rest, by simpa [QbQ] using hr, ?_⟩
      rw [QdX hag hk]
      simp only [QbQ, if_true]
      exact heap_alloc_new w _
    · rw [if_neg e] at h
      obtain ⟨h1, h2, rest', h4, h3⟩ := R'.bx i k' h
      refine ⟨Or.inl h1, Qce QbU h2, rest', by rw [hag i h1]; exact h4, ?_⟩
      rw [QdX hag h2, hag i h1]; exact h3
  · unfold QbW at hi hj
    by_cases e1 : i = nx <;> by_cases e2 : j = nx
    · omega
    · rw [if_neg e2] at hj
      subst e1
      rw [hag j (hold _ _ hj)] at he
      simp only [QbQ, if_true] at he
      have := R.lt hj
      omega
    · rw [if_neg e1] at hi
      subst e2
      rw [hag i (hold _ _ hi)] at he
      simp only [QbQ, if_true] at he
      have := R.lt hi
      omega
    · rw [if_neg e1] at hi; rw [if_neg e2] at hj
      rw [hag i (hold _ _ hi), hag j (hold _ _ hj)] at he
      exact R.nd i j _ _ hi hj he
  · unfold QbW at h
    by_cases e : i = nx
    · subst e; simp only [QbQ, if_true]; exact R.gr.1.size
    · rw [if_neg e] at h
      rw [hag i (hold _ _ h)]; exact R.lo i k' h
  · obtain ⟨h1, h2⟩ := R'.fs f hf
    refine ⟨h1, fun i k' h => ?_⟩
    unfold QbW at h
    by_cases e : i = nx
    · subst e; simp only [QbQ, if_true]
      intro hb
      have := f.lt w (R.fs f hf).1 _ hb
      omega
    · rw [if_neg e] at h
      rw [hag i (hold _ _ h)]; exact h2 i k' h
end
end
end Go.Proofs.Ytfhmdlihnidjoaa.EX
namespace Go.Proofs.Ytfhmdlihnidjoaa.EX
set_option linter.unusedVariables false
set_option linter.unusedSimpArgs false
set_option linter.unusedSectionVars false
set_option maxRecDepth 100000
open Go Go.RowKit
variable [FC]
theorem QaX (B : Pl) (a b : List SV) : Qam B (a ++ b) = Qam B a ++ Qam B b := by simp [QaI]
theorem Qae (B : Pl) (a : List SV) : (Qam B a).length = a.length := by simp [QaI]
theorem Qbi {n : Nat → Prop} {a b : List SV} : bdL n (a ++ b) ↔ bdL n a ∧ bdL n b := by
  simp only [QaK, List.mem_append]
  exact ⟨fun h => ⟨fun x hx => h x (Or.inl hx), fun x hx => h x (Or.inr hx)⟩, fun h x hx => hx.elim (h.1 x) (h.2 x)⟩
theorem Qhv (n : Nat → Prop) (l : List Value) : bdL n (l.map .v) := by simp [QaK, bd]
theorem bdL_y (n : Nat → Prop) (l : List Value) : bdL n (l.map .y) := by simp [QaK, bd]
theorem Qft (B : Pl) (l : List Value) : Qam B (l.map .v) = l := by simp [QaI, Function.comp_def, den]
theorem denL_y (B : Pl) (l : List Value) : Qam B (l.map .y) = l := by simp [QaI, Function.comp_def, den]
def rawL : List SV → Option (List Value)
  | [] => some []
  | .v x :: l => match rawL l with
    | some r => some (x :: r)
    | none => none
  | _ :: _ => none
def QeZ : List SV → Option (List Value)
  | [] => some []
  | .v x :: l => match QeZ l with
    | some r => some (x :: r)
    | none => none
  | .y x :: l => match QeZ l with
    | some r => some (x :: r)
    | none => none
  | _ :: _ => none
theorem Qgl (B : Pl) : ∀ {l : List SV} {r : List Value}, rawL l = some r → Qam B l = r
  | [], r, h => by simp [rawL] at h; subst h; rfl
  | x :: l, r, h => by
    cases x with
    | v x =>
      simp only [rawL] at h
      cases hl : rawL l with
      | none => rw [hl] at h; cases h
      | some r' => rw [hl] at h; simp only [Option.some.injEq] at h; subst h; simp [Qam, den, Qgl B hl]
    | _ => simp [rawL] at h
theorem QdT (B : Pl) : ∀ {l : List SV} {r : List Value}, QeZ l = some r → Qam B l = r
  | [], r, h => by simp [QeZ] at h; subst h; rfl
  | x :: l, r, h => by
    cases x with
    | v x =>
      simp only [QeZ] at h
      cases hl : QeZ l with
      | none => rw [hl] at h; cases h
      | some r' => rw [hl] at h; simp only [Option.some.injEq] at h; subst h; simp [Qam, den, QdT B hl]
    | y x =>
      simp only [QeZ] at h
      cases hl : QeZ l with
      | none => rw [hl] at h; cases h
      | some r' => rw [hl] at h; simp only [Option.some.injEq] at h; subst h; simp [Qam, den, QdT B hl]
    | _ => simp [QeZ] at h
def Qgs (l : List SV) : SV :=
  match rawL l with
  | some r => .v (.agg r.toArray)
  | none => .g l
theorem Qde (B : Pl) (l : List SV) : den B (Qgs l) = .agg (Qam B l).toArray := by
  unfold Qgs
  cases h : rawL l with
  | some r => simp [den, Qgl B h]
  | none => simp [den]
theorem QdZ {n : Nat → Prop} {l : List SV} (h : bdL n l) : bd n (Qgs l) := by
  unfold Qgs
  split
  · simp [bd]
  · simpa [bd] using h
def Qlz (l : List SV) : SV :=
  match rawL l with
  | some r => .v (.tuple r.toArray)
  | none => .t l
theorem Qly (B : Pl) (l : List SV) : den B (Qlz l) = .tuple (Qam B l).toArray := by
  unfold Qlz
  cases h : rawL l with
  | some r => simp [den, Qgl B h]
  | none => simp [den]
theorem mkTup_bd {n : Nat → Prop} {l : List SV} (h : bdL n l) : bd n (Qlz l) := by
  unfold Qlz
  split
  · simp [bd]
  · simpa [bd] using h
def Qby : SV → List SV
  | .v (.agg cs) => cs.toList.map .v
  | .y (.agg cs) => cs.toList.map .y
  | .g l => l
  | x => [x]
theorem Qeo (B : Pl) (x : SV) : Qam B (Qby x) = (den B x).cells.toList := by
  unfold Qby
  split
  · simp [Qft, den, Value.cells]
  · simp [denL_y, den, Value.cells]
  · simp [den, Value.cells]
  · rename_i h1 h2 h3
    cases x with
    | v x => cases x <;> simp [Qam, den, Value.cells] ; exact absurd rfl (h1 _)
    | y x => cases x <;> simp [Qam, den, Value.cells] ; exact absurd rfl (h2 _)
    | g l => exact absurd rfl (h3 l)
    | _ => simp [Qam, den, Value.cells]
theorem Qfu {n : Nat → Prop} {x : SV} (h : bd n x) : bdL n (Qby x) := by
  unfold Qby
  split
  · exact Qhv _ _
  · exact bdL_y _ _
  · simpa [bd] using h
  · simpa [bdL] using h
def QiW : SV → Bool
  | .v x => x.oneCell'
  | .y x => x.oneCell'
  | .g _ => false
  | .t _ => false
  | _ => true
theorem QeL (B : Pl) {x : SV} (h : QiW x = true) : (den B x).oneCell' = true := by
  cases x <;> simp_all [QiW, den, Value.oneCell']
def QeB {α : Type} : List α → Nat → List α → List α
  | cs, _, [] => cs
  | cs, o, v :: r => QeB (cs.set o v) (o + 1) r
theorem QdH {α : Type} : ∀ (vs cs : List α) (o : Nat), (QeB cs o vs).length = cs.length
  | [], _, _ => rfl
  | v :: r, cs, o => by rw [QeB, QdH r]; simp
theorem QgV : ∀ (vs cs : List Value) (o : Nat), QeB cs o vs = SZ.setL cs o vs
  | [], _, _ => rfl
  | v :: r, cs, o => by rw [QeB, SZ.setL, QgV r]
theorem Qgf (B : Pl) : ∀ (vs cs : List SV) (o : Nat), Qam B (QeB cs o vs) = QeB (Qam B cs) o (Qam B vs)
  | [], _, _ => by simp [QeB, Qam]
  | v :: r, cs, o => by simp only [QeB, Qam, Qgf B r]; simp [QaI, List.map_set]
theorem QhM {n : Nat → Prop} : ∀ {vs cs : List SV} {o : Nat}, bdL n vs → bdL n cs → bdL n (QeB cs o vs)
  | [], _, _, _, h => h
  | v :: r, cs, o, hv, h => by
    simp only [bdL] at hv
    show bdL n (QeB (cs.set o v) (o + 1) r)
    refine QhM hv.2 ?_
    simp only [QaK] at h ⊢
    intro x hx
    rcases List.mem_or_eq_of_mem_set hx with h1 | h1
    · exact h x h1
    · exact h1 ▸ hv.1
theorem Qe0 {α : Type} : ∀ (vs cs rest : List α) (o : Nat), o + vs.length ≤ cs.length → QeB (cs ++ rest) o vs = QeB cs o vs ++ rest
  | [], _, _, _, _ => rfl
  | v :: r, cs, rest, o, h => by
    simp only [List.length_cons] at h
    simp only [QeB]
    rw [List.set_append_left _ _ (by omega), Qe0 r _ rest (o + 1) (by simp; omega)]
def ldE (P : Program) (ty : TypeId) (cs : List SV) (o : Nat) : Option SV :=
  match P.underlying ty, (P.info? ty).map (·.size) with
  | some d, some n => match d.isRow with
    | true => match Nat.ble (o + n) cs.length with
      | true => some (Qgs ((cs.drop o).take n))
      | false => none
    | false => cs[o]?
  | _, _ => none
def QaE (n : Nat) : Bool := Nat.ble n 1000000000
section
variable {P : Program} {w0 : World} {F : List RF} {B : Pl} {K : Nat → Option Bx} {T : Nat → Option SV} {n : Nat} {nx : Nat → Prop} {a : Act} {w : World}
theorem Qic {b : Nat} {cs : List Value} {ty : TypeId} {o : Nat} {es : List SV} (h : w.heap[b]? = some (.cells cs.toArray ty (fzOf es cs.length))) (ho : o < cs.length) : w.frozen? ⟨b, o, none⟩ = false := by
  cases es with
  | nil => exact SZ.frozen_of_heap h
  | cons a l =>
    simp only [fzOf] at h
    simp [World.frozen?, h]
    omega
theorem QdC (b : Nat) (ty : TypeId) (fr : Nat × Nat) : ∀ (vs : List Value) (o : Nat) (w : World) (cs : List Value), w.heap[b]? = some (.cells cs.toArray ty fr) → (w.setCells b o vs).heap[b]? = some (.cells (SZ.setL cs o vs).toArray ty fr)
  | [], _, _, _, h => h
  | v :: r, o, w, cs, h => by
    rw [World.setCells, SZ.setL]
    refine QdC b ty fr r (o + 1) _ (cs.set o v) ?_
    simp only [World.setCell, Array.getElem?_modify]
    simp [h]
theorem Re.cell (R : Re w0 F B K nx w) {i : Nat} {k : Bx} (h : K i = some k) {o : Nat} {x : SV} (hx : k.cs[o]? = some x) : w.cell? ⟨(B i).1, o, none⟩ = some (den B x) := by
  obtain ⟨_, hbk, rest, _, h2⟩ := R.bx i k h
  rw [Qcp (hbk.cell (List.getElem?_eq_some_iff.1 hx).1)] at h2
  simp only [World.cell?, h2]
  have := (List.getElem?_eq_some_iff.1 hx).1
  have e := (List.getElem?_eq_some_iff.1 hx).2
  simp [QaI, List.getElem?_append_left, this, e]
theorem Re.ld (R : Re w0 F B K nx w) {i : Nat} {k : Bx} (h : K i = some k) {ty : TypeId} {o : Nat} {x : SV} (hx : ldE P ty k.cs o = some x) :
    (loadVar ty ⟨(B i).1, o, none⟩).run P w = .ok (den B x) w ∧ bd nx x := by
  have hb := (R.bx i k h).2.1.1
  unfold ldE at hx
  cases hu : P.underlying ty with
  | none => rw [hu] at hx; simp at hx
  | some d =>
    cases hi : (P.info? ty).map (·.size) with
    | none => rw [hu, hi] at hx; simp at hx
    | some n =>
      rw [hu, hi] at hx
      simp only at hx
      cases hd : d.isRow with
      | true =>
        rw [hd] at hx; simp only at hx
        cases hn : Nat.ble (o + n) k.cs.length with
        | false => rw [hn] at hx; cases hx
        | true =>
          rw [hn] at hx
          simp only [Option.some.injEq] at hx
          subst hx
          have hn' : o + n ≤ k.cs.length := by simpa using hn
          have hbt : bdL nx ((k.cs.drop o).take n) := by
            simp only [QaK] at hb ⊢
            exact fun x hx => hb x (List.mem_of_mem_drop (List.mem_of_mem_take hx))
          refine ⟨?_, QdZ hbt⟩
          rw [Qde]
          refine run_loadVar_mid w (B i).1 o ty _ d ?_ hu hd ?_
          · intro j x hj
            rw [QaI, List.getElem?_map] at hj
            cases hq : ((k.cs.drop o).take n)[j]? with
            | none => rw [hq] at hj; cases hj
            | some y =>
              rw [hq] at hj
              simp only [Option.map_some, Option.some.injEq] at hj
              subst hj
              refine R.cell h ?_
              rw [List.getElem?_take] at hq
              split at hq
              · rw [List.getElem?_drop] at hq; exact hq
              · cases hq
          · rw [hi, Qae]; simp; omega
      | false =>
        rw [hd] at hx; simp only at hx
        have hagg : (isAgg ty).run P w = .ok false w := by
          unfold isAgg
          rw [Sem.run_bind, run_underlying hu w]
          cases d <;> simp_all
        refine ⟨?_, QaK.1 hb x (List.mem_of_getElem? hx)⟩
        unfold loadVar
        rw [Sem.run_bind, hagg]
        simp only [Result.andThen_ok, Bool.false_eq_true, if_false]
        simp only [load, Sem.run, R.cell h hx]
theorem Re.store (R : Re w0 F B K nx w) {i o : Nat} {k : Bx} (hk : K i = some k) {vs : List SV} (hv : bdL nx vs) (ho : o + vs.length ≤ k.cs.length) :
    Re w0 F B (QbW K i (some ⟨k.ty, QeB k.cs o vs, k.sz, k.mp, k.es⟩)) nx (w.setCells (B i).1 o (Qam B vs)) := by
  obtain ⟨h1, h2, h3, h4, h5⟩ := SZ.setCells_os (B i).1 (Qam B vs) o w
  obtain ⟨hi, hkb, rest, hrl, hh⟩ := R.bx i k hk
  cases hm : k.mp with
  | true =>
    have hcs := (hkb.2 hm).1
    have hv0 : vs = [] := by
      rw [hcs] at ho
      cases vs with
      | nil => rfl
      | cons a l => exact absurd ho (by simp)
    subst hv0
    have e : QbW K i (some ⟨k.ty, QeB k.cs o [], k.sz, true, k.es⟩) = K := by
      funext j
      unfold QbW
      by_cases e : j = i
      · rw [if_pos e, e, hk, ← hm]; rfl
      · rw [if_neg e]
    rw [e]
    exact R
  | false =>
  rw [Qcp hm] at hh
  refine ⟨fun j k' h => ?_, fun p q kp kq hp hq he => ?_, fun j k' h => ?_, fun f hf => ?_, ?_⟩
  · unfold QbW at h
    by_cases e : j = i
    · subst e; simp at h; subst h
      refine ⟨hi, ⟨QhM hv hkb.1, fun e => by cases e⟩, rest, by simpa [Qe4, QdH] using hrl, ?_⟩
      have hl : (Qam B (QeB k.cs o vs) ++ rest).length = (Qam B k.cs ++ rest).length := by simp [Qae, QdH]
      rw [Qcp rfl]
      simp only []
      rw [hl]
      have := QdC (B j).1 k.ty _ (Qam B vs) o w _ hh
      rw [this, ← QgV, Qe0 _ _ _ _ (by rw [Qae, Qae]; exact ho), Qgf]
    · rw [if_neg e] at h
      obtain ⟨g1, g2, rest', g4, g3⟩ := R.bx j k' h
      exact ⟨g1, g2, rest', g4, by rw [h5 _ (fun he => e (R.nd j i _ _ h hk he))]; exact g3⟩
  · unfold QbW at hp hq
    have : ∀ j k', QbW K i (some ⟨k.ty, QeB k.cs o vs, k.sz, false, k.es⟩) j = some k' → ∃ k'', K j = some k'' := fun j k' h => by
      unfold QbW at h
      by_cases e : j = i
      · subst e; exact ⟨_, hk⟩
      · rw [if_neg e] at h; exact ⟨_, h⟩
    obtain ⟨_, g1⟩ := this p kp hp
    obtain ⟨_, g2⟩ := this q kq hq
    exact R.nd p q _ _ g1 g2 he
  · unfold QbW at h
    by_cases e : j = i
    · subst e; exact R.lo _ _ hk
    · rw [if_neg e] at h; exact R.lo _ _ h
  · obtain ⟨g1, g2⟩ := R.fs f hf
    refine ⟨f.st w _ g1 (fun b hb => h5 b (fun he => g2 i k hk (he ▸ hb))), fun j k' h => ?_⟩
    unfold QbW at h
    by_cases e : j = i
    · subst e; exact g2 _ _ hk
    · rw [if_neg e] at h; exact g2 _ _ h
  · have g := R.gr.1
    refine ⟨⟨h1.trans g.os, h2.trans g.tape, h3.trans g.output, by rw [h4]; exact g.size, fun b hb hne => ?_⟩, R.gr.2⟩
    rw [h5 b ?_]
    · exact g.block b hb hne
    · intro he
      have := R.lo i k hk
      omega
def stE (P : Program) (ty : TypeId) (cs : List SV) (o : Nat) (x : SV) : Option (List SV) :=
  match (P.info? ty).map (·.size) with
  | some n => match Nat.beq (Qby x).length n && Nat.ble (o + n) cs.length && (Qby x).all QiW with
    | true => some (QeB cs o (Qby x))
    | false => none
  | none => none
theorem Re.st (R : Re w0 F B K nx w) {i o : Nat} {k : Bx} (hk : K i = some k) {ty : TypeId} {x : SV} (hb : bd nx x) {cs' : List SV} (h : stE P ty k.cs o x = some cs') :
    ∃ w', (storeVar ty ⟨(B i).1, o, none⟩ (den B x)).run P w = .ok () w' ∧ Re w0 F B (QbW K i (some ⟨k.ty, cs', k.sz, k.mp, k.es⟩)) nx w' := by
  unfold stE at h
  cases hi : (P.info? ty).map (·.size) with
  | none => rw [hi] at h; cases h
  | some n =>
    rw [hi] at h
    simp only at h
    cases hc : (Nat.beq (Qby x).length n && Nat.ble (o + n) k.cs.length && (Qby x).all QiW) with
    | false => rw [hc] at h; cases h
    | true =>
      rw [hc] at h
      simp only [Option.some.injEq] at h
      subst h
      simp only [Bool.and_eq_true, List.all_eq_true] at hc
      obtain ⟨⟨h1, h2⟩, h3⟩ := hc
      replace h1 := Nat.eq_of_beq_eq_true h1
      have h2' : o + n ≤ k.cs.length := by simpa using h2
      have hcd := Qeo B x
      have hsz : (den B x).cells.size = n := by rw [← h1, ← Qae B, hcd]; simp
      refine ⟨w.setCells (B i).1 o (Qam B (Qby x)), ?_, R.store hk (Qfu hb) (by omega)⟩
      obtain ⟨_, hbk, rest, _, hh⟩ := R.bx i k hk
      have hs := run_storeCells_cells (P := P) (B i).1 o (Qam B (Qby x)) 0 w (fun j hj => by
        rw [Qae] at hj
        rw [Nat.add_zero, R.cell hk (List.getElem?_eq_getElem (by omega))]; rfl) (fun j hj => by
          rw [Qae] at hj
          rw [Qcp (hbk.cell (o := o + j) (by omega))] at hh
          exact Qic hh (by rw [List.length_append, Qae]; omega)) (fun y hy => by
          rw [QaI] at hy
          obtain ⟨z, hz, rfl⟩ := List.mem_map.1 hy
          exact QeL B (h3 z hz))
      simp only [Nat.add_zero] at hs
      simp only [storeVar, Sem.run_bind, SZ.run_info hi, Result.andThen_ok, hsz, ne_eq, not_true_eq_false, if_false, Sem.run_pure]
      rw [← hcd]
      exact hs
end
structure Mm where
  K : Tr Bx
  nx : Nat
  lg : List Nat
def Mm.new (m : Mm) (k : Bx) : Mm := ⟨m.K.set m.nx (some k), m.nx + 1, m.lg⟩
def Mm.upd (m : Mm) (i : Nat) (k : Bx) : Mm := ⟨m.K.set i (some k), m.nx, i :: m.lg⟩
theorem small {n : Nat} (h : QaE n = true) : n + 1 < 2 ^ 40 := by
  have : n ≤ 1000000000 := by simpa [QaE] using h
  omega
theorem Tr.get_set {α : Type} {t : Tr α} {n : Nat} {x : Option α} (h : QaE n = true) : (t.set n x).get = QbW t.get n x := by
  funext k
  exact Tr.get_put t n k x (small h)
abbrev Rho := Operand → Option SV
def Qkf (ρ : Rho) (x : Operand) : Value :=
  match ρ x with
  | some (.v y) => y
  | some (.y y) => y
  | some (.g l) => match QeZ l with
    | some r => .agg r.toArray
    | none => undef
  | _ => undef
def isVE (ρ : Rho) (x : Operand) : Bool :=
  match ρ x with
  | some (.v _) => true
  | _ => false
def isYE (ρ : Rho) (x : Operand) : Bool :=
  match ρ x with
  | some (.v _) => true
  | some (.y _) => true
  | some (.g l) => (QeZ l).isSome
  | _ => false
def Qa9 (P : Program) (ρ : Rho) (o : Oper) : Option SV :=
  match SZ.notSel o.op with
  | true => match o.op.operands.toList.all (isVE ρ) with
    | true => match SZ.pev P (execOp (Qkf ρ) o) with
      | some (.value x) => some (.v x)
      | _ => none
    | false => match o.op.operands.toList.all (isYE ρ) with
      | true => match SZ.pev P (execOp (Qkf ρ) o) with
        | some (.value x) => some (.y x)
        | _ => none
      | false => none
  | false => none
def Qc5 (ρ : Rho) : List Operand → Option (List SV)
  | [] => some []
  | x :: r => match ρ x, Qc5 ρ r with
    | some v, some l => some (v :: l)
    | _, _ => none
def Qgq : SV → Option Nat
  | .v (.int _ (.ofNat n)) => some n
  | _ => none
def Qfr (place : Nat → Option (Nat × Nat)) : List SV → List (Nat × SV) → Option (List SV)
  | cells, [] => some cells
  | cells, (i, v) :: rest => match place i with
    | none => none
    | some (off, size) => match Nat.beq (Qby v).length size && Nat.ble (off + (Qby v).length) cells.length with
      | true => Qfr place (QeB cells off (Qby v)) rest
      | false => none
theorem QfV (off : Nat) : ∀ (l : List Value) (j : Nat) (cs : Array Value), ((l.zipIdx j).foldl (fun cs (c, j) => cs.setIfInBounds (off + j) c) cs).toList = QeB cs.toList (off + j) l
  | [], _, _ => rfl
  | v :: l, j, cs => by
    simp only [List.zipIdx_cons, List.foldl_cons]
    rw [QfV off l (j + 1)]
    simp only [QeB, Array.toList_setIfInBounds]
    rfl
theorem Qd6 (B : Pl) {place : Nat → Option (Nat × Nat)} : ∀ (parts : List (Nat × SV)) {cells r : List SV}, Qfr place cells parts = some r →
    Instr.fill place (Qam B cells).toArray (parts.map fun q => (q.1, den B q.2)) = some (Qam B r).toArray
  | [], cells, r, h => by simp [Qfr] at h; subst h; rfl
  | (i, v) :: rest, cells, r, h => by
    simp only [Qfr] at h
    simp only [List.map_cons, Instr.fill]
    cases hp : place i with
    | none => rw [hp] at h; cases h
    | some q =>
      obtain ⟨off, size⟩ := q
      rw [hp] at h
      simp only at h
      cases hc : (Nat.beq (Qby v).length size && Nat.ble (off + (Qby v).length) cells.length) with
      | false => rw [hc] at h; cases h
      | true =>
        rw [hc] at h
        simp only at h
        simp only [Bool.and_eq_true] at hc
        obtain ⟨h1, h2⟩ := hc
        replace h1 := Nat.eq_of_beq_eq_true h1
        have h2' : off + (Qby v).length ≤ cells.length := by simpa using h2
        have hcd := Qeo B v
        have hsz : (den B v).cells.size = (Qby v).length := by rw [← Qae B, hcd]; simp
        have hf : ((den B v).cells.zipIdx.foldl (fun cs (c, j) => cs.setIfInBounds (off + j) c) (Qam B cells).toArray) = (Qam B (QeB cells off (Qby v))).toArray := by
          apply Array.ext'
          rw [← Array.foldl_toList]
          have := QfV off (den B v).cells.toList 0 (Qam B cells).toArray
          simp only [Array.toList_zipIdx]
          rw [this, Qgf, hcd]
          rfl
        simp only [hsz, h1, ne_eq, not_true_eq_false, decide_false, Bool.false_or, List.size_toArray, Qae]
        rw [if_neg (by simp; omega)]
        rw [hf]
        exact Qd6 B rest h
theorem QeP {n : Nat → Prop} {place : Nat → Option (Nat × Nat)} : ∀ (parts : List (Nat × SV)) {cells r : List SV}, Qfr place cells parts = some r → bdL n cells → (∀ q ∈ parts, bd n q.2) → bdL n r
  | [], cells, r, h, hc, _ => by simp [Qfr] at h; subst h; exact hc
  | (i, v) :: rest, cells, r, h, hcl, hp => by
    simp only [Qfr] at h
    cases hp' : place i with
    | none => rw [hp'] at h; cases h
    | some q =>
      obtain ⟨off, size⟩ := q
      rw [hp'] at h
      simp only at h
      cases hc : (Nat.beq (Qby v).length size && Nat.ble (off + (Qby v).length) cells.length) with
      | false => rw [hc] at h; cases h
      | true =>
        rw [hc] at h
        exact QeP rest h (QhM (Qfu (hp (i, v) (by simp))) hcl) (fun q hq => hp q (List.mem_cons_of_mem _ hq))
def Qcc (P : Program) (ty : TypeId) : Option Nat := (P.info? ty).map (·.size)
def bldE (P : Program) (t : TypeId) (parts : List (Nat × SV)) : Option (List SV) :=
  match SZ.pev P (zeroValue t), P.underlying t with
  | some z, some (.struct fields) => match SZ.pev P (fields.mapM fun f => do pure (f.offset, ← sizeOf f.type)) with
    | some places => Qfr (places[·]?) (z.cells.toList.map .v) parts
    | none => none
  | some z, some (.array _ elem) => match Qcc P elem with
    | some size => Qfr (fun i => some (i * size, size)) (z.cells.toList.map .v) parts
    | none => none
  | _, _ => none
def Qkh (P : Program) (t : TypeId) (len : Nat) (parts : List (Nat × SV)) : Option Bx :=
  match P.underlying t with
  | some (.slice elem) => match Qcc P elem, SZ.pev P (zeroValue elem) with
    | some size, some z => match Nat.beq (len * size) 0 || Nat.blt (2 ^ 24) (len * size) with
      | true => match Nat.beq (len * size) 0, parts with
        | true, [] => some ⟨elem, [], 0, false, []⟩
        | _, _ => none
      | false => match Qfr (fun i => some (i * size, size)) (((Array.range (len * size)).map (z.cells[· % z.cells.size]!)).toList.map .v) parts with
        | some cells => some ⟨elem, cells, 0, false, []⟩
        | none => none
    | _, _ => none
  | _ => none
def fldE (P : Program) (t : TypeId) (cs : List SV) (f : Nat) : Option SV :=
  match P.underlying t with
  | some (.struct fields) => match fields[f]? with
    | some fl => match P.underlying fl.type, Qcc P fl.type with
      | some d, some n => match d.isRow with
        | true => some (Qgs ((cs.drop fl.offset).take n))
        | false => cs[fl.offset]?
      | _, _ => none
    | none => none
  | _ => none
def idxE (P : Program) (t : TypeId) (len n : Nat) : Option Nat :=
  match P.underlying t with
  | some (.slice elem) => match Nat.blt n len, Qcc P elem with
    | true, some size => some (n * size)
    | _, _ => none
  | _ => none
def aidxE (P : Program) (t : TypeId) (n : Nat) : Option Nat :=
  match P.underlying t with
  | some (.array len elem) => match Nat.blt n len, Qcc P elem with
    | true, some size => some (n * size)
    | _, _ => none
  | _ => none
def isIfc : TypeDesc → Bool
  | .interface _ => true
  | _ => false
def mkIf (ty : TypeId) (v : SV) : SV :=
  match v with
  | .v z => .v (.iface ty z)
  | .y z => .y (.iface ty z)
  | v => .e ty v
theorem mkIf_den (B : Pl) (ty : TypeId) (v : SV) : den B (mkIf ty v) = .iface ty (den B v) := by unfold mkIf; split <;> simp [den]
theorem mkIf_bd {n : Nat → Prop} {ty : TypeId} {v : SV} (h : bd n v) : bd n (mkIf ty v) := by unfold mkIf; split <;> simp_all [bd]
def tasE (P : Program) (ty : TypeId) (x : SV) (asserted : TypeId) (ok : Bool) : Option SV :=
  match (P.underlying asserted).map isIfc, Nat.beq ty asserted with
  | some false, true => some (match ok with
    | true => .t [x, .v (.bool true)]
    | false => x)
  | _, _ => none
def Qh8 (P : Program) (ty : TypeId) (x y : SV) : Bool :=
  match P.underlying ty, x, y with
  | some (.pointer _), .p _ _, .v (.pointer none) => true
  | some (.slice _), .s _ _ _ _, .v (.slice none _ _) => true
  | some (.slice _), .r _ _ _ _, .v (.slice none _ _) => true
  | some (.slice _), .z _ _ _, .v (.slice none _ _) => true
  | some (.slice _), .q _ _ _ _, .v (.slice none _ _) => true
  | some (.pointer _), .a _ _, .v (.pointer none) => true
  | some (.func _ _ _), .f _ _ _, .v .nilFunc => true
  | some (.interface _), .e _ _, .v .nilIface => true
  | _, _, _ => false
def QdM : Option (Option SV) → Nat → Nat → Option Nat
  | none, d, _ => some d
  | some x, _, top => match x with
    | some s => match Qgq s with
      | some n => match Nat.ble n top with
        | true => some n
        | false => none
      | none => none
    | none => none
def QkL (P : Program) (ρ : Rho) (t : TypeId) (x : SV) (lo hi mx : Option Operand) : Option SV :=
  match P.underlying t, x, mx with
  | some (.slice elem), .s i o len cap, none => match QdM (hi.map ρ) len cap, Qcc P elem with
    | some h, some size => match QdM (lo.map ρ) 0 h with
      | some l => some (.s i (match Nat.beq cap l with
        | true => o
        | false => o + l * size) (h - l) (cap - l))
      | none => none
    | _, _ => none
  | some (.slice elem), .r i o len x, none => match QdM (hi.map ρ) len x, Qcc P elem with
    | some h, some size => match QdM (lo.map ρ) 0 h with
      | some l => match Nat.ble h x with
        | true => some (match Nat.beq x l with
          | true => .z i o (o + l * size)
          | false => .r i (o + l * size) (h - l) (x - l))
        | false => none
      | none => none
    | _, _ => none
  | some (.slice elem), .z i o q, none => match QdM (hi.map ρ) 0 0, Qcc P elem with
    | some h, some size => match QdM (lo.map ρ) 0 h with
      | some l => some (.z i o q)
      | none => none
    | _, _ => none
  | _, _, _ => none
def Qgk (P : Program) (ρ : Rho) (o : Oper) : Option SV :=
  match o.op.operands.toList.all (isVE ρ) with
  | true => Qa9 P ρ o
  | false => none
def mkE (P : Program) (t : TypeId) (a b : Nat) : Option Bx :=
  match P.underlying t with
  | some (.slice e) => match P.info? e with
    | some i => match i.zero with
      | some z => match Nat.ble a b && Nat.ble b 100000 && Nat.ble i.bytes 100000 with
        | true => some ⟨e, ((List.range (b * i.size)).map fun j => z.cells[j % z.cells.size]!).map .v, 0, false, []⟩
        | false => none
      | none => none
    | none => none
  | _ => none
def elE (P : Program) (t : TypeId) (cs : List SV) (n : Nat) : Option SV :=
  match P.underlying t with
  | some (.array len elem) => match Nat.blt n len, P.underlying elem, Qcc P elem with
    | true, some d, some size => match d.isRow with
      | true => some (Qgs ((cs.drop (n * size)).take size))
      | false => cs[n * size]?
    | _, _, _ => none
  | _ => none
def elX (P : Program) (t : TypeId) (cs : List SV) (ix : Option SV) : Option SV := match ix with
  | some iv => match Qgq iv with
    | some n => elE P t cs n
    | none => none
  | none => none
def eqT : TypeDesc → Value → Value → Option Bool
  | .int _, .int k a, .int k' b => match decide (k = k') with
    | true => some (a == b)
    | false => none
  | .bool, .bool a, .bool b => some (a == b)
  | .string, .string a, .string b => some (a.toList == b.toList)
  | _, _, _ => none
def eqFs (P : Program) (xs ys : Array Value) : List Field → Option Bool
  | [] => some true
  | f :: l => match P.underlying f.type, xs[f.offset]?, ys[f.offset]? with
    | some d, some a, some b => match eqT d a b, eqFs P xs ys l, decide (f.name = "_") with
      | some x, some y, false => some (x && y)
      | _, _, _ => none
    | _, _, _ => none
def eqS (P : Program) (ty : TypeId) (u v : Value) : Option Bool := match P.underlying ty, u, v with
  | some (.struct fields), .agg xs, .agg ys => match P.stoodInHeld ty, P.eqGuardType P.depth ty with
    | false, false => eqFs P xs ys fields.toList
    | _, _ => none
  | _, _, _ => none
def eqE (P : Program) (ρ : Rho) (o : Oper) (ty : TypeId) (y z : Operand) (ne : Bool) : Option SV :=
  match isVE ρ y && isVE ρ z with
  | true => Qa9 P ρ o
  | false => match isYE ρ y && isYE ρ z with
    | true => match eqS P ty (Qkf ρ y) (Qkf ρ z) with
      | some c => some (.y (.bool (match ne with
        | true => !c
        | false => c)))
      | none => Qa9 P ρ o
    | false => Qa9 P ρ o
def QeO (kd : IntKind) (n : Int) : List SV → Option (Option SV)
  | [] => some none
  | k :: v :: l => match k with
    | .v (.int kd' n') => match decide (kd = kd'), decide (n = n') with
      | true, true => some (some v)
      | true, false => QeO kd n l
      | _, _ => none
    | _ => none
  | [_] => none
def QfU : TypeDesc → Bool
  | .int _ => true
  | _ => false
def mkmE (m : Mm) (t : TypeId) (b : Bool) : Option (SV × Mm) := match b with
  | true => some (.m m.nx, m.new ⟨t, [], 0, true, []⟩)
  | false => none
def insE (P : Program) (m : Mm) (t : TypeId) (x k v : Option SV) : Option (SV × Mm) := match P.underlying t, x, k, v with
  | some (.map kt et), some (.m i), some (.v (.int kd n)), some v => match (P.underlying kt).map QfU, m.K.get i, QaE i with
    | some true, some b, true => match b.mp, QeO kd n b.es with
      | true, some none => some (.v undef, m.upd i ⟨b.ty, [], 0, true, b.es ++ [.v (.int kd n), v]⟩)
      | _, _ => none
    | _, _, _ => none
  | _, _, _, _ => none
def lkV (ok : Bool) (r : Option SV) (z : Value) : SV := match ok with
  | true => .t [r.getD (.v z), .v (.bool r.isSome)]
  | false => r.getD (.v z)
def lkE (P : Program) (m : Mm) (t : TypeId) (x ix : Option SV) (ok : Bool) : Option (SV × Mm) := match P.underlying t, x, ix with
  | some (.map kt et), some (.m i), some (.v (.int kd n)) => match (P.underlying kt).map QfU, m.K.get i, SZ.pev P (zeroValue et) with
    | some true, some b, some z => match b.mp, QeO kd n b.es with
      | true, some r => some (lkV ok r z, m)
      | _, _ => none
    | _, _, _ => none
  | _, _, _ => none
def opE0 (P : Program) (ρ : Rho) (m : Mm) (o : Oper) : Option (SV × Mm) :=
  match o.op with
  | .move x => match ρ x with
    | some v => some (v, m)
    | none => none
  | .assign x => match ρ x with
    | some v => some (v, m)
    | none => none
  | .load ty x => match ρ x with
    | some (.p i off) => match m.K.get i with
      | some k => match ldE P ty k.cs off with
        | some v => some (v, m)
        | none => none
      | none => none
    | _ => none
  | .store ty x y => match ρ x, ρ y with
    | some (.p i off), some v => match m.K.get i, QaE i with
      | some k, true => match stE P ty k.cs off v with
        | some cs => some (.v undef, m.upd i ⟨k.ty, cs, k.sz, k.mp, k.es⟩)
        | none => none
      | _, _ => none
    | _, _ => none
  | .alloc ty => match SZ.zeroS P ty, QaE m.nx with
    | some cs, true => some (.p m.nx 0, m.new ⟨ty, cs.map .v, 0, false, []⟩)
    | _, _ => none
  | .box ty x => match ρ x, QaE m.nx with
    | some v, true => some (.p m.nx 0, m.new ⟨ty, Qby v, 0, false, []⟩)
    | _, _ => none
  | .build t parts => match Qgk P ρ o with
    | some x => some (x, m)
    | none => match Qc5 ρ (parts.toList.map (·.2)) with
      | some vs => match bldE P t ((parts.toList.map (·.1)).zip vs) with
        | some cs => some (Qgs cs, m)
        | none => none
      | none => none
  | .buildSlice t len parts => match Qc5 ρ (parts.toList.map (·.2)), QaE m.nx with
    | some vs, true => match Qkh P t len ((parts.toList.map (·.1)).zip vs) with
      | some k => some (.s m.nx 0 len len, m.new k)
      | none => none
    | _, _ => none
  | .fieldAddr t x f => match ρ x with
    | some (.p i off) => match SZ.fieldS P t f with
      | some q => some (.p i (off + q), m)
      | none => none
    | _ => none
  | .indexAddr t x ix => match ρ x, ρ ix with
    | some (.s i off l _), some iv => match Qgq iv with
      | some n => match idxE P t l n with
        | some q => some (.p i (off + q), m)
        | none => none
      | none => none
    | some (.r i off l _), some iv => match Qgq iv with
      | some n => match idxE P t l n with
        | some q => some (.p i (off + q), m)
        | none => none
      | none => none
    | some (.p i off), some iv => match Qgq iv with
      | some n => match aidxE P t n with
        | some q => some (.p i (off + q), m)
        | none => none
      | none => none
    | _, _ => none
  | .makeFunc (.func fn) first caps => match Qc5 ρ first.toList, Qc5 ρ caps.toList with
    | some a, some b => some (.f fn a b, m)
    | _, _ => none
  | .field t x f => match ρ x with
    | some (.g cs) => match fldE P t cs f with
      | some v => some (v, m)
      | none => none
    | _ => match Qa9 P ρ o with
      | some x => some (x, m)
      | none => none
  | .index t x ix => match ρ x with
    | some (.g cs) => match elX P t cs (ρ ix) with
      | some v => some (v, m)
      | none => none
    | _ => match Qa9 P ρ o with
      | some x => some (x, m)
      | none => none
  | .makeInterface ty x => match ρ x, (P.underlying ty).map isIfc with
    | some v, some false => some (mkIf ty v, m)
    | _, _ => none
  | .typeAssert x xt t ok => match ρ x with
    | some (.e ty v) => match tasE P ty v t ok with
      | some z => some (z, m)
      | none => none
    | _ => match Qa9 P ρ o with
      | some x => some (x, m)
      | none => none
  | .extract x ix => match ρ x with
    | some (.t cs) => match cs[ix]? with
      | some z => some (z, m)
      | none => none
    | _ => match Qa9 P ρ o with
      | some x => some (x, m)
      | none => none
  | .pick c x y => match ρ c with
    | some (.v (.bool true)) => match ρ x with
      | some z => some (z, m)
      | none => none
    | some (.v (.bool false)) => match ρ y with
      | some z => some (z, m)
      | none => none
    | _ => none
  | .nilCheck x => match ρ x with
    | some (.p i off) => some (.p i off, m)
    | some (.s i off l c) => some (.s i off l c, m)
    | some (.r i off l c) => some (.r i off l c, m)
    | some (.f g a b) => some (.f g a b, m)
    | some (.e t v) => some (.e t v, m)
    | _ => match Qa9 P ρ o with
      | some x => some (x, m)
      | none => none
  | .slice t x lo hi mx => match ρ x with
    | some (.s i off l c) => match QkL P ρ t (.s i off l c) lo hi mx with
      | some z => some (z, m)
      | none => none
    | some (.r i off l c) => match QkL P ρ t (.r i off l c) lo hi mx with
      | some z => some (z, m)
      | none => none
    | some (.z i off q) => match QkL P ρ t (.z i off q) lo hi mx with
      | some z => some (z, m)
      | none => none
    | _ => match Qa9 P ρ o with
      | some x => some (x, m)
      | none => none
  | .binOp .eql ty x y _ => match ρ x, ρ y with
    | some u, some v => match Qh8 P ty u v with
      | true => some (.v (.bool false), m)
      | false => match eqE P ρ o ty x y false with
        | some x => some (x, m)
        | none => none
    | _, _ => none
  | .binOp .neq ty x y _ => match ρ x, ρ y with
    | some u, some v => match Qh8 P ty u v with
      | true => some (.v (.bool true), m)
      | false => match eqE P ρ o ty x y true with
        | some x => some (x, m)
        | none => none
    | _, _ => none
  | .makeSlice t l c => match ρ l, ρ c, QaE m.nx with
    | some lv, some cv, true => match Qgq lv, Qgq cv with
      | some a, some b => match mkE P t a b with
        | some k => some (.s m.nx 0 a b, m.new k)
        | none => none
      | _, _ => none
    | _, _, _ => none
  | .makeMap t none => mkmE m t (QaE m.nx)
  | .insert t x k v => insE P m t (ρ x) (ρ k) (ρ v)
  | .lookup t x ix ok => lkE P m t (ρ x) (ρ ix) ok
  | .call ⟨.builtin .len, ⟨[x]⟩, ⟨[t]⟩⟩ => match ρ x, P.underlying t with
    | some (.s _ _ l _), some (.slice _) => some (.v (goInt l), m)
    | some (.r _ _ l _), some (.slice _) => some (.v (goInt l), m)
    | some (.z _ _ _), some (.slice _) => some (.v (goInt (0 : Nat)), m)
    | _, _ => match Qa9 P ρ o with
      | some x => some (x, m)
      | none => none
  | _ => match Qa9 P ρ o with
    | some x => some (x, m)
    | none => none
def Qea (P : Program) (w0 : World) (F : List RF) (B : Pl) (S : Nat → Prop) (nx : Nat) (o : Oper) (a : Act) (w : World) (x : SV) (m' : Mm) : Prop :=
  ∃ r w' B', (execOp a.eval o).run P w = .ok r w' ∧ (r = .value (den B' x) ∨ (r = .skip ∧ x = .v undef)) ∧ Ag nx m'.nx B B' ∧ nx ≤ m'.nx ∧ Re w0 F B' m'.K.get (ext S nx m'.nx) w' ∧ bd (ext S nx m'.nx) x
section
variable {P : Program} {w0 : World} {F : List RF} {B : Pl} {S : Nat → Prop} {m m' : Mm} {a : Act} {w : World} {ρ : Rho} {o : Oper} {x : SV}
def QbF (B : Pl) (nx : Nat → Prop) (a : Act) (ρ : Rho) : Prop := ∀ y v, ρ y = some v → a.eval y = den B v ∧ bd nx v
theorem Qaw (R : Re w0 F B m.K.get S w) (hb : bd S x) (h : (execOp a.eval o).run P w = .ok (.value (den B x)) w) : Qea P w0 F B S m.nx o a w x m :=
  ⟨_, w, B, h, Or.inl rfl, Ag.refl _ _ _, Nat.le_refl _, by rw [Qal]; exact R, by rw [Qal]; exact hb⟩
theorem QdW (R : Re w0 F B m.K.get S w) (hρ : QbF B S a ρ) (h : Qa9 P ρ o = some x) : Qea P w0 F B S m.nx o a w x m := by
  unfold Qa9 at h
  cases hs : SZ.notSel o.op with
  | false => rw [hs] at h; cases h
  | true =>
    rw [hs] at h
    simp only at h
    have hne : ∀ cs b, o.op ≠ .select cs b := fun cs b e => by rw [e] at hs; cases hs
    cases ha : o.op.operands.toList.all (isVE ρ) with
    | true =>
      rw [ha] at h
      simp only at h
      have he : execOp a.eval o = execOp (Qkf ρ) o := SZ.execOp_congr o (fun z hz => by
        have hv := (List.all_eq_true.1 ha) z hz
        unfold isVE at hv
        unfold Qkf
        cases hr : ρ z with
        | none => rw [hr] at hv; cases hv
        | some q =>
          rw [hr] at hv
          cases q with
          | v q => have := (hρ z _ hr).1; simpa [den] using this
          | _ => cases hv) hne
      cases hp : SZ.pev P (execOp (Qkf ρ) o) with
      | none => rw [hp] at h; cases h
      | some nx =>
        rw [hp] at h
        cases nx <;> simp only [reduceCtorEq, Option.some.injEq] at h
        subst h
        exact Qaw R (by simp [bd]) (by rw [he, SZ.pev_run _ hp w]; simp [den])
    | false =>
      rw [ha] at h
      simp only at h
      cases hy : o.op.operands.toList.all (isYE ρ) with
      | false => rw [hy] at h; cases h
      | true =>
        rw [hy] at h
        simp only at h
        have he : execOp a.eval o = execOp (Qkf ρ) o := SZ.execOp_congr o (fun z hz => by
          have hv := (List.all_eq_true.1 hy) z hz
          unfold isYE at hv
          unfold Qkf
          cases hr : ρ z with
          | none => rw [hr] at hv; cases hv
          | some q =>
            rw [hr] at hv
            cases q with
            | v q => have := (hρ z _ hr).1; simpa [den] using this
            | y q => have := (hρ z _ hr).1; simpa [den] using this
            | g l =>
              have := (hρ z _ hr).1
              obtain ⟨r, hr'⟩ := Option.isSome_iff_exists.1 hv
              simp only [hr']
              rw [this, den, QdT B hr']
            | _ => cases hv) hne
        cases hp : SZ.pev P (execOp (Qkf ρ) o) with
        | none => rw [hp] at h; cases h
        | some nx =>
          rw [hp] at h
          cases nx <;> simp only [reduceCtorEq, Option.some.injEq] at h
          subst h
          exact Qaw R (by simp [bd]) (by rw [he, SZ.pev_run _ hp w]; simp [den])
theorem QlZ (hρ : QbF B S a ρ) {z : Operand} (hv : isYE ρ z = true) : a.eval z = Qkf ρ z := by
  unfold isYE at hv
  unfold Qkf
  cases hr : ρ z with
  | none => rw [hr] at hv; cases hv
  | some q =>
    rw [hr] at hv
    cases q with
    | v q => have := (hρ z _ hr).1; simpa [den] using this
    | y q => have := (hρ z _ hr).1; simpa [den] using this
    | g l =>
      have := (hρ z _ hr).1
      obtain ⟨r, hr'⟩ := Option.isSome_iff_exists.1 hv
      simp only [hr']
      rw [this, den, QdT B hr']
    | _ => cases hv
theorem eqT_run {t : TypeId} {d : TypeDesc} {u v : Value} {c : Bool} (hu : P.underlying t = some d) (h : eqT d u v = some c) (n off : Nat) {xs ys : Array Value} (hx : xs[off]? = some u) (hy : ys[off]? = some v) (w : World) :
    (part t xs off).run P w = .ok u w ∧ (part t ys off).run P w = .ok v w ∧ (Op.equalIn (n + 1) t u v).run P w = .ok c w := by
  unfold eqT at h
  split at h
  · rename_i q k a k' b
    split at h
    · rename_i hk
      simp only [decide_eq_true_eq] at hk
      simp only [Option.some.injEq] at h
      subst hk; subst h
      exact ⟨by simp [part, isAgg, run_underlying hu, hx], by simp [part, isAgg, run_underlying hu, hy], run_equalIn_int w n t k q a b hu⟩
    · cases h
  · rename_i a b
    simp only [Option.some.injEq] at h
    subst h
    exact ⟨by simp [part, isAgg, run_underlying hu, hx], by simp [part, isAgg, run_underlying hu, hy], run_equalIn_bool' w n t a b hu⟩
  · rename_i a b
    simp only [Option.some.injEq] at h
    subst h
    exact ⟨by simp [part, isAgg, run_underlying hu, hx], by simp [part, isAgg, run_underlying hu, hy], run_equalIn_string w n t a b hu⟩
  · cases h
theorem Qjj {xs ys : Array Value} (n : Nat) (w : World) : ∀ (l : List Field) {c : Bool}, eqFs P xs ys l = some c → (Op.eqFields (n + 1) xs ys l).run P w = .ok c w
  | [], c, h => by
    simp only [eqFs, Option.some.injEq] at h
    subst h
    simp [Op.eqFields]
  | f :: l, c, h => by
    simp only [eqFs] at h
    split at h
    · rename_i d u v hd hx hy
      split at h
      · rename_i x y he hl hn
        simp only [Option.some.injEq] at h
        subst h
        obtain ⟨h1, h2, h3⟩ := eqT_run hd he n f.offset hx hy w
        have h4 := Qjj n w l hl
        have hn' : f.name ≠ "_" := by simpa using hn
        simp only [Op.eqFields, hn', ne_eq, not_false_eq_true, if_true, Sem.run_bind, h1, h2, h3, Result.andThen_ok]
        cases x with
        | false => simp
        | true => simpa using h4
      · cases h
    · cases h
theorem eqS_run {ty : TypeId} {u v : Value} {c : Bool} (h : eqS P ty u v = some c) (w : World) (y z : Operand) : (do eqGuard .eql ty y z u v; binOp .eql ty u v).run P w = .ok (.bool c) w ∧ (do eqGuard .neq ty y z u v; binOp .neq ty u v).run P w = .ok (.bool (!c)) w := by
  unfold eqS at h
  split at h
  · rename_i fields xs ys hu
    split at h
    · rename_i hs hg
      have hf : P.fieldsOf ty = fields := by unfold Program.fieldsOf; rw [hu]
      have hr := run_equalIn_struct w 9999 ty xs ys (by rw [hf]; exact hu) hs
      rw [hf, Qjj 9998 w fields.toList h] at hr
      refine ⟨?_, ?_⟩
      · rw [Sem.run_bind, run_eqGuard_agg w .eql ty y z xs ys hg]
        simp only [Result.andThen_ok]
        rw [run_eql_struct w ty xs ys, hr]
        rfl
      · rw [Sem.run_bind, run_eqGuard_agg w .neq ty y z xs ys hg]
        simp only [Result.andThen_ok]
        rw [run_neq_struct w ty xs ys, hr]
        rfl
    · cases h
  · cases h
theorem eqE_ok (R : Re w0 F B m.K.get S w) (hρ : QbF B S a ρ) {ty yt : TypeId} {y z : Operand} {ne : Bool} {v : SV} (ho : o.op = .binOp (match ne with
    | true => .neq
    | false => .eql) ty y z yt) (h : eqE P ρ o ty y z ne = some v) : Qea P w0 F B S m.nx o a w v m := by
  unfold eqE at h
  split at h
  · exact QdW R hρ h
  · split at h
    · rename_i hy
      simp only [Bool.and_eq_true] at hy
      split at h
      · rename_i c hc
        simp only [Option.some.injEq] at h
        subst h
        rw [← QlZ hρ hy.1, ← QlZ hρ hy.2] at hc
        obtain ⟨h1, h2⟩ := eqS_run hc w y z
        refine Qaw R (by simp [bd]) ?_
        cases ne with
        | false =>
          unfold execOp
          simp only [ho]
          rw [Sem.run_bind, h1]
          rfl
        | true =>
          unfold execOp
          simp only [ho]
          rw [Sem.run_bind, h2]
          rfl
      · exact QdW R hρ h
    · exact QdW R hρ h
theorem Qlf (R : Re w0 F B m.K.get S w) (hρ : QbF B S a ρ) (h : (match Qa9 P ρ o with
      | some x => some (x, m)
      | none => none) = some (x, m')) : Qea P w0 F B S m.nx o a w x m' := by
  cases hp : Qa9 P ρ o with
  | none => rw [hp] at h; cases h
  | some y =>
    rw [hp] at h
    simp only [Option.some.injEq, Prod.mk.injEq] at h
    obtain ⟨rfl, rfl⟩ := h
    exact QdW R hρ hp
theorem QcR {n : Nat → Prop} (hρ : QbF B n a ρ) : ∀ (l : List Operand) {c : List SV}, Qc5 ρ l = some c → l.map a.eval = Qam B c ∧ bdL n c
  | [], c, h => by simp [Qc5] at h; subst h; simp [Qam, bdL]
  | x :: l, c, h => by
    simp only [Qc5] at h
    cases hx : ρ x with
    | none => rw [hx] at h; cases h
    | some y =>
      rw [hx] at h
      cases hl : Qc5 ρ l with
      | none => rw [hl] at h; cases h
      | some c' =>
        rw [hl] at h
        simp only [Option.some.injEq] at h; subst h
        obtain ⟨h1, h2⟩ := QcR hρ l hl
        obtain ⟨h3, h4⟩ := hρ x y hx
        exact ⟨by simp [h1, h3, Qam], by simp [bdL, h2, h4]⟩
theorem Qcz {s : SV} {n : Nat} (h : Qgq s = some n) (B : Pl) : ∃ k, den B s = .int k (Int.ofNat n) := by
  unfold Qgq at h
  split at h
  · rename_i k n
    simp only [Option.some.injEq] at h; subst h; exact ⟨k, by simp [den]⟩
  · cases h
theorem Qa0 {ty : TypeId} {n : Nat} (h : Qcc P ty = some n) (w : World) : (sizeOf ty).run P w = .ok n w := SZ.run_info h w
theorem QiX {k : Bx} {v : SV} (R : Re w0 F B m.K.get S w) (ht : QaE m.nx = true) (hk : bdL S k.cs) (hv : bd (ext S m.nx (m.nx + 1)) v) (hz : k.sz = 0) (hS : ∀ j, S j → j < m.nx) (hd : ∀ B' : Pl, (B' m.nx).1 = w.heap.size → (∀ i, S i → B' i = B i) →
    (execOp a.eval o).run P w = .ok (.value (den B' v)) (w.alloc (.cells (Qam B k.cs).toArray k.ty (0, 0)))) (hm : k.mp = false := by rfl) (he : k.es = [] := by rfl) : Qea P w0 F B S m.nx o a w v (m.new k) := by
  obtain ⟨h1, h2⟩ := R.new k [] 0 ⟨hk, fun e => by rw [hm] at e; cases e⟩ (by simp [Qe4, hz]) hS
  rw [QdI hm he, List.append_nil] at h1
  refine ⟨_, _, _, hd (QbQ B m.nx (w.heap.size, 0)) (by simp [QbQ]) (h2.on hS), Or.inl rfl, h2, by simp [Mm.new], ?_, hv⟩
  unfold Mm.new
  simp only [Tr.get_set ht]
  exact h1
theorem QhD {β γ : Type} (f : β → γ) : ∀ (parts : List (Nat × Operand)) (g : Operand → γ) (c : List β), (parts.map (·.2)).map g = c.map f → ((parts.map (·.1)).zip c).map (fun q => (q.1, f q.2)) = parts.map fun q => (q.1, g q.2)
  | [], _, [], _ => rfl
  | [], _, _ :: _, h => by simp at h
  | q :: r, g, [], h => by simp at h
  | q :: r, g, y :: c, h => by
    simp only [List.map_cons, List.cons.injEq] at h
    simp [h.1, QhD f r g c h.2]
theorem QbP (b o k : Nat) : (⟨b, o, none⟩ : Addr).add k = ⟨b, o + k, none⟩ := by unfold Addr.add; split <;> simp_all
theorem Qkl {n : Nat → Prop} : ∀ (l : List Nat) (c : List SV), bdL n c → ∀ q ∈ l.zip c, bd n q.2
  | [], _, _, q, hq => by simp at hq
  | i :: l, [], _, q, hq => by simp at hq
  | i :: l, y :: c, h, q, hq => by
    simp only [bdL] at h
    simp only [List.zip_cons_cons, List.mem_cons] at hq
    rcases hq with rfl | hq
    · exact h.1
    · exact Qkl l c h.2 q hq
theorem bldE_run (B : Pl) {t : TypeId} {ps : List (Nat × SV)} {r : List SV} (h : bldE P t ps = some r) (w : World) : (Instr.build t (ps.map fun q => (q.1, den B q.2)).toArray).run P w = .ok (.agg (Qam B r).toArray) w := by
  unfold bldE at h
  cases hz : SZ.pev P (zeroValue t) with
  | none => rw [hz] at h; cases h
  | some z =>
    cases hu : P.underlying t with
    | none => rw [hz, hu] at h; cases h
    | some d =>
      rw [hz, hu] at h
      have hz' := SZ.pev_run _ hz w
      have hu' := run_underlying hu w
      have hzc : z.cells = (Qam B (z.cells.toList.map .v)).toArray := by rw [Qft]
      cases d <;> simp only [reduceCtorEq] at h
      case struct fields =>
        cases hp : SZ.pev P (fields.mapM fun f => do pure (f.offset, ← sizeOf f.type)) with
        | none => rw [hp] at h; cases h
        | some places =>
          rw [hp] at h
          simp only at h
          have hp' := SZ.pev_run _ hp w
          have hf := Qd6 B ps h
          rw [← hzc] at hf
          unfold Instr.build
          simp only [Sem.run_bind, hz', Result.andThen_ok, hu', hp', hf, Sem.run_pure]
      case array len elem =>
        cases hp : Qcc P elem with
        | none => rw [hp] at h; cases h
        | some size =>
          rw [hp] at h
          simp only at h
          have hf := Qd6 B ps h
          rw [← hzc] at hf
          unfold Instr.build
          simp only [Sem.run_bind, hz', Result.andThen_ok, hu', Qa0 hp, hf, Sem.run_pure]
theorem bldE_bd {n : Nat → Prop} {t : TypeId} {ps : List (Nat × SV)} {r : List SV} (h : bldE P t ps = some r) (hb : ∀ q ∈ ps, bd n q.2) : bdL n r := by
  unfold bldE at h
  split at h
  · split at h
    · exact QeP ps h (Qhv _ _) hb
    · cases h
  · split at h
    · exact QeP ps h (Qhv _ _) hb
    · cases h
  · cases h
theorem bslE_run (B : Pl) {t : TypeId} {len : Nat} {ps : List (Nat × SV)} {k : Bx} (h : Qkh P t len ps = some k) (w : World) : (Instr.buildSlice t len (ps.map fun q => (q.1, den B q.2)).toArray).run P w = .ok (.slice (some ⟨w.heap.size, 0, none⟩) len len) (w.alloc (.cells (Qam B k.cs).toArray k.ty (0, 0))) := by
  unfold Qkh at h
  cases hu : P.underlying t with
  | none => rw [hu] at h; cases h
  | some d =>
    rw [hu] at h
    cases d <;> simp only [reduceCtorEq] at h
    rename_i elem
    cases hi : Qcc P elem with
    | none => rw [hi] at h; simp at h
    | some size =>
      cases hz : SZ.pev P (zeroValue elem) with
      | none => rw [hi, hz] at h; simp at h
      | some z =>
        rw [hi, hz] at h
        simp only at h
        cases hc : (Nat.beq (len * size) 0 || Nat.blt (2 ^ 24) (len * size)) with
        | true =>
          rw [hc] at h
          simp only at h
          split at h
          · rename_i hb
            have h1 := Nat.eq_of_beq_eq_true hb
            have h2 : ¬ len * size > 2 ^ 24 := by omega
            simp only [Option.some.injEq] at h
            subst h
            have hf' : Instr.fill (fun i => some (i * size, size)) ((Array.range (len * size)).map ((#[] : Array Value)[· % (#[] : Array Value).size]!)) (([] : List (Nat × SV)).map fun q => (q.1, den B q.2)) = some #[] := by
              rw [h1]
              simp [Instr.fill]
            simp only [Instr.buildSlice, Sem.run_bind, run_underlying hu w, Result.andThen_ok, Qa0 hi, if_neg h2, if_pos h1, Sem.run_pure, hf', newRow, newObj]
            rfl
          · cases h
        | false =>
          rw [hc] at h
          simp only at h
          simp only [Bool.or_eq_false_iff] at hc
          have h1 : ¬ len * size = 0 := fun e => by have := hc.1; rw [e] at this; cases this
          have h2 : ¬ len * size > 2 ^ 24 := fun e => by
            have := hc.2
            rw [show Nat.blt (2 ^ 24) (len * size) = true from by rw [Nat.blt, Nat.ble_eq]; exact e] at this; cases this
          cases hf : Qfr (fun i => some (i * size, size)) (((Array.range (len * size)).map (z.cells[· % z.cells.size]!)).toList.map .v) ps with
          | none => rw [hf] at h; cases h
          | some cells =>
            rw [hf] at h
            simp only [Option.some.injEq] at h
            subst h
            have hf' := Qd6 B ps hf
            rw [Qft] at hf'
            have e : ((Array.range (len * size)).map (z.cells[· % z.cells.size]!)).toList.toArray = (Array.range (len * size)).map (z.cells[· % z.cells.size]!) := Array.toArray_toList
            rw [e] at hf'
            simp only [Instr.buildSlice, Sem.run_bind, run_underlying hu w, Result.andThen_ok, Qa0 hi, if_neg h2, if_neg h1, Sem.run_pure, SZ.pev_run _ hz, hf', newRow, newObj]
            rfl
theorem bslE_bd {n : Nat → Prop} {t : TypeId} {len : Nat} {ps : List (Nat × SV)} {k : Bx} (h : Qkh P t len ps = some k) (hb : ∀ q ∈ ps, bd n q.2) : bdL n k.cs := by
  unfold Qkh at h
  repeat' (split at h)
  all_goals (try (cases h; done))
  · simp only [Option.some.injEq] at h
    subst h
    simp [bdL]
  rename_i hf
  simp only [Option.some.injEq] at h
  subst h
  exact QeP ps hf (Qhv _ _) hb
section
variable {t : TypeId} {len : Nat} {ps : List (Nat × SV)} {k : Bx} (h : Qkh P t len ps = some k)
include t len ps k h
theorem bslE_sz : k.sz = 0 := by
  unfold Qkh at h
  repeat' (split at h)
  all_goals (try (cases h; done))
  all_goals
    simp only [Option.some.injEq] at h
    subst h
    rfl
theorem bslE_es : k.es = [] := by
  unfold Qkh at h
  repeat' (split at h)
  all_goals (try (cases h; done))
  all_goals
    simp only [Option.some.injEq] at h
    subst h
    rfl
end
theorem mkE_es {t : TypeId} {a b : Nat} {k : Bx} (h : mkE P t a b = some k) : k.es = [] := by
  unfold mkE at h
  repeat' (split at h)
  all_goals (try (cases h; done))
  all_goals
    simp only [Option.some.injEq] at h
    subst h
    rfl
theorem bslE_mp {t : TypeId} {len : Nat} {ps : List (Nat × SV)} {k : Bx} (h : Qkh P t len ps = some k) : k.mp = false := by
  unfold Qkh at h
  repeat' (split at h)
  all_goals (try (cases h; done))
  all_goals
    simp only [Option.some.injEq] at h
    subst h
    rfl
theorem mkE_mp {t : TypeId} {a b : Nat} {k : Bx} (h : mkE P t a b = some k) : k.mp = false := by
  unfold mkE at h
  repeat' (split at h)
  all_goals (try (cases h; done))
  all_goals
    simp only [Option.some.injEq] at h
    subst h
    rfl
theorem fldE_run (B : Pl) {t : TypeId} {cs : List SV} {f : Nat} {x : SV} (h : fldE P t cs f = some x) (w : World) : (Instr.field t (.agg (Qam B cs).toArray) f).run P w = .ok (den B x) w := by
  unfold fldE at h
  cases hu : P.underlying t with
  | none => rw [hu] at h; cases h
  | some d =>
    rw [hu] at h
    cases d <;> simp only [reduceCtorEq] at h
    rename_i fields
    cases hf : fields[f]? with
    | none => rw [hf] at h; cases h
    | some fl =>
      rw [hf] at h
      simp only at h
      cases hd : P.underlying fl.type with
      | none => rw [hd] at h; cases h
      | some d =>
        cases hi : Qcc P fl.type with
        | none => rw [hd, hi] at h; cases h
        | some n =>
          rw [hd, hi] at h
          simp only at h
          have hagg : (isAgg fl.type).run P w = .ok d.isRow w := by
            unfold isAgg
            rw [Sem.run_bind, run_underlying hd w]
            cases d <;> rfl
          simp only [Instr.field, Sem.run_bind, run_underlying hu w, Result.andThen_ok, hf, asAgg, Sem.run_pure, part, hagg]
          cases hr : d.isRow with
          | true =>
            rw [hr] at h
            simp only [Option.some.injEq] at h
            subst h
            simp only [if_true, Sem.run_bind, Qa0 hi, Result.andThen_ok, Sem.run_pure, Qde]
            congr 2
            apply Array.ext'
            simp [QaI, List.extract_eq_take_drop, List.map_take, List.map_drop]
          | false =>
            rw [hr] at h
            simp only at h
            have hl := (List.getElem?_eq_some_iff.1 h).1
            have e := (List.getElem?_eq_some_iff.1 h).2
            have he : (Qam B cs).toArray[fl.offset]? = some (den B x) := by simp [QaI, hl, e]
            simp only [Bool.false_eq_true, if_false, he, Sem.run_pure]
theorem elE_run (B : Pl) {t : TypeId} {cs : List SV} {n : Nat} {x : SV} (h : elE P t cs n = some x) (k : IntKind) (w : World) : (Instr.index t (.agg (Qam B cs).toArray) (.int k (Int.ofNat n))).run P w = .ok (den B x) w := by
  unfold elE at h
  cases hu : P.underlying t with
  | none => rw [hu] at h; cases h
  | some d =>
    rw [hu] at h
    cases d <;> simp only [reduceCtorEq] at h
    rename_i len elem
    split at h
    · rename_i d size hb hd hi
      have hlt : n < len := by rw [Nat.blt, Nat.ble_eq] at hb; exact hb
      have hagg : (isAgg elem).run P w = .ok d.isRow w := by
        unfold isAgg
        rw [Sem.run_bind, run_underlying hd w]
        cases d <;> rfl
      have hc : (0 ≤ (Int.ofNat n) ∧ (Int.ofNat n) < (len : Int)) := ⟨Int.natCast_nonneg n, by simpa using hlt⟩
      have htn : (Int.ofNat n).toNat = n := rfl
      simp only [Instr.index, asIntOf, Sem.run_bind, Sem.run_pure, Result.andThen_ok, run_underlying hu w, if_pos hc, Qa0 hi, htn, part, hagg]
      cases hr : d.isRow with
      | true =>
        rw [hr] at h
        simp only [Option.some.injEq] at h
        subst h
        simp only [if_true, Sem.run_bind, Qa0 hi, Result.andThen_ok, Sem.run_pure, Qde]
        congr 2
        apply Array.ext'
        simp [QaI, List.extract_eq_take_drop, List.map_take, List.map_drop]
      | false =>
        rw [hr] at h
        simp only at h
        have hl := (List.getElem?_eq_some_iff.1 h).1
        have e := (List.getElem?_eq_some_iff.1 h).2
        have he : (Qam B cs).toArray[n * size]? = some (den B x) := by simp [QaI, hl, e]
        simp only [Bool.false_eq_true, if_false, he, Sem.run_pure]
    · cases h
theorem elE_bd {q : Nat → Prop} {t : TypeId} {cs : List SV} {n : Nat} {x : SV} (h : elE P t cs n = some x) (hb : bdL q cs) : bd q x := by
  unfold elE at h
  repeat' (split at h)
  all_goals (try (cases h; done))
  · simp only [Option.some.injEq] at h
    subst h
    exact QdZ (QaK.2 fun x hx => QaK.1 hb x (List.mem_of_mem_drop (List.mem_of_mem_take hx)))
  · exact QaK.1 hb x (List.mem_of_getElem? h)
theorem fldE_bd {n : Nat → Prop} {t : TypeId} {cs : List SV} {f : Nat} {x : SV} (h : fldE P t cs f = some x) (hb : bdL n cs) : bd n x := by
  unfold fldE at h
  repeat' (split at h)
  all_goals (try (cases h; done))
  · simp only [Option.some.injEq] at h
    subst h
    refine QdZ (QaK.2 fun x hx => QaK.1 hb x (List.mem_of_mem_drop (List.mem_of_mem_take hx)))
  · exact QaK.1 hb x (List.mem_of_getElem? h)
theorem Qcb (hρ : QbF B S a ρ) (w : World) (x : Option Operand) (d top n : Nat) (hx : QdM (x.map ρ) d top = some n) : (x.map a.eval = none ∧ n = d) ∨ ∃ v, x.map a.eval = some v ∧ n ≤ top ∧ ∀ top' code, top ≤ top' → (Instr.sliceBound v top' code).run P w = .ok n w := by
  cases x with
  | none => simp only [Option.map_none, QdM, Option.some.injEq] at hx; exact Or.inl ⟨rfl, hx.symm⟩
  | some x =>
    simp only [Option.map_some, QdM] at hx
    cases hr : ρ x with
    | none => rw [hr] at hx; cases hx
    | some s =>
      rw [hr] at hx
      simp only at hx
      cases hn : Qgq s with
      | none => rw [hn] at hx; cases hx
      | some k =>
        rw [hn] at hx
        simp only at hx
        cases hb' : Nat.ble k top with
        | false => rw [hb'] at hx; cases hx
        | true =>
          rw [hb'] at hx
          simp only [Option.some.injEq] at hx
          subst hx
          obtain ⟨q, hq⟩ := Qcz hn B
          have he := (hρ x s hr).1
          have hle : k ≤ top := by simpa using hb'
          refine Or.inr ⟨.int q (Int.ofNat k), by simp only [Option.map_some, he, hq], hle, fun top' code ht => ?_⟩
          simp only [Instr.sliceBound, asIntOf, Sem.run_bind, Sem.run_pure, Result.andThen_ok]
          rw [if_pos (by simp; omega)]
          rfl
theorem QgI (hρ : QbF B S a ρ) (w : World) {lo hi : Option Operand} {l c c' hv lv : Nat} (hcc : c ≤ c') (hh : QdM (hi.map ρ) l c = some hv) (hl : QdM (lo.map ρ) 0 hv = some lv) :
    (Instr.sliceBounds true l c' (lo.map a.eval) (hi.map a.eval) none).run P w = .ok (lv, hv, c') w := by
  unfold Instr.sliceBounds
  rcases Qcb (P := P) hρ w hi l c hv hh with ⟨e1, e1'⟩ | ⟨v1, e1, _, f1⟩
  · rcases Qcb (P := P) hρ w lo 0 hv lv hl with ⟨e2, e2'⟩ | ⟨v2, e2, _, f2⟩
    · rw [e1, e2, e1', e2']; rfl
    · rw [e1, e2]
      simp only [Sem.run_bind, Sem.run_pure, Result.andThen_ok]
      rw [← e1', f2 _ _ (Nat.le_refl _)]; rfl
  · rcases Qcb (P := P) hρ w lo 0 hv lv hl with ⟨e2, e2'⟩ | ⟨v2, e2, _, f2⟩
    · rw [e1, e2, e2']
      simp only [Sem.run_bind, Sem.run_pure, Result.andThen_ok, f1 _ _ hcc]
    · rw [e1, e2]
      simp only [Sem.run_bind, Sem.run_pure, Result.andThen_ok, f1 _ _ hcc, f2 _ _ (Nat.le_refl _)]
theorem Qdn {a b : Nat} (h : a ≠ b) : Nat.beq a b = false := by
  cases hq : Nat.beq a b with
  | false => rfl
  | true => exact absurd (Nat.eq_of_beq_eq_true hq) h
theorem QhL (hρ : QbF B S a ρ) {t : TypeId} {x : SV} {lo hi mx : Option Operand} {z : SV} (hb : bd S x) (h : QkL P ρ t x lo hi mx = some z) :
    (Instr.sliceAt t (den B x) (lo.map a.eval) (hi.map a.eval) (mx.map a.eval)).run P w = .ok (den B z) w ∧ bd S z := by
  unfold QkL at h
  split at h
  · rename_i elem i off l c hu
    cases hh : QdM (hi.map ρ) l c with
    | none => rw [hh] at h; simp at h
    | some hv =>
      cases hs : Qcc P elem with
      | none => rw [hh, hs] at h; simp at h
      | some size =>
        rw [hh, hs] at h
        simp only at h
        cases hl : QdM (lo.map ρ) 0 hv with
        | none => rw [hl] at h; cases h
        | some lv =>
          rw [hl] at h
          simp only [Option.some.injEq] at h
          subst h
          have hbs := QgI (P := P) hρ w (Nat.le_refl c) hh hl
          refine ⟨?_, by simpa [bd] using hb⟩
          simp only [den, Instr.sliceAt, Sem.run_bind, run_underlying hu w, Result.andThen_ok, Instr.slice, Option.map_none, Sem.run_pure, hbs, Qa0 hs]
          congr 2
          by_cases hc : c = lv
          · subst hc
            rw [if_pos rfl]
            simp [Nat.beq_refl]
          · rw [if_neg hc, Qdn hc]
            simp [QbP]
  · rename_i elem i off l c hu
    cases hh : QdM (hi.map ρ) l c with
    | none => rw [hh] at h; simp at h
    | some hv =>
      cases hs : Qcc P elem with
      | none => rw [hh, hs] at h; simp at h
      | some size =>
        rw [hh, hs] at h
        simp only at h
        cases hl : QdM (lo.map ρ) 0 hv with
        | none => rw [hl] at h; cases h
        | some lv =>
          rw [hl] at h
          have hbs := QgI (P := P) hρ w (c' := (B i).2 + c) (by omega) hh hl
          have hr : ∀ v, Value.slice (if (B i).2 + c = lv then some ⟨(B i).1, off, none⟩ else some ⟨(B i).1, off + lv * size, none⟩) (hv - lv) ((B i).2 + c - lv) = v → (Instr.sliceAt t (den B (.r i off l c)) (lo.map a.eval) (hi.map a.eval) none).run P w = .ok v w := by
            rintro v rfl
            simp only [den, Instr.sliceAt, Sem.run_bind, run_underlying hu w, Result.andThen_ok, Instr.slice, Option.map_none, Sem.run_pure, hbs, Qa0 hs]
            simp [QbP]
          have hlh : lv ≤ hv := by
            rcases Qcb (P := P) hρ w lo 0 hv lv hl with ⟨_, e2'⟩ | ⟨_, _, f, _⟩ <;> omega
          cases hx : Nat.ble hv c with
          | false => rw [hx] at h; cases h
          | true =>
            rw [hx] at h
            simp only [Option.some.injEq] at h
            have hx' : hv ≤ c := by simpa using hx
            cases hc : Nat.beq c lv with
            | true =>
              rw [hc] at h
              simp only at h
              subst h
              have hc' : c = lv := Nat.eq_of_beq_eq_true hc
              have hhv : hv = lv := by omega
              refine ⟨hr _ ?_, by simpa [bd] using hb⟩
              simp only [den]
              congr 1
              · by_cases h0 : (B i).2 = 0
                · rw [if_pos (by omega), if_pos h0]
                · rw [if_neg (by omega), if_neg h0]
              · omega
              · omega
            | false =>
              rw [hc] at h
              simp only at h
              subst h
              have hc' : c ≠ lv := fun e => by rw [e, Nat.beq_refl] at hc; cases hc
              refine ⟨hr _ ?_, by simpa [bd] using hb⟩
              simp only [den]
              rw [if_neg (by omega)]
              congr 1
              omega
  · rename_i elem i off q hu
    cases hh : QdM (hi.map ρ) 0 0 with
    | none => rw [hh] at h; simp at h
    | some hv =>
      cases hs : Qcc P elem with
      | none => rw [hh, hs] at h; simp at h
      | some size =>
        rw [hh, hs] at h
        simp only at h
        cases hl : QdM (lo.map ρ) 0 hv with
        | none => rw [hl] at h; cases h
        | some lv =>
          rw [hl] at h
          simp only [Option.some.injEq] at h
          subst h
          have hbs := QgI (P := P) hρ w (c' := (B i).2) (by omega) hh hl
          have h0 : hv = 0 := by
            rcases Qcb (P := P) hρ w hi 0 0 hv hh with ⟨_, e2'⟩ | ⟨_, _, f, _⟩ <;> omega
          subst h0
          have h1 : lv = 0 := by
            rcases Qcb (P := P) hρ w lo 0 0 lv hl with ⟨_, e2'⟩ | ⟨_, _, f, _⟩ <;> omega
          subst h1
          refine ⟨?_, hb⟩
          simp only [den, Instr.sliceAt, Sem.run_bind, run_underlying hu w, Result.andThen_ok, Instr.slice, Option.map_none, Sem.run_pure, hbs, Qa0 hs]
          simp [QbP]
  · cases h
theorem mkE_run (B : Pl) {t : TypeId} {a b : Nat} {k : Bx} (h : mkE P t a b = some k) (kl kc : IntKind) (w : World) : (Instr.makeSlice t (.int kl (Int.ofNat a)) (.int kc (Int.ofNat b))).run P w = .ok (.slice (some ⟨w.heap.size, 0, none⟩) a b) (w.alloc (.cells (Qam B k.cs).toArray k.ty (0, 0))) ∧ k.sz = 0 ∧ ∀ S : Nat → Prop, bdL S k.cs := by
  unfold mkE at h
  cases hu : P.underlying t with
  | none => rw [hu] at h; cases h
  | some d =>
    rw [hu] at h
    cases d <;> (try (cases h; done))
    rename_i e
    simp only at h
    cases hi : P.info? e with
    | none => rw [hi] at h; cases h
    | some i =>
      rw [hi] at h
      simp only at h
      cases hz : i.zero with
      | none => rw [hz] at h; cases h
      | some z =>
        rw [hz] at h
        simp only at h
        cases hc : (Nat.ble a b && Nat.ble b 100000 && Nat.ble i.bytes 100000) with
        | false => rw [hc] at h; cases h
        | true =>
          rw [hc] at h
          simp only [Option.some.injEq] at h
          subst h
          simp only [Bool.and_eq_true, Nat.ble_eq] at hc
          obtain ⟨⟨h1, h2⟩, h3⟩ := hc
          have hb : i.bytes * b ≤ 100000 * 100000 := Nat.mul_le_mul h3 h2
          have hr := run_make (P := P) w t e i z hu hi hz kl kc (Int.ofNat a) (Int.ofNat b) (by simp) (by simpa using h1) (by simp only [Int.ofNat_eq_natCast]; rw [← Int.natCast_mul]; omega) (by simp; omega)
          refine ⟨?_, rfl, fun S => Qhv _ _⟩
          rw [hr, Qft]
          have e : madeCells z.cells ((Int.ofNat b).toNat * i.size) = ((List.range (b * i.size)).map fun j => z.cells[j % z.cells.size]!).toArray := by
            apply Array.ext'
            simp [madeCells]
          rw [e]
          rfl
theorem Qhc {t : TypeId} {u v : SV} (h : Qh8 P t u v = true) (B : Pl) (x y : Operand) (op : BinOp) (hop : op = .eql ∨ op = .neq) (w : World) :
    (do eqGuard op t x y (den B u) (den B v); binOp op t (den B u) (den B v) : Sem Value).run P w = .ok (.bool (op == .neq)) w := by
  unfold Qh8 at h
  cases hu : P.underlying t with
  | none => rw [hu] at h; cases h
  | some d =>
    rw [hu] at h
    obtain ⟨dd, hd⟩ : ∃ dd, Op.maxDepth = dd + 1 := ⟨9999, rfl⟩
    have key : ∀ X Y : Value, (eqGuard op t x y X Y).run P w = .ok () w → (Op.equalIn (dd + 1) t X Y).run P w = .ok false w → (binOp op t X Y = if op = .eql then (do pure (.bool (← Op.equal t X Y))) else do pure (.bool (!(← Op.equal t X Y)))) →
        (do eqGuard op t x y X Y; binOp op t X Y : Sem Value).run P w = .ok (.bool (op == .neq)) w := by
      intro X Y h1 h2 h3
      rw [Sem.run_bind, h1, Result.andThen_ok, h3]
      unfold Op.equal
      rw [hd]
      rcases hop with rfl | rfl
      · rw [if_pos rfl, Sem.run_bind, h2]; rfl
      · rw [if_neg (by simp), Sem.run_bind, h2]; rfl
    split at h <;> (try (cases h; done)) <;> rename_i he <;> cases he <;> refine key _ _ ?_ ?_ ?_
    all_goals first
      | (simp only [Op.equalIn, den, Sem.run_bind, run_underlying hu w, Result.andThen_ok]; rfl)
      | (rcases hop with rfl | rfl <;> simp only [den] <;> rfl)
end
end Go.Proofs.Ytfhmdlihnidjoaa.EX
