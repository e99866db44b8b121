
/-
  A walk by computation, with several foreign variables that may change: the state of a call as data (slots, own variables), operations run on it, and why that is sound.
-/
import Derived.WalkKit
import Derived.Deep.MidRow
import Derived.Deep.RegionHeld
import Derived.LoopN
import Derived.Laws.AppendOwn
import Derived.Below
import Derived.ProofKit
import Derived.OpenShut
import Derived.KernelRfl
namespace Go.Proofs.YtfkmcibglaiakaaDoor.SZ
open Go Go.RowKit
set_option linter.unusedVariables false
set_option linter.unusedSectionVars false
set_option linter.unusedSimpArgs false
set_option maxRecDepth 10000

/-! ### Values -/
/-- A value as the walk knows it: i numbers the walk's own variables. -/
inductive SV where
  | v (x : Value)
  | p (i o : Nat)
  | s (i o l c : Nat)
  | f (fn : FuncId) (caps : List (Nat × Nat))
def adr (bs : List Nat) (i o : Nat) : Addr := ⟨bs.getD i 0, o, none⟩
def den (bs : List Nat) : SV → Value
  | .v x => x
  | .p i o => .pointer (some (adr bs i o))
  | .s i o l c => .slice (some (adr bs i o)) l c
  | .f fn caps => .func (.func fn) #[] (caps.map fun q => Value.pointer (some (adr bs q.1 q.2))).toArray
def SV.ok (n : Nat) : SV → Prop
  | .v _ => True
  | .p i _ => i < n
  | .s i _ _ _ => i < n
  | .f _ caps => ∀ q ∈ caps, q.1 < n
theorem SV.ok_mono {n m : Nat} {x : SV} (h : x.ok n) (hm : n ≤ m) : x.ok m := by
  cases x with
  | v x => trivial
  | p i o => exact Nat.lt_of_lt_of_le h hm
  | s i o l c => exact Nat.lt_of_lt_of_le h hm
  | f fn caps => exact fun q hq => Nat.lt_of_lt_of_le (h q hq) hm
theorem adr_app {bs cs : List Nat} {i o : Nat} (h : i < bs.length) : adr (bs ++ cs) i o = adr bs i o := by
  unfold adr; congr 1; simp [List.getD, List.getElem?_append_left h]
theorem den_app {bs cs : List Nat} {x : SV} (h : x.ok bs.length) : den (bs ++ cs) x = den bs x := by
  cases x with
  | v x => rfl
  | p i o => simp only [den]; rw [adr_app h]
  | s i o l c => simp only [den]; rw [adr_app h]
  | f fn caps =>
    simp only [den]; congr 2
    exact List.map_congr_left fun q hq => by rw [adr_app (h q hq)]

/-- A variable of the walk's own: its type and its cells. -/
structure Bx where
  ty : TypeId
  cs : List Value
structure SS where
  n : Nat
  T : List (Nat × SV)
  K : List Bx
def SS.get (s : SS) (t : Nat) : Option SV := s.T.lookup t
def SS.put (s : SS) (d : Option Nat) (x : SV) : SS :=
  match d with
  | none => s
  | some d => if d < s.n then { s with T := (d, x) :: s.T } else { s with T := s.T.filter fun q => q.1 != d }
def SS.val (s : SS) : Operand → Option SV
  | .tmp t => s.get t
  | .const v => some (.v v)
  | .func f => some (.v (.func (.func f) #[] #[]))
  | .global _ => none
def SS.env (s : SS) (x : Operand) : Value :=
  match s.val x with
  | some (.v y) => y
  | _ => undef
def SS.isV (s : SS) (x : Operand) : Bool :=
  match s.val x with
  | some (.v _) => true
  | _ => false

/-- What is known of memory outside the walk's own variables: a fact that speaks of the blocks bl alone. -/
structure RF where
  bl : Nat → Prop
  P : World → Prop
  lt : ∀ w, P w → ∀ b, bl b → b < w.heap.size
  st : ∀ w w', P w → (∀ b, bl b → w'.heap[b]? = w.heap[b]?) → P w'

/-- What is deferred. -/
class DF where
  d : List Deferred
instance (priority := low) noDF : DF := ⟨[]⟩
/-- The slots that the results are read from: what only reads never lays anything there. -/
class KP where
  keep : List Nat
instance (priority := low) noKP : KP := ⟨[]⟩
/-- The world goes on: blocks that were there are as they were, but these. -/
structure Gr (w w' : World) (r : List Nat) : Prop where
  os : w'.os = w.os
  tape : w'.tape = w.tape
  output : w'.output = w.output
  size : w.heap.size ≤ w'.heap.size
  block : ∀ k, k < w.heap.size → k ∉ r → w'.heap[k]? = w.heap[k]?
structure Sy [DF] (w0 : World) (r : List Nat) (bs : List Nat) (s : SS) (F : List RF) (a : Act) (w : World) : Prop where
  df : a.defers = DF.d
  sz : a.tmps.size = s.n
  tm : ∀ t x, s.get t = some x → a.tmps[t]? = some (den bs x) ∧ x.ok bs.length
  bl : bs.length = s.K.length
  bx : ∀ i k, s.K[i]? = some k → w.heap[bs.getD i 0]? = some (.cells k.cs.toArray k.ty (0, 0))
  nd : ∀ i j, i < bs.length → j < bs.length → bs.getD i 0 = bs.getD j 0 → i = j
  lo : ∀ i, i < bs.length → w0.heap.size ≤ bs.getD i 0 ∨ bs.getD i 0 ∈ r
  fs : ∀ f ∈ F, f.P w ∧ ∀ i, i < bs.length → ¬f.bl (bs.getD i 0)
  gr : Gr w0 w r

section
variable [DF]
variable {P : Program} {w0 : World} {r : List Nat} {bs : List Nat} {s : SS} {F : List RF} {a : Act} {w : World}

theorem Sy.val (S : Sy w0 r bs s F a w) {x : Operand} {y : SV} (h : s.val x = some y) : a.eval x = den bs y ∧ y.ok bs.length := by
  cases x with
  | tmp t =>
    obtain ⟨h1, h2⟩ := S.tm t y h
    exact ⟨by simp [Act.eval, Array.getD_eq_getD_getElem?, h1], h2⟩
  | const v => simp only [SS.val, Option.some.injEq] at h; subst h; exact ⟨rfl, trivial⟩
  | global g => simp [SS.val] at h
  | func f => simp only [SS.val, Option.some.injEq] at h; subst h; exact ⟨rfl, trivial⟩
theorem Sy.env (S : Sy w0 r bs s F a w) {x : Operand} (h : s.isV x = true) : a.eval x = s.env x := by
  unfold SS.isV at h
  unfold SS.env
  cases hx : s.val x with
  | none => rw [hx] at h; cases h
  | some y =>
    rw [hx] at h
    cases y with
    | v y => exact (S.val hx).1
    | _ => cases h
theorem lookup_filter {T : List (Nat × SV)} {d t : Nat} {x : SV} (h : (T.filter fun q => q.1 != d).lookup t = some x) : t ≠ d ∧ T.lookup t = some x := by
  induction T with
  | nil => simp at h
  | cons q T ih =>
    by_cases hq : q.1 = d
    · have e : (q.1 != d) = false := by simp [hq]
      rw [List.filter_cons, e] at h
      simp only [Bool.false_eq_true, if_false] at h
      obtain ⟨h1, h2⟩ := ih h
      refine ⟨h1, ?_⟩
      rw [List.lookup_cons, show (t == q.1) = false by simp; omega]
      exact h2
    · have e : (q.1 != d) = true := by simp [hq]
      rw [List.filter_cons, e] at h
      simp only [if_true] at h
      rw [List.lookup_cons] at h ⊢
      cases ht : (t == q.1) with
      | true => rw [ht] at h; simp at ht; exact ⟨by omega, h⟩
      | false => rw [ht] at h; exact ih h
theorem Sy.put (S : Sy w0 r bs s F a w) (d : Option Nat) {x : SV} (hx : x.ok bs.length) : Sy w0 r bs (s.put d x) F (a.put d (den bs x)) w := by
  cases d with
  | none => exact S
  | some d =>
    unfold SS.put Act.put
    simp only
    split
    · rename_i hd
      refine ⟨S.df, by simp [S.sz], fun t y h => ?_, S.bl, S.bx, S.nd, S.lo, S.fs, S.gr⟩
      unfold SS.get at h
      simp only [List.lookup_cons] at h
      cases ht : (t == d) with
      | true =>
        rw [ht] at h; simp at ht; subst ht
        simp only [Option.some.injEq] at h; subst h
        exact ⟨by simp [S.sz, hd], hx⟩
      | false =>
        rw [ht] at h; simp at ht
        have := S.tm t y h
        exact ⟨by rw [Array.getElem?_setIfInBounds_ne (by omega)]; exact this.1, this.2⟩
    · refine ⟨S.df, by simp [S.sz], fun t y h => ?_, S.bl, S.bx, S.nd, S.lo, S.fs, S.gr⟩
      obtain ⟨h1, h2⟩ := lookup_filter (T := s.T) h
      have := S.tm t y h2
      exact ⟨by rw [Array.getElem?_setIfInBounds_ne (by omega)]; exact this.1, this.2⟩

/-! ### The world -/
theorem Sy.lt (S : Sy w0 r bs s F a w) {i : Nat} (h : i < bs.length) : bs.getD i 0 < w.heap.size := by
  have hk : i < s.K.length := by rw [← S.bl]; exact h
  have := S.bx i _ (List.getElem?_eq_getElem hk)
  rcases Nat.lt_or_ge (bs.getD i 0) w.heap.size with h1 | h1
  · exact h1
  · rw [Array.getElem?_eq_none h1] at this; cases this
/-- The world grows; the walk's own variables stay. -/
theorem Sy.below (S : Sy w0 r bs s F a w) {w' : World} (hb : Below w.heap.size w w') : Sy w0 r bs s F a w' := by
  have hk : ∀ i, i < bs.length → w'.heap[bs.getD i 0]? = w.heap[bs.getD i 0]? := fun i hi => hb.block _ (S.lt hi)
  refine ⟨S.df, S.sz, S.tm, S.bl, fun i k h => ?_, S.nd, S.lo, fun f hf => ?_, ?_⟩
  · have hi : i < bs.length := by rw [S.bl]; exact (List.getElem?_eq_some_iff.1 h).1
    rw [hk i hi]; exact S.bx i k h
  · obtain ⟨h1, h2⟩ := S.fs f hf
    exact ⟨f.st w w' h1 (fun b hb' => hb.block b (f.lt w h1 b hb')), h2⟩
  · have g := S.gr
    exact ⟨hb.os.trans g.os, hb.tape.trans g.tape, hb.output.trans g.output, Nat.le_trans g.size hb.size, fun k hk hne => (hb.block k (Nat.lt_of_lt_of_le hk g.size)).trans (g.block k hk hne)⟩
theorem getD_snoc {bs : List Nat} {b i : Nat} : (bs ++ [b]).getD i 0 = if i < bs.length then bs.getD i 0 else if i = bs.length then b else 0 := by
  split
  · rename_i h; simp [List.getD, List.getElem?_append_left h]
  · rename_i h
    split
    · rename_i h2; subst h2; simp [List.getD]
    · rename_i h2; simp [List.getD, List.getElem?_append_right (Nat.le_of_not_lt h)]; rw [List.getElem?_eq_none (by simp; omega)]; rfl
/-- A new variable of the walk's own. -/
def SS.new (s : SS) (k : Bx) : SS := { s with K := s.K ++ [k] }
theorem Sy.new (S : Sy w0 r bs s F a w) (k : Bx) : Sy w0 r (bs ++ [w.heap.size]) (s.new k) F a (w.alloc (.cells k.cs.toArray k.ty (0, 0))) := by
  have hb : Below w.heap.size w (w.alloc (.cells k.cs.toArray k.ty (0, 0))) := (Below.refl _ _).alloc (Nat.le_refl _) _
  have S' := S.below hb
  have hl : (bs ++ [w.heap.size]).length = bs.length + 1 := by simp
  have hlt : ∀ i, i < bs.length → bs.getD i 0 < w.heap.size := fun i hi => S.lt hi
  refine ⟨S'.df, S'.sz, fun t x h => ?_, by simp [SS.new, S.bl], fun i k' h => ?_, fun i j hi hj he => ?_, fun i hi => ?_, fun f hf => ?_, S'.gr⟩
  · obtain ⟨h1, h2⟩ := S'.tm t x h
    exact ⟨by rw [den_app h2]; exact h1, SV.ok_mono h2 (by omega)⟩
  · have h' : (s.K ++ [k])[i]? = some k' := h
    rw [getD_snoc]
    by_cases hi : i < bs.length
    · rw [if_pos hi]
      rw [List.getElem?_append_left (by rw [← S.bl]; exact hi)] at h'
      exact S'.bx i k' h'
    · rw [if_neg hi]
      have hi2 : i = bs.length := by
        have := (List.getElem?_eq_some_iff.1 h').1
        simp at this
        rw [← S.bl] at this
        omega
      rw [if_pos hi2]
      rw [hi2, S.bl, List.getElem?_append_right (Nat.le_refl _)] at h'
      simp at h'
      subst h'
      exact heap_alloc_new w _
  · rw [hl] at hi hj
    rw [getD_snoc, getD_snoc] at he
    by_cases h1 : i < bs.length <;> by_cases h2 : j < bs.length
    · rw [if_pos h1, if_pos h2] at he; exact S.nd i j h1 h2 he
    · rw [if_pos h1, if_neg h2, if_pos (by omega)] at he; have := hlt i h1; omega
    · rw [if_neg h1, if_pos h2, if_pos (by omega)] at he; have := hlt j h2; omega
    · omega
  · rw [hl] at hi
    rw [getD_snoc]
    by_cases h1 : i < bs.length
    · rw [if_pos h1]; exact S.lo i h1
    · rw [if_neg h1, if_pos (by omega)]; exact Or.inl S.gr.size
  · obtain ⟨h1, h2⟩ := S'.fs f hf
    refine ⟨h1, fun i hi => ?_⟩
    rw [hl] at hi
    rw [getD_snoc]
    by_cases h3 : i < bs.length
    · rw [if_pos h3]; exact h2 i h3
    · rw [if_neg h3, if_pos (by omega)]
      intro he
      have := f.lt w (S.fs f hf).1 _ he
      omega
theorem Sy.newv (S : Sy w0 r bs s F a w) (k : Bx) (d : Option Nat) {x : SV} (hx : x.ok (bs.length + 1)) : Sy w0 r (bs ++ [w.heap.size]) ((s.new k).put d x) F (a.put d (den (bs ++ [w.heap.size]) x)) (w.alloc (.cells k.cs.toArray k.ty (0, 0))) :=
  (S.new k).put d (by simpa using hx)

/-- Cells stored into a row, from an offset on. -/
def setL : List Value → Nat → List Value → List Value
  | cs, _, [] => cs
  | cs, o, v :: r => setL (cs.set o v) (o + 1) r
theorem setL_length : ∀ (vs cs : List Value) (o : Nat), (setL cs o vs).length = cs.length
  | [], _, _ => rfl
  | v :: r, cs, o => by rw [setL, setL_length r]; simp
theorem heap_setCells (b : Nat) (ty : TypeId) : ∀ (vs : List Value) (o : Nat) (w : World) (cs : List Value), w.heap[b]? = some (.cells cs.toArray ty (0, 0)) → (w.setCells b o vs).heap[b]? = some (.cells (setL cs o vs).toArray ty (0, 0))
  | [], _, _, _, h => h
  | v :: r, o, w, cs, h => by
    rw [World.setCells, setL]
    refine heap_setCells b ty r (o + 1) _ (cs.set o v) ?_
    simp only [World.setCell, Array.getElem?_modify]
    simp [h]
theorem setCells_os (b : Nat) : ∀ (vs : List Value) (o : Nat) (w : World), (w.setCells b o vs).os = w.os ∧ (w.setCells b o vs).tape = w.tape ∧ (w.setCells b o vs).output = w.output ∧ (w.setCells b o vs).heap.size = w.heap.size ∧ ∀ k, k ≠ b → (w.setCells b o vs).heap[k]? = w.heap[k]?
  | [], _, _ => ⟨rfl, rfl, rfl, rfl, fun _ _ => rfl⟩
  | v :: r, o, w => by
    obtain ⟨h1, h2, h3, h4, h5⟩ := setCells_os b r (o + 1) (w.setCell ⟨b, o, none⟩ v)
    exact ⟨h1, h2, h3, h4.trans (by simp [World.setCell]), fun k hk => (h5 k hk).trans (Below.heap_setCell _ _ _ _ hk)⟩
def SS.setK (s : SS) (i : Nat) (k : Bx) : SS := { s with K := s.K.set i k }
theorem Sy.store (S : Sy w0 r bs s F a w) {i o : Nat} {k : Bx} (hk : s.K[i]? = some k) (vs : List Value) : Sy w0 r bs (s.setK i ⟨k.ty, setL k.cs o vs⟩) F a (w.setCells (bs.getD i 0) o vs) := by
  have hi : i < bs.length := by rw [S.bl]; exact (List.getElem?_eq_some_iff.1 hk).1
  obtain ⟨h1, h2, h3, h4, h5⟩ := setCells_os (bs.getD i 0) vs o w
  refine ⟨S.df, S.sz, S.tm, by simp [SS.setK, S.bl], fun j k' h => ?_, S.nd, S.lo, fun f hf => ?_, ?_⟩
  · have h' : (s.K.set i ⟨k.ty, setL k.cs o vs⟩)[j]? = some k' := h
    by_cases hj : i = j
    · subst hj
      rw [List.getElem?_set_self (by rw [← S.bl]; exact hi)] at h'
      simp only [Option.some.injEq] at h'
      subst h'
      exact heap_setCells _ _ vs o w k.cs (S.bx i k hk)
    · rw [List.getElem?_set_ne hj] at h'
      have hjl : j < bs.length := by rw [S.bl]; exact (List.getElem?_eq_some_iff.1 h').1
      rw [h5 _ (fun he => hj (S.nd j i hjl hi he).symm)]
      exact S.bx j k' h'
  · obtain ⟨g1, g2⟩ := S.fs f hf
    exact ⟨f.st w _ g1 (fun b hb => h5 b (fun he => g2 i hi (he ▸ hb))), g2⟩
  · have g := S.gr
    refine ⟨h1.trans g.os, h2.trans g.tape, h3.trans g.output, by rw [h4]; exact g.size, fun b hb hne => ?_⟩
    rw [h5 b ?_]
    · exact g.block b hb hne
    · intro he
      rcases S.lo i hi with hl | hl
      · omega
      · exact hne (by rw [he]; exact hl)
theorem Sy.drew (S : Sy w0 r bs s F a w) : Sy w0 r bs s F a w.drew :=
  S.below ⟨rfl, rfl, rfl, Nat.le_refl _, fun _ _ => rfl⟩

/-! ### Computations that ask the program's tables alone -/
def pev (P : Program) {α : Type} : Sem α → Option α
  | .pure a => some a
  | .program k => pev P (k P)
  | .mark _ k => pev P k
  | _ => none
theorem pev_run {α : Type} {P : Program} (m : Sem α) {x : α} (h : pev P m = some x) (w : World) : m.run P w = .ok x w := by
  induction m with
  | pure a => simp only [pev, Option.some.injEq] at h; subst h; rfl
  | program k ih => simp only [pev] at h; exact ih P h
  | mark m k ih => simp only [pev] at h; exact ih h
  | _ => simp [pev] at h

theorem map_congr_arr {α β : Type} {l : Array α} {f g : α → β} (h : ∀ x ∈ l.toList, f x = g x) : l.map f = l.map g := by
  apply Array.ext'
  simp only [Array.toList_map]
  exact List.map_congr_left h
/-- What an operation does depends on its operands' values alone. -/
theorem execOp_congr {ρ ρ' : Operand → Value} (o : Oper) (h : ∀ x ∈ o.op.operands.toList, ρ x = ρ' x) (hs : ∀ cs b, o.op ≠ .select cs b) : execOp ρ o = execOp ρ' o := by
  obtain ⟨dst, op, ty, pos, after, guard⟩ := o
  simp only at h hs
  cases op <;> simp only [Op.operands] at h <;> simp only [execOp]
  case build t parts =>
    have : (parts.map fun (i, x) => (i, ρ x)) = (parts.map fun (i, x) => (i, ρ' x)) := map_congr_arr fun q hq => by
      show (q.1, ρ q.2) = (q.1, ρ' q.2)
      rw [h q.2 (by simp; exact ⟨q.1, by simpa using hq⟩)]
    rw [this]
  case buildSlice t n parts =>
    have : (parts.map fun (i, x) => (i, ρ x)) = (parts.map fun (i, x) => (i, ρ' x)) := map_congr_arr fun q hq => by
      show (q.1, ρ q.2) = (q.1, ρ' q.2)
      rw [h q.2 (by simp; exact ⟨q.1, by simpa using hq⟩)]
    rw [this]
  case makeFunc fn first captured =>
    rw [map_congr_arr (g := ρ') fun q hq => h q (by simp; left; simpa using hq), map_congr_arr (l := captured) (g := ρ') fun q hq => h q (by simp; right; simpa using hq)]
  case makeMap t x => cases x <;> simp_all
  case slice t x l hh m => cases l <;> cases hh <;> cases m <;> simp_all
  case call c =>
    have ha : c.args.map ρ = c.args.map ρ' := map_congr_arr fun q hq => h q (by simp [Call.operands]; right; simpa using hq)
    have hr : resolve ρ c ty = resolve ρ' c ty := by
      unfold resolve
      rw [ha]
      cases hc : c.callee with
      | builtin b => rfl
      | invoke rv m => simp only; rw [h rv (by simp [Call.operands, hc])]
      | value f => simp only; rw [h f (by simp [Call.operands, hc])]
    rw [hr]
  case go c =>
    have ha : c.args.map ρ = c.args.map ρ' := map_congr_arr fun q hq => h q (by simp [Call.operands]; right; simpa using hq)
    have hr : resolve ρ c ty = resolve ρ' c ty := by
      unfold resolve
      rw [ha]
      cases hc : c.callee with
      | builtin b => rfl
      | invoke rv m => simp only; rw [h rv (by simp [Call.operands, hc])]
      | value f => simp only; rw [h f (by simp [Call.operands, hc])]
    rw [hr]
  case defer c =>
    have ha : c.args.map ρ = c.args.map ρ' := map_congr_arr fun q hq => h q (by simp [Call.operands]; right; simpa using hq)
    have hr : resolve ρ c ty = resolve ρ' c ty := by
      unfold resolve
      rw [ha]
      cases hc : c.callee with
      | builtin b => rfl
      | invoke rv m => simp only; rw [h rv (by simp [Call.operands, hc])]
      | value f => simp only; rw [h f (by simp [Call.operands, hc])]
    rw [hr]
  case select cs b => exact absurd rfl (hs cs b)
  all_goals simp_all

/-! ### One operation -/
/-- The cells of a variable of the type ty at offset o of cs. -/
def ldS (P : Program) (ty : TypeId) (cs : List Value) (o : Nat) : Option Value :=
  match P.underlying ty, (P.info? ty).map (·.size) with
  | some d, some n => if d.isRow then (if o + n ≤ cs.length then some (.agg ((cs.drop o).take n).toArray) else none) else cs[o]?
  | _, _ => none
def stS (P : Program) (ty : TypeId) (cs : List Value) (o : Nat) (v : Value) : Option (List Value) :=
  match (P.info? ty).map (·.size) with
  | some n => if v.cells.size = n ∧ o + n ≤ cs.length ∧ v.cells.toList.all (·.oneCell') = true then some (setL cs o v.cells.toList) else none
  | none => none
def zeroS (P : Program) (ty : TypeId) : Option (List Value) := (pev P (zeroValue ty)).map (·.cells.toList)
def fieldS (P : Program) (t : TypeId) (f : Nat) : Option Nat :=
  match P.underlying t with
  | some (.struct fields) => match fields[f]? with
    | some fl => match (P.info? fl.type).map (·.size) with
      | some n => if n = 0 then none else some fl.offset
      | none => none
    | none => none
  | _ => none
/-- An operation, but a call of a function. -/
def notSel : Op → Bool
  | .select _ _ => false
  | _ => true
def dflt (P : Program) (s : SS) (o : Oper) : Option SS :=
  match o.op.operands.toList.all s.isV && notSel o.op with
  | true => match pev P (execOp s.env o) with
    | some (.value x) => some (s.put o.dst (.v x))
    | _ => none
  | false => none
def capS (s : SS) : List Operand → Option (List (Nat × Nat))
  | [] => some []
  | x :: r => match s.val x, capS s r with
    | some (.p i o), some l => some ((i, o) :: l)
    | _, _ => none
def bslS (P : Program) (t : TypeId) (len : Nat) (parts : Array (Nat × Value)) : Option Bx :=
  match P.underlying t with
  | some (.slice elem) => match (P.info? elem).map (·.size), pev P (zeroValue elem) with
    | some size, some z => if len * size = 0 ∨ len * size > 2 ^ 24 then none else
      match Instr.fill (fun i => some (i * size, size)) ((Array.range (len * size)).map (z.cells[· % z.cells.size]!)) parts.toList with
      | some cells => some ⟨elem, cells.toList⟩
      | none => none
    | _, _ => none
  | _ => none
def sop (P : Program) (s : SS) (o : Oper) : Option SS :=
  match o.op with
  | .move x => (s.val x).map (s.put o.dst)
  | .assign x => (s.val x).map (s.put o.dst)
  | .load ty x => match s.val x with
    | some (.p i off) => match s.K[i]? with
      | some k => (ldS P ty k.cs off).map fun v => s.put o.dst (.v v)
      | none => none
    | _ => none
  | .store ty x y => match s.val x, s.val y with
    | some (.p i off), some (.v v) => match s.K[i]? with
      | some k => (stS P ty k.cs off v).map fun cs => (s.setK i ⟨k.ty, cs⟩).put o.dst (.v undef)
      | none => none
    | _, _ => none
  | .alloc ty => (zeroS P ty).map fun cs => (s.new ⟨ty, cs⟩).put o.dst (.p s.K.length 0)
  | .box ty x => match s.val x with
    | some (.v v) => some ((s.new ⟨ty, v.cells.toList⟩).put o.dst (.p s.K.length 0))
    | _ => none
  | .buildSlice t len parts => if parts.toList.all (fun q => s.isV q.2) then
      (bslS P t len (parts.map fun (i, x) => (i, s.env x))).map fun k => (s.new k).put o.dst (.s s.K.length 0 len len)
    else none
  | .fieldAddr t x f => match s.val x with
    | some (.p i off) => (fieldS P t f).map fun q => s.put o.dst (.p i (off + q))
    | some (.v _) => dflt P s o
    | _ => none
  | .nilCheck x => match s.val x with
    | some (.p i off) => some (s.put o.dst (.p i off))
    | some (.v _) => dflt P s o
    | _ => none
  | .makeFunc (.func fn) first captured => if first.size = 0 then
      match capS s captured.toList with
      | some l => some (s.put o.dst (.f fn l))
      | none => dflt P s o
    else dflt P s o
  | _ => dflt P s o

theorem dflt_sound (S : Sy w0 r bs s F a w) {o : Oper} {s' : SS} (h : dflt P s o = some s') {K : Act → World → Prop} {Q : Exit → Act → World → Prop}
    (hk : ∀ bs' a' w', Sy w0 r (bs ++ bs') s' F a' w' → K a' w') : o.wp P a w K Q := by
  unfold dflt at h
  cases hc : (o.op.operands.toList.all s.isV && notSel o.op) with
  | false => rw [hc] at h; cases h
  | true =>
    rw [hc] at h
    simp only [Bool.and_eq_true, List.all_eq_true] at hc
    obtain ⟨h1, h2⟩ := hc
    have he : execOp a.eval o = execOp s.env o := execOp_congr o (fun x hx => S.env (h1 x hx)) (fun cs b e => by rw [e] at h2; cases h2)
    cases hp : pev P (execOp s.env o) with
    | none => rw [hp] at h; cases h
    | some n =>
      rw [hp] at h
      cases n <;> simp at h
      rename_i x
      subst h
      unfold Oper.wp
      rw [he, pev_run _ hp w, Oper.upon_value]
      refine hk [] _ _ ?_
      rw [List.append_nil]
      exact S.put o.dst (x := .v x) trivial
theorem run_info {ty : TypeId} {n : Nat} (h : (P.info? ty).map (·.size) = some n) (w : World) : (sizeOf ty).run P w = .ok n w := by
  cases hq : P.info? ty with
  | none => rw [hq] at h; cases h
  | some i => rw [hq] at h; simp at h; simp [sizeOf, typeInfo, hq, h]
theorem cell_of_heap {b : Nat} {cs : List Value} {ty : TypeId} {o : Nat} (h : w.heap[b]? = some (.cells cs.toArray ty (0, 0))) : w.cell? ⟨b, o, none⟩ = cs[o]? := by
  simp [World.cell?, h]
theorem frozen_of_heap {b : Nat} {cs : List Value} {ty : TypeId} {o : Nat} (h : w.heap[b]? = some (.cells cs.toArray ty (0, 0))) : w.frozen? ⟨b, o, none⟩ = false := by
  simp [World.frozen?, h]
theorem ldS_run {ty ty' : TypeId} {cs : List Value} {b o : Nat} {v : Value} (h : ldS P ty cs o = some v) (hh : w.heap[b]? = some (.cells cs.toArray ty' (0, 0))) : (loadVar ty ⟨b, o, none⟩).run P w = .ok v w := by
  unfold ldS at h
  cases hu : P.underlying ty with
  | none => rw [hu] at h; simp at h
  | some d =>
    cases hi : (P.info? ty).map (·.size) with
    | none => rw [hu, hi] at h; simp at h
    | some n =>
      rw [hu, hi] at h
      simp only at h
      by_cases hd : d.isRow
      · rw [if_pos hd] at h
        split at h
        · rename_i hn
          simp only [Option.some.injEq] at h
          subst h
          refine run_loadVar_mid w b o ty _ d ?_ hu hd ?_
          · intro j x hj
            rw [cell_of_heap hh]
            rw [List.getElem?_take] at hj
            split at hj
            · rw [List.getElem?_drop] at hj; exact hj
            · cases hj
          · rw [hi]; simp; omega
        · cases h
      · rw [if_neg hd] at h
        have hagg : (isAgg ty).run P w = .ok false w := by
          unfold isAgg
          rw [Sem.run_bind, run_underlying hu w]
          cases d <;> simp_all
        unfold loadVar
        rw [Sem.run_bind, hagg]
        simp only [Result.andThen_ok, Bool.false_eq_true, if_false]
        simp only [load, Sem.run, (cell_of_heap hh).trans h]
theorem stS_run {ty ty' : TypeId} {cs cs' : List Value} {b o : Nat} {v : Value} (h : stS P ty cs o v = some cs') (hh : w.heap[b]? = some (.cells cs.toArray ty' (0, 0))) : (storeVar ty ⟨b, o, none⟩ v).run P w = .ok () (w.setCells b o v.cells.toList) ∧ cs' = setL cs o v.cells.toList := by
  unfold stS at h
  cases hi : (P.info? ty).map (·.size) with
  | none => rw [hi] at h; simp at h
  | some n =>
    rw [hi] at h
    simp only at h
    split at h
    · rename_i hc
      obtain ⟨h1, h2, h3⟩ := hc
      simp only [Option.some.injEq] at h
      refine ⟨?_, h.symm⟩
      have hs := run_storeCells_cells (P := P) b o v.cells.toList 0 w (fun j hj => by
        rw [cell_of_heap hh]
        have hl : v.cells.toList.length = n := by rw [← h1]; simp
        rw [Nat.add_zero, List.getElem?_eq_getElem (by omega)]; rfl) (fun j hj => frozen_of_heap hh) (fun x hx => by simpa using (List.all_eq_true.1 h3) x hx)
      simp only [Nat.add_zero] at hs
      simp only [storeVar, Sem.run_bind, run_info hi, Result.andThen_ok, h1, ne_eq, not_true_eq_false, if_false, Sem.run_pure]
      simpa using hs
    · cases h
theorem zeroS_run {ty : TypeId} {cs : List Value} (h : zeroS P ty = some cs) (w : World) : ∃ z : Value, z.cells.toList = cs ∧ (zeroValue ty).run P w = .ok z w := by
  unfold zeroS at h
  cases hp : pev P (zeroValue ty) with
  | none => rw [hp] at h; cases h
  | some z => rw [hp] at h; simp at h; exact ⟨z, h, pev_run _ hp w⟩
theorem fieldS_run {t : TypeId} {f q b o : Nat} (h : fieldS P t f = some q) (w : World) : (Instr.fieldAt t (.pointer (some ⟨b, o, none⟩)) f).run P w = .ok (.pointer (some ⟨b, o + q, none⟩)) w := by
  unfold fieldS at h
  cases hu : P.underlying t with
  | none => rw [hu] at h; simp at h
  | some d =>
    rw [hu] at h
    cases d <;> simp at h
    rename_i fields
    cases hf : fields[f]? with
    | none => rw [hf] at h; simp at h
    | some fl =>
      rw [hf] at h
      simp only at h
      cases hi : (P.info? fl.type).map (·.size) with
      | none => rw [hi] at h; simp at h
      | some n =>
        rw [hi] at h
        simp only at h
        split at h
        · cases h
        · rename_i hn
          simp only [Option.some.injEq] at h
          subst h
          simp only [Instr.fieldAt, Sem.run_bind, run_underlying hu w, Result.andThen_ok, hf, Instr.sureAddr, Sem.run_pure, fieldPlace, run_info hi, if_neg hn]
          rw [Addr.add_mid]
theorem capS_sound (S : Sy w0 r bs s F a w) : ∀ (l : List Operand) {c : List (Nat × Nat)}, capS s l = some c → l.map a.eval = c.map (fun q => Value.pointer (some (adr bs q.1 q.2))) ∧ ∀ q ∈ c, q.1 < bs.length
  | [], c, h => by simp [capS] at h; subst h; simp
  | x :: l, c, h => by
    simp only [capS] at h
    cases hx : s.val x with
    | none => rw [hx] at h; cases h
    | some y =>
      rw [hx] at h
      cases y with
      | p i o =>
        cases hc : capS s l with
        | none => rw [hc] at h; cases h
        | some c' =>
          rw [hc] at h
          simp only [Option.some.injEq] at h
          subst h
          obtain ⟨h1, h2⟩ := S.val hx
          obtain ⟨h3, h4⟩ := capS_sound S l hc
          refine ⟨by simp [h1, h3, den], fun q hq => ?_⟩
          rcases List.mem_cons.1 hq with rfl | hq
          · exact h2
          · exact h4 q hq
      | _ => simp at h

theorem run_info' {ty : TypeId} {n : Nat} (h : (P.info? ty).map (·.size) = some n) (w : World) : (sizeOf ty).run P w = .ok n w := by
  cases hq : P.info? ty with
  | none => rw [hq] at h; cases h
  | some i => rw [hq] at h; simp at h; simp [sizeOf, typeInfo, hq, h]
theorem bslS_run {t : TypeId} {len : Nat} {parts : Array (Nat × Value)} {k : Bx} (h : bslS P t len parts = some k) (w : World) :
    (Instr.buildSlice t len parts).run P w = .ok (.slice (some ⟨w.heap.size, 0, none⟩) len len) (w.alloc (.cells k.cs.toArray k.ty (0, 0))) := by
  unfold bslS at h
  cases hu : P.underlying t with
  | none => rw [hu] at h; cases h
  | some d =>
    rw [hu] at h
    cases d <;> simp only [reduceCtorEq] at h
    rename_i elem
    cases hi : (P.info? elem).map (·.size) with
    | none => rw [hi] at h; simp at h
    | some size =>
      cases hz : pev P (zeroValue elem) with
      | none => rw [hi, hz] at h; simp at h
      | some z =>
        rw [hi, hz] at h
        simp only at h
        split at h
        · cases h
        · rename_i hn
          cases hf : Instr.fill (fun i => some (i * size, size)) ((Array.range (len * size)).map (z.cells[· % z.cells.size]!)) parts.toList with
          | none => rw [hf] at h; cases h
          | some cells =>
            rw [hf] at h
            simp only [Option.some.injEq] at h
            subst h
            have h1 : ¬ len * size = 0 := fun e => hn (Or.inl e)
            have h2 : ¬ len * size > 2 ^ 24 := fun e => hn (Or.inr e)
            simp only [Instr.buildSlice, Sem.run_bind, run_underlying hu w, Result.andThen_ok, run_info' hi, if_neg h2, if_neg h1, Sem.run_pure, pev_run _ hz, hf, newRow, newObj]
            rfl
theorem getD_self {b : Nat} : (bs ++ [b]).getD bs.length 0 = b := by rw [getD_snoc, if_neg (Nat.lt_irrefl _), if_pos rfl]
theorem sop_sound (S : Sy w0 r bs s F a w) {o : Oper} {s' : SS} (h : sop P s o = some s') {K : Act → World → Prop} {Q : Exit → Act → World → Prop}
    (hk : ∀ bs' a' w', Sy w0 r (bs ++ bs') s' F a' w' → K a' w') : o.wp P a w K Q := by
  have hk0 : ∀ a' w', Sy w0 r bs s' F a' w' → K a' w' := fun a' w' h => hk [] a' w' (by rw [List.append_nil]; exact h)
  unfold sop at h
  cases ho : o.op with
  | move x =>
    rw [ho] at h; simp only at h
    cases hx : s.val x with
    | none => rw [hx] at h; cases h
    | some y =>
      rw [hx] at h; simp only [Option.map_some, Option.some.injEq] at h; subst h
      obtain ⟨h1, h2⟩ := S.val hx
      unfold Oper.wp execOp
      simp only [ho, h1]
      exact hk0 _ _ (S.put o.dst h2)
  | assign x =>
    rw [ho] at h; simp only at h
    cases hx : s.val x with
    | none => rw [hx] at h; cases h
    | some y =>
      rw [hx] at h; simp only [Option.map_some, Option.some.injEq] at h; subst h
      obtain ⟨h1, h2⟩ := S.val hx
      unfold Oper.wp execOp
      simp only [ho, h1]
      exact hk0 _ _ (S.put o.dst h2)
  | load ty x =>
    rw [ho] at h; simp only at h
    cases hx : s.val x with
    | none => rw [hx] at h; cases h
    | some y =>
      rw [hx] at h
      cases y with
      | p i off =>
        simp only at h
        cases hK : s.K[i]? with
        | none => rw [hK] at h; cases h
        | some k =>
          rw [hK] at h; simp only at h
          cases hl : ldS P ty k.cs off with
          | none => rw [hl] at h; cases h
          | some v =>
            rw [hl] at h; simp only [Option.map_some, Option.some.injEq] at h; subst h
            obtain ⟨h1, h2⟩ := S.val hx
            have hr := ldS_run hl (S.bx i k hK)
            unfold Oper.wp execOp
            simp only [ho, h1, den, adr, Instr.loadAt, Instr.sureAddr, Sem.run_bind, Sem.run_pure, Result.andThen_ok, hr]
            exact hk0 _ _ (S.put o.dst (x := .v v) trivial)
      | _ => simp at h
  | store ty x y =>
    rw [ho] at h; simp only at h
    cases hx : s.val x with
    | none => rw [hx] at h; simp at h
    | some z =>
      rw [hx] at h
      cases z with
      | p i off =>
        cases hy : s.val y with
        | none => rw [hy] at h; simp at h
        | some u =>
          rw [hy] at h
          cases u with
          | v v =>
            simp only at h
            cases hK : s.K[i]? with
            | none => rw [hK] at h; cases h
            | some k =>
              rw [hK] at h; simp only at h
              cases hl : stS P ty k.cs off v with
              | none => rw [hl] at h; cases h
              | some cs =>
                rw [hl] at h; simp only [Option.map_some, Option.some.injEq] at h; subst h
                obtain ⟨h1, h2⟩ := S.val hx
                obtain ⟨h3, h4⟩ := S.val hy
                obtain ⟨hr, he⟩ := stS_run hl (S.bx i k hK)
                subst he
                unfold Oper.wp execOp
                simp only [ho, h1, h3, den, adr, Instr.storeAt, Instr.sureAddr, Sem.run_bind, Sem.run_pure, Result.andThen_ok, hr]
                have S2 := (S.store hK (o := off) v.cells.toList).put o.dst (x := .v undef) trivial
                exact hk0 _ _ S2
          | _ => simp at h
      | _ => simp at h
  | alloc ty =>
    rw [ho] at h; simp only at h
    cases hz : zeroS P ty with
    | none => rw [hz] at h; cases h
    | some cs =>
      rw [hz] at h; simp only [Option.map_some, Option.some.injEq] at h; subst h
      obtain ⟨z, hz1, hz2⟩ := zeroS_run hz w
      have hr : (Instr.alloc ty true (.tuple #[])).run P w = .ok (.pointer (some ⟨w.heap.size, 0, none⟩)) (w.alloc (.cells cs.toArray ty (0, 0))) := by
        simp only [Instr.alloc, Sem.run_bind, hz2, Result.andThen_ok, newVar, newRow, newObj]
        rw [← hz1]
        rfl
      unfold Oper.wp execOp
      simp only [ho, Sem.run_bind, hr, Result.andThen_ok, Sem.run_pure]
      have S2 := S.newv ⟨ty, cs⟩ o.dst (x := .p s.K.length 0) (by show s.K.length < _; rw [← S.bl]; omega)
      refine hk _ _ _ (?_ : Sy w0 r (bs ++ [w.heap.size]) _ F _ _)
      have e : den (bs ++ [w.heap.size]) (.p s.K.length 0) = .pointer (some ⟨w.heap.size, 0, none⟩) := by simp only [den, adr]; rw [← S.bl, getD_self]
      rw [e] at S2
      exact S2
  | box ty x =>
    rw [ho] at h; simp only at h
    cases hx : s.val x with
    | none => rw [hx] at h; cases h
    | some y =>
      rw [hx] at h
      cases y with
      | v v =>
        simp only [Option.some.injEq] at h; subst h
        obtain ⟨h1, h2⟩ := S.val hx
        unfold Oper.wp execOp
        simp only [ho, h1, den]
        have hr : (Instr.box ty v).run P w = .ok (.pointer (some ⟨w.heap.size, 0, none⟩)) (w.alloc (.cells v.cells ty (0, 0))) := rfl
        simp only [Sem.run_bind, hr, Result.andThen_ok, Sem.run_pure]
        have S2 := S.newv ⟨ty, v.cells.toList⟩ o.dst (x := .p s.K.length 0) (by show s.K.length < _; rw [← S.bl]; omega)
        refine hk _ _ _ (?_ : Sy w0 r (bs ++ [w.heap.size]) _ F _ _)
        have e : den (bs ++ [w.heap.size]) (.p s.K.length 0) = .pointer (some ⟨w.heap.size, 0, none⟩) := by simp only [den, adr]; rw [← S.bl, getD_self]
        rw [e] at S2
        simpa using S2
      | _ => simp at h
  | buildSlice t len parts =>
    rw [ho] at h; simp only at h
    split at h
    · rename_i hp
      rw [List.all_eq_true] at hp
      have he : (parts.map fun (i, x) => (i, a.eval x)) = (parts.map fun (i, x) => (i, s.env x)) := map_congr_arr fun q hq => by
        show (q.1, a.eval q.2) = (q.1, s.env q.2)
        rw [S.env (hp q hq)]
      cases hb : bslS P t len (parts.map fun (i, x) => (i, s.env x)) with
      | none => rw [hb] at h; cases h
      | some k =>
        rw [hb] at h; simp only [Option.map_some, Option.some.injEq] at h; subst h
        unfold Oper.wp execOp
        simp only [ho]
        rw [he]
        simp only [Sem.run_bind, bslS_run hb, Result.andThen_ok, Sem.run_pure]
        have S2 := S.newv k o.dst (x := .s s.K.length 0 len len) (by show s.K.length < _; rw [← S.bl]; omega)
        refine hk _ _ _ (?_ : Sy w0 r (bs ++ [w.heap.size]) _ F _ _)
        have e : den (bs ++ [w.heap.size]) (.s s.K.length 0 len len) = .slice (some ⟨w.heap.size, 0, none⟩) len len := by simp only [den, adr]; rw [← S.bl, getD_self]
        rw [e] at S2
        exact S2
    · cases h
  | fieldAddr t x f =>
    rw [ho] at h; simp only at h
    cases hx : s.val x with
    | none => rw [hx] at h; cases h
    | some y =>
      rw [hx] at h
      cases y with
      | p i off =>
        simp only at h
        cases hf : fieldS P t f with
        | none => rw [hf] at h; cases h
        | some q =>
          rw [hf] at h; simp only [Option.map_some, Option.some.injEq] at h; subst h
          obtain ⟨h1, h2⟩ := S.val hx
          unfold Oper.wp execOp
          simp only [ho, h1, den, adr, Sem.run_bind, fieldS_run hf, Result.andThen_ok, Sem.run_pure]
          exact hk0 _ _ (S.put o.dst (x := .p i (off + q)) h2)
      | v _ => exact dflt_sound S h hk
      | _ => simp at h
  | nilCheck x =>
    rw [ho] at h; simp only at h
    cases hx : s.val x with
    | none => rw [hx] at h; cases h
    | some y =>
      rw [hx] at h
      cases y with
      | p i off =>
        simp only [Option.some.injEq] at h; subst h
        obtain ⟨h1, h2⟩ := S.val hx
        unfold Oper.wp execOp
        simp only [ho, h1, den, adr, Sem.run_pure]
        exact hk0 _ _ (S.put o.dst (x := .p i off) h2)
      | v _ => exact dflt_sound S h hk
      | _ => simp at h
  | makeFunc fn first captured =>
    rw [ho] at h
    cases fn with
    | func fn =>
      simp only at h
      split at h
      · rename_i hf
        cases hc : capS s captured.toList with
        | none => rw [hc] at h; exact dflt_sound S h hk
        | some l =>
          rw [hc] at h; simp only [Option.some.injEq] at h; subst h
          obtain ⟨h1, h2⟩ := capS_sound S _ hc
          unfold Oper.wp execOp
          simp only [ho, Instr.makeFunc, Sem.run_bind, Sem.run_pure, Result.andThen_ok]
          have e : Value.func (.func fn) (first.map a.eval) (captured.map a.eval) = den bs (.f fn l) := by
            simp only [den]
            congr 1
            · have : first = #[] := Array.eq_empty_of_size_eq_zero hf
              subst this; simp
            · apply Array.ext'; simp only [Array.toList_map]; rw [h1]
          rw [e]
          exact hk0 _ _ (S.put o.dst (x := .f fn l) h2)
      · exact dflt_sound S h hk
    | _ => exact dflt_sound S (by simpa using h) hk
  | _ => rw [ho] at h; exact dflt_sound S h hk

/-! ### A region's operations in their order -/
def wantS (s : SS) (ops : Array Oper) (o : Oper) : Option Bool :=
  match o.guard with
  | none => some true
  | some (j, want) => match ((ops[j]?).bind (·.dst)).bind s.get with
    | some (.v (.bool b)) => some (b == want)
    | some (.v (.tuple _)) => some false
    | _ => none
theorem wantS_sound (S : Sy w0 r bs s F a w) {ops : Array Oper} {o : Oper} {b : Bool} (h : wantS s ops o = some b) : Region.wanted o (yielded ops a.tmps) = b := by
  unfold wantS at h
  unfold Region.wanted
  cases hg : o.guard with
  | none => rw [hg] at h; simpa using h
  | some jw =>
    obtain ⟨j, want⟩ := jw
    rw [hg] at h; simp only at h ⊢
    cases hd : (ops[j]?).bind (·.dst) with
    | none => rw [hd] at h; simp at h
    | some d =>
      rw [hd] at h
      simp only [Option.bind_some] at h
      cases hx : s.get d with
      | none => rw [hx] at h; simp at h
      | some y =>
        rw [hx] at h
        cases y with
        | v v =>
          cases v with
          | bool c =>
            simp only [Option.some.injEq] at h
            subst h
            have := (S.tm d _ hx).1
            unfold yielded
            rw [hd, Option.bind_some, this]
            simp only [den]
            cases c <;> cases want <;> rfl
          | tuple vs =>
            simp only [Option.some.injEq] at h
            subst h
            have := (S.tm d _ hx).1
            unfold yielded
            rw [hd, Option.bind_some, this]
            simp only [den]
            cases want <;> rfl
          | _ => simp at h
        | _ => simp at h
def runOps (P : Program) (ops : Array Oper) : List Oper → SS → List Oper × SS
  | [], s => ([], s)
  | o :: rest, s => match wantS s ops o with
    | some false => runOps P ops rest (s.put o.dst (.v undef))
    | some true => match sop P s o with
      | some s' => runOps P ops rest s'
      | none => (o :: rest, s)
    | none => (o :: rest, s)
theorem runOps_sound {ops : Array Oper} {Q : Exit → Act → World → Prop} : ∀ (l : List Oper) {s : SS} {bs : List Nat} {a : Act} {w : World}, Sy w0 r bs s F a w →
    (∀ bs' a' w', Sy w0 r (bs ++ bs') (runOps P ops l s).2 F a' w' → wpList P ops Q (runOps P ops l s).1 a' w') → wpList P ops Q l a w
  | [], s, bs, a, w, S, h => h [] a w (by rw [List.append_nil]; exact S)
  | o :: rest, s, bs, a, w, S, h => by
    unfold runOps at h
    cases hw : wantS s ops o with
    | none => rw [hw] at h; exact h [] a w (by rw [List.append_nil]; exact S)
    | some b =>
      rw [hw] at h
      have hw' := wantS_sound S hw
      cases b with
      | false =>
        simp only at h
        refine wpList_step fun K hK => ?_
        rw [hw']
        simp only [Bool.false_eq_true, if_false]
        exact hK _ _ (runOps_sound rest (S.put o.dst (x := .v undef) trivial) h)
      | true =>
        simp only at h
        cases hs : sop P s o with
        | none => rw [hs] at h; exact h [] a w (by rw [List.append_nil]; exact S)
        | some s' =>
          rw [hs] at h
          simp only at h
          refine wpList_step fun K hK => ?_
          rw [hw', if_pos rfl]
          refine sop_sound S hs fun bs1 a1 w1 S1 => hK _ _ (runOps_sound rest S1 fun bs2 a2 w2 S2 => ?_)
          exact h (bs1 ++ bs2) a2 w2 (by rw [← List.append_assoc]; exact S2)

/-! ### Code, as a list of what is still to be done -/
inductive It where
  | code (c : Code)
  | ops (all : Array Oper) (l : List Oper)
  | blk (id : Nat)
  | rnd (n : Nat) (c : Code)
def post (P : Program) : List It → (Exit → Act → World → Prop) → Exit → Act → World → Prop
  | [], Q => Q
  | .code c :: k, Q => Exit.then (c.wp P (post P k Q)) (post P k Q)
  | .ops all l :: k, Q => Exit.then (wpList P all (post P k Q) l) (post P k Q)
  | .blk id :: k, Q => Exit.inBlock id (post P k Q)
  | .rnd n c :: k, Q => Exit.then (Code.rounds P c (post P k Q) n) (post P k Q)
def unw (id : Nat) : List It → Option (List It)
  | [] => none
  | .blk j :: k => if id = j then some k else unw id k
  | _ :: k => unw id k
theorem unw_sound {id : Nat} {Q : Exit → Act → World → Prop} : ∀ (k : List It) {k' : List It}, unw id k = some k' → post P k' Q .normal a w → post P k Q (.exit id) a w
  | [], k', h, _ => by simp [unw] at h
  | .blk j :: k, k', h, hp => by
    simp only [unw] at h
    by_cases hj : id = j
    · rw [if_pos hj] at h
      simp only [Option.some.injEq] at h
      subst h
      show Exit.inBlock j _ _ _ _
      simp only [Exit.inBlock, if_pos hj]
      exact hp
    · rw [if_neg hj] at h
      show Exit.inBlock j _ _ _ _
      simp only [Exit.inBlock, if_neg hj]
      exact unw_sound k h hp
  | .code c :: k, k', h, hp => unw_sound k h hp
  | .ops _ _ :: k, k', h, hp => unw_sound k h hp
  | .rnd _ _ :: k, k', h, hp => unw_sound k h hp
theorem ret_sound {Q : Exit → Act → World → Prop} (h : Q .ret a w) : ∀ k : List It, post P k Q .ret a w
  | [] => h
  | .blk j :: k => ret_sound h k
  | .code c :: k => ret_sound h k
  | .ops _ _ :: k => ret_sound h k
  | .rnd _ _ :: k => ret_sound h k
theorem panic_sound {Q : Exit → Act → World → Prop} {ch : List PanicEntry} (h : Q (.panic ch) a w) : ∀ k : List It, post P k Q (.panic ch) a w
  | [] => h
  | .blk j :: k => panic_sound h k
  | .code c :: k => panic_sound h k
  | .ops _ _ :: k => panic_sound h k
  | .rnd _ _ :: k => panic_sound h k
/-- Where a walk stands: what is to be done, and the state. -/
structure Cfg where
  k : List It
  s : SS
/-- How far a walk goes by itself: rounds of a loop (none: it stops there), regions before which it stops. -/
structure Opt where
  L : Nat
  stops : List Nat
/-- One move, but into a call. -/
def stepC (P : Program) (O : Opt) : Cfg → Option Cfg
  | ⟨.ops all [] :: k, s⟩ => some ⟨k, s⟩
  | ⟨.ops all (o :: l) :: k, s⟩ => match runOps P all (o :: l) s with
    | ([], s') => some ⟨k, s'⟩
    | (o' :: l', s') => if l'.length < l.length then some ⟨.ops all (o' :: l') :: k, s'⟩ else none
  | ⟨.blk _ :: k, s⟩ => some ⟨k, s⟩
  | ⟨.rnd n c :: k, s⟩ => if O.stops.contains 999 then none else match n with
    | n + 1 => some ⟨.code c :: .rnd n c :: k, s⟩
    | 0 => none
  | ⟨.code .skip :: k, s⟩ => some ⟨k, s⟩
  | ⟨.code (.seq x y) :: k, s⟩ => some ⟨.code x :: .code y :: k, s⟩
  | ⟨.code (.block id c) :: k, s⟩ => some ⟨.code c :: .blk id :: k, s⟩
  | ⟨.code (.loop c) :: k, s⟩ => if O.L = 0 then none else some ⟨.rnd O.L c :: k, s⟩
  | ⟨.code (.exit id) :: k, s⟩ => (unw id k).map fun k' => ⟨k', s⟩
  | ⟨.code (.region id ops false) :: k, s⟩ => if O.stops.contains id then none else some ⟨.ops ops ops.toList :: k, s⟩
  | ⟨.code (.cond c x y) :: k, s⟩ => match s.val c with
    | some (.v (.bool true)) => some ⟨.code x :: k, s⟩
    | some (.v (.bool false)) => some ⟨.code y :: k, s⟩
    | _ => none
  | _ => none
def runC (P : Program) (O : Opt) : Nat → Cfg → Cfg
  | 0, c => c
  | n + 1, c => match stepC P O c with
    | some c' => runC P O n c'
    | none => c
theorem stepC_sound {O : Opt} {c c' : Cfg} (S : Sy w0 r bs c.s F a w) (h : stepC P O c = some c') {Q : Exit → Act → World → Prop}
    (hk : ∀ bs' a' w', Sy w0 r (bs ++ bs') c'.s F a' w' → post P c'.k Q .normal a' w') : post P c.k Q .normal a w := by
  have hk0 : Sy w0 r bs c'.s F a w → post P c'.k Q .normal a w := fun h => hk [] a w (by rw [List.append_nil]; exact h)
  obtain ⟨k, s⟩ := c
  match k, h with
  | .ops all [] :: k, h => simp only [stepC, Option.some.injEq] at h; subst h; exact hk0 S
  | .ops all (o :: l) :: k, h =>
    simp only [stepC] at h
    refine runOps_sound (o :: l) S fun bs1 a1 w1 S1 => ?_
    cases hr : runOps P all (o :: l) s with
    | mk l' s' =>
      rw [hr] at h S1
      cases l' with
      | nil => simp only [Option.some.injEq] at h; subst h; exact hk _ _ _ S1
      | cons o' l' =>
        simp only at h
        split at h
        · simp only [Option.some.injEq] at h; subst h; exact hk _ _ _ S1
        · cases h
  | .blk id :: k, h =>
    simp only [stepC, Option.some.injEq] at h; subst h
    show Exit.inBlock id (post P k Q) .normal a w
    exact hk0 S
  | .rnd n c :: k, h =>
    simp only [stepC] at h
    split at h
    · cases h
    · cases n with
      | zero => cases h
      | succ n => simp only [Option.some.injEq] at h; subst h; exact hk0 S
  | .code .skip :: k, h => simp only [stepC, Option.some.injEq] at h; subst h; exact wp_skip (hk0 S)
  | .code (.seq x y) :: k, h => simp only [stepC, Option.some.injEq] at h; subst h; exact wp_seq (hk0 S)
  | .code (.block id c) :: k, h => simp only [stepC, Option.some.injEq] at h; subst h; exact wp_block (hk0 S)
  | .code (.loop c) :: k, h =>
    simp only [stepC] at h
    split at h
    · cases h
    · simp only [Option.some.injEq] at h; subst h; exact wp_loop_rounds O.L (hk0 S)
  | .code (.exit id) :: k, h =>
    simp only [stepC] at h
    cases hu : unw id k with
    | none => rw [hu] at h; cases h
    | some k' =>
      rw [hu] at h
      simp only [Option.map_some, Option.some.injEq] at h; subst h
      exact wp_exit (unw_sound k hu (hk0 S))
  | .code (.region id ops false) :: k, h =>
    simp only [stepC] at h
    split at h
    · cases h
    · simp only [Option.some.injEq] at h; subst h; exact wp_region_list (hk0 S)
  | .code (.cond c x y) :: k, h =>
    simp only [stepC] at h
    cases hv : s.val c with
    | none => rw [hv] at h; cases h
    | some u =>
      rw [hv] at h
      cases u with
      | v u =>
        cases u with
        | bool b =>
          have he := (S.val hv).1
          cases b with
          | true => simp only [Option.some.injEq] at h; subst h; exact wp_cond_true he (hk0 S)
          | false => simp only [Option.some.injEq] at h; subst h; exact wp_cond_false he (hk0 S)
        | _ => simp at h
      | _ => simp at h
  | [], h => simp [stepC] at h
  | .code .ret :: k, h => simp [stepC] at h
  | .code (.region id ops true) :: k, h => simp [stepC] at h
  | .code (.goto l) :: k, h => simp [stepC] at h
  | .code (.label l) :: k, h => simp [stepC] at h
  | .code (.rangeFunc _ _ _ _) :: k, h => simp [stepC] at h
  | .code (.scope _) :: k, h => simp [stepC] at h
  | .code (.refuse _) :: k, h => simp [stepC] at h
theorem runC_sound {O : Opt} {Q : Exit → Act → World → Prop} : ∀ (n : Nat) {c : Cfg} {bs : List Nat} {a : Act} {w : World}, Sy w0 r bs c.s F a w →
    (∀ bs' a' w', Sy w0 r (bs ++ bs') (runC P O n c).s F a' w' → post P (runC P O n c).k Q .normal a' w') → post P c.k Q .normal a w
  | 0, c, bs, a, w, S, h => h [] a w (by rw [List.append_nil]; exact S)
  | n + 1, c, bs, a, w, S, h => by
    unfold runC at h
    cases hs : stepC P O c with
    | none => rw [hs] at h; exact h [] a w (by rw [List.append_nil]; exact S)
    | some c' =>
      rw [hs] at h
      simp only at h
      refine stepC_sound S hs fun bs1 a1 w1 S1 => runC_sound (O := O) n S1 fun bs2 a2 w2 S2 => ?_
      exact h (bs1 ++ bs2) a2 w2 (by rw [← List.append_assoc]; exact S2)

/-! ### Calls -/
def entersB (P : Program) (f : FuncId) : Bool :=
  match P.funcs[f]? with
  | some fn => !(fn.name == "runtime.NumGoroutine") && fn.body.isSome
  | none => false
theorem entersB_run {f : FuncId} (h : entersB P f = true) (args : Array Value) (w : World) : (callFunc f args).run P w = .ok (.enter f args) w := by
  unfold entersB at h
  cases hf : P.funcs[f]? with
  | none => rw [hf] at h; cases h
  | some fn =>
    rw [hf] at h
    simp only [Bool.and_eq_true, Bool.not_eq_true'] at h
    have h1 : fn.name ≠ "runtime.NumGoroutine" := by simpa using h.1
    obtain ⟨c, hc⟩ := Option.isSome_iff_exists.1 h.2
    simp [callFunc, hf, h1, hc]
def valsS (s : SS) : List Operand → Option (List SV)
  | [] => some []
  | x :: r => match s.val x, valsS s r with
    | some v, some l => some (v :: l)
    | _, _ => none
theorem valsS_sound (S : Sy w0 r bs s F a w) : ∀ (l : List Operand) {c : List SV}, valsS s l = some c → l.map a.eval = c.map (den bs)
  | [], c, h => by simp [valsS] at h; subst h; rfl
  | x :: l, c, h => by
    simp only [valsS] at h
    cases hx : s.val x with
    | none => rw [hx] at h; cases h
    | some y =>
      rw [hx] at h
      cases hl : valsS s l with
      | none => rw [hl] at h; cases h
      | some c' =>
        rw [hl] at h
        simp only [Option.some.injEq] at h; subst h
        simp [(S.val hx).1, valsS_sound S l hl]
/-- The call that comes next: the function, and its arguments. -/
def headC (P : Program) (c : Cfg) : Option (FuncId × List SV) :=
  match c with
  | ⟨.ops all (o :: l) :: k, s⟩ => match wantS s all o, o.op with
    | some true, .call ca => match ca.callee with
      | .value x => match s.val x, valsS s ca.args.toList with
        | some (.v (.func (.func f) first caps)), some as => if entersB P f then some (f, first.toList.map .v ++ as ++ caps.toList.map .v) else none
        | some (.f f caps), some as => if entersB P f then some (f, as ++ caps.map fun q => .p q.1 q.2) else none
        | _, _ => none
      | _ => none
    | _, _ => none
  | _ => none
/-- Behind the call. -/
def aftC (c : Cfg) (x : SV) : Cfg :=
  match c with
  | ⟨.ops all (o :: l) :: k, s⟩ => ⟨.ops all l :: k, s.put o.dst x⟩
  | c => c
theorem call_op (S : Sy w0 r bs s F a w) {all : Array Oper} {o : Oper} {l : List Oper} {k : List It} {f : FuncId} {args : Array Value}
    (hh : (headC P ⟨.ops all (o :: l) :: k, s⟩).map (fun q => (q.1, q.2.map (den bs))) = some (f, args.toList)) :
    Region.wanted o (yielded all a.tmps) = true ∧ (execOp a.eval o).run P w = .ok (.enter f args) w := by
  unfold headC at hh
  simp only at hh
  cases hw : wantS s all o with
  | none => rw [hw] at hh; simp at hh
  | some b =>
    rw [hw] at hh
    cases b with
    | false => simp at hh
    | true =>
      refine ⟨wantS_sound S hw, ?_⟩
      cases ho : o.op <;> rw [ho] at hh <;> simp only [Option.map_none, reduceCtorEq] at hh
      case call ca =>
        cases hc : ca.callee <;> rw [hc] at hh <;> simp only [Option.map_none, reduceCtorEq] at hh
        case value x =>
          cases hx : s.val x with
          | none => rw [hx] at hh; simp at hh
          | some y =>
            rw [hx] at hh
            cases hv : valsS s ca.args.toList with
            | none => rw [hv] at hh; revert hh; split <;> simp_all
            | some as =>
              rw [hv] at hh
              have hargs := valsS_sound S _ hv
              have ha : ca.args.map a.eval = (as.map (den bs)).toArray := by apply Array.ext'; simp only [Array.toList_map]; exact hargs
              have he := (S.val hx).1
              cases y with
              | v y =>
                cases y with
                | func fn first caps =>
                  cases fn with
                  | func g =>
                    simp only at hh
                    split at hh
                    · rename_i hb
                      simp only [Option.map_some, Option.some.injEq, Prod.mk.injEq] at hh
                      obtain ⟨rfl, hh⟩ := hh
                      have e : first ++ (as.map (den bs)).toArray ++ caps = args := by
                        apply Array.ext'
                        rw [← hh]
                        simp [List.map_append, Function.comp_def, den]
                      simp only [execOp, ho, resolve, hc, he, den, Deferred.ofValue, ha, Sem.run_bind, Sem.run_pure, Result.andThen_ok, invoke, e, entersB_run hb]
                    · simp at hh
                  | _ => simp at hh
                | _ => simp at hh
              | f g caps =>
                simp only at hh
                split at hh
                · rename_i hb
                  simp only [Option.map_some, Option.some.injEq, Prod.mk.injEq] at hh
                  obtain ⟨rfl, hh⟩ := hh
                  have e : #[] ++ (as.map (den bs)).toArray ++ (caps.map fun q => Value.pointer (some (adr bs q.1 q.2))).toArray = args := by
                    apply Array.ext'
                    rw [← hh]
                    simp [List.map_append, Function.comp_def, den]
                  simp only [execOp, ho, resolve, hc, he, den, Deferred.ofValue, ha, Sem.run_bind, Sem.run_pure, Result.andThen_ok, invoke, e, entersB_run hb]
                · simp at hh
              | _ => simp at hh
/-- A call by a contract that makes memory at most. -/
theorem sy_call {c : Cfg} (S : Sy w0 r bs c.s F a w) {X : Type} {val : X → Value} {C : X → World → Prop} {f : FuncId} {args : Array Value} {Q : Exit → Act → World → Prop}
    (hC : Calls P f args w fun e w' => ∃ x, e = .returned (val x) ∧ C x w' ∧ Below w.heap.size w w')
    (hh : (headC P c).map (fun q => (q.1, q.2.map (den bs))) = some (f, args.toList))
    (h : ∀ x a' w', C x w' → Below w.heap.size w w' → Sy w0 r bs (aftC c (.v (val x))).s F a' w' → post P (aftC c (.v (val x))).k Q .normal a' w') : post P c.k Q .normal a w := by
  obtain ⟨k, s⟩ := c
  match k with
  | .ops all (o :: l) :: k =>
    obtain ⟨h1, h2⟩ := call_op S hh
    show wpList P all (post P k Q) (o :: l) a w
    refine wpList_step fun K hK => ?_
    rw [if_pos h1]
    unfold Oper.wp
    rw [h2, Oper.upon_enter]
    refine Calls.mono hC ?_
    rintro e w' ⟨x, rfl, hx, hb⟩
    exact hK _ _ (h x _ w' hx hb ((S.below hb).put o.dst (x := .v (val x)) trivial))
  | [] => simp [headC] at hh
  | .code _ :: _ => simp [headC] at hh
  | .blk _ :: _ => simp [headC] at hh
  | .rnd _ _ :: _ => simp [headC] at hh
  | .ops _ [] :: _ => simp [headC] at hh
/-- The same, where the result is one value. -/
theorem sy_call1 {c : Cfg} (S : Sy w0 r bs c.s F a w) {v : Value} {f : FuncId} {args : Array Value} {Q : Exit → Act → World → Prop}
    (hC : Calls P f args w fun e w' => e = .returned v ∧ Below w.heap.size w w')
    (hh : (headC P c).map (fun q => (q.1, q.2.map (den bs))) = some (f, args.toList))
    (h : ∀ a' w', Below w.heap.size w w' → Sy w0 r bs (aftC c (.v v)).s F a' w' → post P (aftC c (.v v)).k Q .normal a' w') : post P c.k Q .normal a w :=
  sy_call S (X := Unit) (val := fun _ => v) (C := fun _ _ => True) (hC.mono fun e w' h => ⟨(), h.1, trivial, h.2⟩) hh fun _ a' w' _ hb S' => h a' w' hb S'

/-! ### The beginning and the end of a call -/
def resS (P : Program) (s : SS) : List ResultVar → Option (List SV)
  | [] => some []
  | .tmp t :: r => match s.get t, resS P s r with
    | some x, some l => some (x :: l)
    | _, _ => none
  | .cell t ty :: r => match s.get t, resS P s r with
    | some (.p i o), some l => match s.K[i]? with
      | some k => (ldS P ty k.cs o).map fun v => .v v :: l
      | none => none
    | _, _ => none
theorem mapM_run {α β : Type} {f : α → Sem β} {g : α → Option β} : ∀ (l : List α) {r : List β}, (∀ x ∈ l, ∀ y, g x = some y → (f x).run P w = .ok y w) → l.mapM g = some r → (l.mapM f).run P w = .ok r w
  | [], r, _, h => by simp at h; subst h; rfl
  | x :: l, r, hf, h => by
    rw [List.mapM_cons] at h ⊢
    cases hx : g x with
    | none => rw [hx] at h; cases h
    | some y =>
      rw [hx] at h
      cases hl : l.mapM g with
      | none => rw [hl] at h; cases h
      | some r' =>
        rw [hl] at h
        cases h
        rw [Sem.run_bind, hf x (by simp) y hx]
        simp only [Result.andThen_ok]
        rw [Sem.run_bind, mapM_run l (fun z hz => hf z (List.mem_cons_of_mem _ hz)) hl]
        rfl
theorem resS_mapM (S : Sy w0 r bs s F a w) {g : ResultVar → Option Value} (hg : ∀ rv, g rv = ((resS P s [rv]).bind (·.head?)).map (den bs)) : ∀ (l : List ResultVar) {ys : List SV}, resS P s l = some ys → l.mapM g = some (ys.map (den bs))
  | [], ys, h => by simp [resS] at h; subst h; rfl
  | .tmp t :: l, ys, h => by
    simp only [resS] at h
    cases hx : s.get t with
    | none => rw [hx] at h; simp at h
    | some x =>
      cases hl : resS P s l with
      | none => rw [hx, hl] at h; simp at h
      | some l' =>
        rw [hx, hl] at h; simp only [Option.some.injEq] at h; subst h
        rw [List.mapM_cons, hg, resS_mapM S hg l hl]
        simp [resS, hx]
  | .cell t ty :: l, ys, h => by
    simp only [resS] at h
    cases hx : s.get t with
    | none => rw [hx] at h; simp at h
    | some x =>
      cases hl : resS P s l with
      | none => rw [hx, hl] at h; cases x <;> simp at h
      | some l' =>
        rw [hx, hl] at h
        cases x with
        | p i o =>
          simp only at h
          cases hK : s.K[i]? with
          | none => rw [hK] at h; simp at h
          | some k =>
            rw [hK] at h; simp only at h
            cases hv : ldS P ty k.cs o with
            | none => rw [hv] at h; simp at h
            | some v =>
              rw [hv] at h; simp only [Option.map_some, Option.some.injEq] at h; subst h
              rw [List.mapM_cons, hg, resS_mapM S hg l hl]
              simp [resS, hx, hK, hv]
        | _ => simp at h
def retV (bs : List Nat) : List SV → Value
  | [x] => den bs x
  | l => .tuple (l.map (den bs)).toArray
def resOp (tmps : Array Value) : ResultVar → Sem Value
  | .tmp t => pure (tmps.getD t undef)
  | .cell a t => do loadVar t (← asAddr (tmps.getD a undef))
theorem results_op (fn : Func) (tmps : Array Value) : results fn tmps = (do let vs ← fn.results.mapM (resOp tmps); pure (if h : vs.size = 1 then vs[0] else .tuple vs)) := by
  unfold results
  congr 1
theorem resS_run (S : Sy w0 r bs s F a w) {fn : Func} {ys : List SV} (h : resS P s fn.results.toList = some ys) : (results fn a.tmps).run P w = .ok (retV bs ys) w := by
  have hm : (fn.results.mapM (resOp a.tmps)).run P w = .ok (ys.map (den bs)).toArray w := by
    rw [← Array.toArray_toList (xs := fn.results), List.mapM_toArray, Sem.run_map]
    rw [mapM_run (g := fun rv => ((resS P s [rv]).bind (·.head?)).map (den bs)) fn.results.toList ?_ (resS_mapM S (fun _ => rfl) _ h)]
    · rfl
    · intro rv _ y hy
      cases rv with
      | tmp t =>
        simp only [resS] at hy
        cases hx : s.get t with
        | none => rw [hx] at hy; simp at hy
        | some x =>
          rw [hx] at hy
          simp at hy
          subst hy
          have := (S.tm t x hx).1
          simp [resOp, Array.getD_eq_getD_getElem?, this]
      | cell t ty =>
        simp only [resS] at hy
        cases hx : s.get t with
        | none => rw [hx] at hy; simp at hy
        | some x =>
          rw [hx] at hy
          cases x with
          | p i o =>
            simp only at hy
            cases hK : s.K[i]? with
            | none => rw [hK] at hy; simp at hy
            | some k =>
              rw [hK] at hy; simp only at hy
              cases hv : ldS P ty k.cs o with
              | none => rw [hv] at hy; simp at hy
              | some v =>
                rw [hv] at hy
                simp [den] at hy
                subst hy
                have := (S.tm t _ hx).1
                have e : a.tmps.getD t undef = .pointer (some (adr bs i o)) := by simp [Array.getD_eq_getD_getElem?, this, den]
                simp only [resOp, e, asAddr, Sem.run_bind, Sem.run_pure, Result.andThen_ok]
                exact ldS_run hv (S.bx i k hK)
          | _ => simp at hy
  rw [results_op, Sem.run_bind, hm]
  simp only [Result.andThen_ok, Sem.run_pure]
  congr 1
  match ys with
  | [] => rfl
  | [x] => rfl
  | x :: y :: l => simp [retV]
def atEnd : List It → Bool
  | [] => true
  | .code .ret :: _ => true
  | _ => false
theorem sy_ret {c : Cfg} (S : Sy w0 r bs c.s F a w) {fn : Func} {R : Ending → World → Prop} {v : Value} (he : atEnd c.k = true)
    (hr : (resS P c.s fn.results.toList).map (retV bs) = some v) (hR : Gr w0 w r → R (.returned v) w) (hd : DF.d = [] := by rfl) : post P c.k (bodyPost P fn R) .normal a w := by
  obtain ⟨k, s⟩ := c
  cases hy : resS P s fn.results.toList with
  | none => simp only at hr; rw [hy] at hr; cases hr
  | some ys =>
    simp only at hr
    rw [hy] at hr; simp only [Option.map_some, Option.some.injEq] at hr; subst hr
    have h1 : a.defers = [] ∧ ∃ v, (results fn a.tmps).run P w = .ok v w ∧ R (.returned v) w := ⟨S.df.trans hd, _, resS_run S hy, hR S.gr⟩
    match k, he with
    | [], _ => exact h1
    | .code .ret :: k, _ => exact wp_ret (ret_sound h1 k)
theorem gb_refl' (w : World) (r : List Nat) : Gr w w r := ⟨rfl, rfl, rfl, Nat.le_refl _, fun _ _ _ => rfl⟩
def T0 (l : List SV) : List (Nat × SV) := l.zipIdx.map fun q => (q.2, q.1)
theorem lookup_T0 : ∀ (l : List SV) (i t : Nat) {x : SV}, ((l.zipIdx i).map fun q => (q.2, q.1)).lookup t = some x → i ≤ t ∧ l[t - i]? = some x
  | [], _, _, _, h => by simp at h
  | y :: l, i, t, x, h => by
    simp only [List.zipIdx_cons, List.map_cons, List.lookup_cons] at h
    cases ht : (t == i) with
    | true =>
      rw [ht] at h; simp at ht h; subst ht h
      simp
    | false =>
      rw [ht] at h; simp at ht
      obtain ⟨h1, h2⟩ := lookup_T0 l (i + 1) t h
      refine ⟨by omega, ?_⟩
      rw [show t - i = (t - (i + 1)) + 1 by omega]
      simpa using h2
def bodyOf (fn : Func) : Code := fn.body.getD .skip
def cfg0 (fn : Func) (args : Array Value) : Cfg := ⟨[.code (bodyOf fn)], ⟨args.size + (fn.ntmps - args.size), T0 (args.toList.map .v), []⟩⟩
theorem sy_enter {f : FuncId} {fn : Func} {args : Array Value} {w : World} {R : Ending → World → Prop} (hf : P.funcs[f]? = some fn) (hb : fn.body.isSome = true) (hd : DF.d = [] := by rfl)
    (h : ∀ a, Sy w [] [] (cfg0 fn args).s [] a w → post P (cfg0 fn args).k (bodyPost P fn R) .normal a w) : Calls P f args w R := by
  obtain ⟨c, hc⟩ := Option.isSome_iff_exists.1 hb
  have hbo : bodyOf fn = c := by unfold bodyOf; rw [hc]; rfl
  have hpost : ∀ Q a w, post P (cfg0 fn args).k Q .normal a w = c.wp P Q a w := fun Q a w => by show (bodyOf fn).wp P _ a w = _; rw [hbo]; rfl
  refine calls_of_wp hf hc ((hpost _ _ _).symm ▸ h _ ⟨hd.symm, by simp [cfg0], fun t x hx => ?_, rfl, fun i k hk => by simp [cfg0] at hk, fun i j hi => by simp at hi, fun i hi => by simp at hi, fun f hf => by simp at hf, gb_refl' _ _⟩)
  simp only [SS.get, cfg0, T0] at hx
  obtain ⟨h1, h2⟩ := lookup_T0 _ 0 t hx
  rw [Nat.sub_zero, List.getElem?_map] at h2
  cases ha : args.toList[t]? with
  | none => rw [ha] at h2; cases h2
  | some y =>
    rw [ha] at h2
    simp only [Option.map_some, Option.some.injEq] at h2; subst h2
    have hl : t < args.size := by have := (List.getElem?_eq_some_iff.1 ha).1; simpa using this
    refine ⟨?_, trivial⟩
    simp only [den]
    rw [Array.getElem?_append_left hl]
    rw [← Array.getElem?_toList]; exact ha
theorem sy_run {c : Cfg} (O : Opt) (n : Nat) (S : Sy w0 r bs c.s F a w) {Q : Exit → Act → World → Prop}
    (h : ∀ bs' a' w', Sy w0 r (bs ++ bs') (runC P O n c).s F a' w' → post P (runC P O n c).k Q .normal a' w') : post P c.k Q .normal a w := runC_sound n S h
theorem below_of_gr {w0 w : World} (h : Gr w0 w []) : Below w0.heap.size w0 w := ⟨h.os, h.tape, h.output, h.size, fun k hk => h.block k hk (by simp)⟩

/-! ### Facts -/
theorem Sy.fact (S : Sy w0 r bs s F a w) {f : RF} (hf : f ∈ F) : f.P w := (S.fs f hf).1
theorem Sy.add (S : Sy w0 r bs s F a w) (f : RF) (hP : f.P w) (ha : ∀ i, i < bs.length → ¬f.bl (bs.getD i 0)) : Sy w0 r bs s (f :: F) a w :=
  ⟨S.df, S.sz, S.tm, S.bl, S.bx, S.nd, S.lo, fun g hg => by
    rcases List.mem_cons.1 hg with rfl | hg
    · exact ⟨hP, ha⟩
    · exact S.fs g hg, S.gr⟩
/-- A fact on blocks that are older than the call. -/
theorem Sy.addOld (S : Sy w0 [] bs s F a w) (f : RF) (hP : f.P w) (ha : ∀ b, f.bl b → b < w0.heap.size) : Sy w0 [] bs s (f :: F) a w :=
  S.add f hP fun i hi hb => by
    rcases S.lo i hi with h | h
    · have := ha _ hb; omega
    · cases h
/-- A fact on blocks that a call has made. -/
theorem Sy.addNew {w1 : World} {s1 : SS} {a1 : Act} (S1 : Sy w0 r bs s1 F a1 w1) (S : Sy w0 r bs s F a w) (f : RF) (hP : f.P w) (ha : ∀ b, f.bl b → w1.heap.size ≤ b) : Sy w0 r bs s (f :: F) a w :=
  S.add f hP fun i hi hb => by
    have h1 := S1.lt hi
    have h2 := ha _ hb
    omega
theorem Sy.sub (S : Sy w0 r bs s F a w) {F' : List RF} (h : ∀ f ∈ F', f ∈ F) : Sy w0 r bs s F' a w :=
  ⟨S.df, S.sz, S.tm, S.bl, S.bx, S.nd, S.lo, fun g hg => S.fs g (h g hg), S.gr⟩
/-- A value in a slot is written otherwise. -/
theorem Sy.cast (S : Sy w0 r bs s F a w) (t : Nat) (v : Value) {v' : Value} (hg : s.get t = some (.v v')) (he : v' = v) : Sy w0 r bs (s.put (some t) (.v v)) F a w := by
  have h := S.tm t _ hg
  have h2 := S.put (some t) (x := .v v) trivial
  have e : a.put (some t) (den bs (.v v)) = a := by
    unfold Act.put
    simp only [den]
    obtain ⟨tmps, d⟩ := a
    simp only at h ⊢
    congr 1
    subst he
    have h3 := h.1
    simp only [den] at h3
    apply Array.ext_getElem?
    intro i
    by_cases hi : t = i
    · subst hi
      rw [Array.getElem?_setIfInBounds_self, h3]
      have := (Array.getElem?_eq_some_iff.1 h3).1
      simp [this]
    · rw [Array.getElem?_setIfInBounds_ne hi]
  rw [e] at h2
  exact h2
/-- A call that may also change the block g. -/
theorem Sy.grown {g : Nat} (S : Sy w0 r bs s F a w) {w' : World} (hg : w.grownBy w' (some g)) (h0 : g ∈ r ∨ w0.heap.size ≤ g) {F' : List RF} (hF : ∀ f ∈ F', f ∈ F ∧ ¬f.bl g) (hn : ∀ i, i < bs.length → bs.getD i 0 ≠ g) : Sy w0 r bs s F' a w' := by
  refine ⟨S.df, S.sz, S.tm, S.bl, fun i k h => ?_, S.nd, S.lo, fun f hf => ?_, ?_⟩
  · have hi : i < bs.length := by rw [S.bl]; exact (List.getElem?_eq_some_iff.1 h).1
    rw [hg.block _ (S.lt hi) (by simp; exact hn i hi)]; exact S.bx i k h
  · obtain ⟨h1, h2⟩ := hF f hf
    obtain ⟨h3, h4⟩ := S.fs f h1
    exact ⟨f.st w w' h3 (fun b hb => hg.block b (f.lt w h3 b hb) (by simp; intro e; exact h2 (e ▸ hb))), h4⟩
  · have G := S.gr
    exact ⟨hg.os.trans G.os, hg.tape.trans G.tape, hg.output.trans G.output, Nat.le_trans G.size hg.size, fun k hk hne => (hg.block k (Nat.lt_of_lt_of_le hk G.size) (by
      rcases h0 with h0 | h0
      · simp only [ne_eq, Option.some.injEq]; intro e; exact hne (e ▸ h0)
      · simp; omega)).trans (G.block k hk hne)⟩
theorem sy_callG {g : Nat} {c : Cfg} (S : Sy w0 r bs c.s F a w) (h0 : g ∈ r ∨ w0.heap.size ≤ g) {X : Type} {val : X → Value} {C : X → World → Prop} {f : FuncId} {args : Array Value} {Q : Exit → Act → World → Prop}
    (hC : Calls P f args w fun e w' => ∃ x, e = .returned (val x) ∧ C x w' ∧ w.grownBy w' (some g))
    (hh : (headC P c).map (fun q => (q.1, q.2.map (den bs))) = some (f, args.toList)) (F' : List RF) (hF : ∀ f ∈ F', f ∈ F ∧ ¬f.bl g) (hn : ∀ i, i < bs.length → bs.getD i 0 ≠ g)
    (h : ∀ x a' w', C x w' → w.grownBy w' (some g) → Sy w0 r bs (aftC c (.v (val x))).s F' a' w' → post P (aftC c (.v (val x))).k Q .normal a' w') : post P c.k Q .normal a w := by
  obtain ⟨k, s⟩ := c
  match k with
  | .ops all (o :: l) :: k =>
    obtain ⟨h1, h2⟩ := call_op S hh
    show wpList P all (post P k Q) (o :: l) a w
    refine wpList_step fun K hK => ?_
    rw [if_pos h1]
    unfold Oper.wp
    rw [h2, Oper.upon_enter]
    refine Calls.mono hC ?_
    rintro e w' ⟨x, rfl, hx, hb⟩
    exact hK _ _ (h x _ w' hx hb ((S.grown hb h0 hF hn).put o.dst (x := .v (val x)) trivial))
  | [] => simp [headC] at hh
  | .code _ :: _ => simp [headC] at hh
  | .blk _ :: _ => simp [headC] at hh
  | .rnd _ _ :: _ => simp [headC] at hh
  | .ops _ [] :: _ => simp [headC] at hh
theorem post_panic {Q : Exit → Act → World → Prop} {ch : List PanicEntry} : ∀ k : List It, post P k Q (.panic ch) a w = Q (.panic ch) a w
  | [] => rfl
  | .blk j :: k => post_panic k
  | .code c :: k => post_panic k
  | .ops _ _ :: k => post_panic k
  | .rnd _ _ :: k => post_panic k
/-- A call that panics, and nobody catches it. -/
theorem sy_panic {c : Cfg} (S : Sy w0 r bs c.s F a w) {f : FuncId} {args : Array Value} {ch : List PanicEntry} {fn : Func} {R : Ending → World → Prop}
    (hC : Calls P f args w fun e w' => e = .panicked ch ∧ Gr w w' r)
    (hh : (headC P c).map (fun q => (q.1, q.2.map (den bs))) = some (f, args.toList))
    (h : ∀ w', Gr w0 w' r → R (.panicked ch) w') (hd : DF.d = [] := by rfl) : post P c.k (bodyPost P fn R) .normal a w := by
  obtain ⟨k, s⟩ := c
  match k with
  | .ops all (o :: l) :: k =>
    obtain ⟨h1, h2⟩ := call_op S hh
    show wpList P all (post P k _) (o :: l) a w
    refine wpList_step fun K hK => ?_
    rw [if_pos h1]
    unfold Oper.wp
    rw [h2, Oper.upon_enter]
    refine Calls.mono hC ?_
    rintro e w' ⟨rfl, hb⟩
    show post P k _ (.panic ch) a w'
    rw [post_panic]
    have G := S.gr
    exact ⟨S.df.trans hd, h w' ⟨hb.os.trans G.os, hb.tape.trans G.tape, hb.output.trans G.output, Nat.le_trans G.size hb.size, fun k hk hne => (hb.block k (Nat.lt_of_lt_of_le hk G.size) hne).trans (G.block k hk hne)⟩⟩
  | [] => simp [headC] at hh
  | .code _ :: _ => simp [headC] at hh
  | .blk _ :: _ => simp [headC] at hh
  | .rnd _ _ :: _ => simp [headC] at hh
  | .ops _ [] :: _ => simp [headC] at hh

/-! ### A state that says less -/
def SV.inL (π : List Nat) : SV → Bool
  | .v _ => true
  | .p i _ => π.contains i
  | .s i _ _ _ => π.contains i
  | .f _ caps => caps.all fun q => π.contains q.1
def SV.ren (f : Nat → Nat) : SV → SV
  | .v x => .v x
  | .p i o => .p (f i) o
  | .s i o l c => .s (f i) o l c
  | .f fn caps => .f fn (caps.map fun q => (f q.1, q.2))
def okSel (π : List Nat) (n : Nat) : Bool := π.all (· < n) && (List.range π.length).all fun j => π.idxOf (π.getD j 0) == j
theorem lookup_mem : ∀ (T : List (Nat × SV)) {t : Nat} {x : SV}, T.lookup t = some x → (t, x) ∈ T
  | [], t, x, h => by simp at h
  | q :: T, t, x, h => by
    rw [List.lookup_cons] at h
    cases ht : (t == q.1) with
    | true => rw [ht] at h; simp at ht h; subst ht h; simp
    | false => rw [ht] at h; exact List.mem_cons_of_mem _ (lookup_mem T h)
theorem Sy.to (S : Sy w0 r bs s F a w) (π : List Nat) (s' : SS) (hp : okSel π s.K.length = true) (hn : s'.n = s.n) (hK : s'.K.map some = π.map fun i => s.K[i]?)
    (hI : (s'.T.all fun q => match s.get q.1 with
      | some x => x.inL π
      | none => false) = true)
    (hT : (s'.T.map fun q => (s.get q.1).map (SV.ren fun i => π.idxOf i)) = s'.T.map fun q => some q.2) : Sy w0 r (π.map fun i => bs.getD i 0) s' F a w := by
  unfold okSel at hp
  simp only [Bool.and_eq_true, List.all_eq_true, decide_eq_true_eq, beq_iff_eq, List.mem_range] at hp
  obtain ⟨h3, h5⟩ := hp
  have hl : bs.length = s.K.length := S.bl
  have hget : ∀ j, j < π.length → (π.map fun i => bs.getD i 0).getD j 0 = bs.getD (π.getD j 0) 0 := fun j hj => by
    simp [List.getD, List.getElem?_map, List.getElem?_eq_getElem hj]
  have hidx : ∀ i, i ∈ π → π.idxOf i < π.length ∧ π.getD (π.idxOf i) 0 = i := fun i hm => by
    have hlt := List.idxOf_lt_length_of_mem hm
    exact ⟨hlt, by simp [List.getD, List.getElem?_eq_getElem hlt]⟩
  have hadr : ∀ i o, i ∈ π → adr (π.map fun i => bs.getD i 0) (π.idxOf i) o = adr bs i o := fun i o hi => by
    unfold adr
    rw [hget _ (hidx i hi).1, (hidx i hi).2]
  have hKl : s'.K.length = π.length := by have := congrArg List.length hK; simpa using this
  refine ⟨S.df, by rw [hn]; exact S.sz, fun t x h => ?_, by simp [hKl], fun j k hk => ?_, fun i j hi hj he => ?_, fun i hi => ?_, fun f hf => ?_, S.gr⟩
  · have hm := lookup_mem s'.T h
    have h1 := List.map_inj_left.1 hT (t, x) hm
    have h2 := List.all_eq_true.1 hI (t, x) hm
    simp only at h1 h2
    cases hg : s.get t with
    | none => rw [hg] at h1; cases h1
    | some y =>
      rw [hg] at h1 h2
      simp only [Option.map_some, Option.some.injEq] at h1
      subst h1
      obtain ⟨g1, g2⟩ := S.tm t y hg
      cases y with
      | v v => exact ⟨g1, trivial⟩
      | p i o =>
        have hi : i ∈ π := by simpa [SV.inL] using h2
        exact ⟨by rw [g1]; simp only [den, SV.ren]; rw [hadr i o hi], by simpa [SV.ok, SV.ren] using (hidx i hi).1⟩
      | s i o l c =>
        have hi : i ∈ π := by simpa [SV.inL] using h2
        exact ⟨by rw [g1]; simp only [den, SV.ren]; rw [hadr i o hi], by simpa [SV.ok, SV.ren] using (hidx i hi).1⟩
      | f fn caps =>
        have hi : ∀ q ∈ caps, q.1 ∈ π := fun q hq => by have := List.all_eq_true.1 (show caps.all (fun q => π.contains q.1) = true from h2) q hq; simpa using this
        refine ⟨?_, ?_⟩
        · rw [g1]
          simp only [den, SV.ren, List.map_map]
          congr 3
          exact (List.map_congr_left fun q hq => by simp only [Function.comp]; rw [hadr q.1 q.2 (hi q hq)]).symm
        · intro q hq
          simp only [List.mem_map] at hq
          obtain ⟨q', hq', rfl⟩ := hq
          simpa using (hidx q'.1 (hi q' hq')).1
  · have hj : j < π.length := by rw [← hKl]; exact (List.getElem?_eq_some_iff.1 hk).1
    have e : (s'.K.map some)[j]? = some (some k) := by simp [hk]
    rw [hK] at e
    simp only [List.getElem?_map, List.getElem?_eq_getElem hj, Option.map_some, Option.some.injEq] at e
    rw [hget j hj, show π.getD j 0 = π[j] by simp [List.getD, List.getElem?_eq_getElem hj]]
    exact S.bx _ k e
  · simp only [List.length_map] at hi hj
    rw [hget i hi, hget j hj] at he
    have e1 : π.getD i 0 = π[i] := by simp [List.getD, List.getElem?_eq_getElem hi]
    have e2 : π.getD j 0 = π[j] := by simp [List.getD, List.getElem?_eq_getElem hj]
    rw [e1, e2] at he
    have := S.nd _ _ (by rw [hl]; exact h3 _ (List.getElem_mem hi)) (by rw [hl]; exact h3 _ (List.getElem_mem hj)) he
    have k1 := h5 i hi
    have k2 := h5 j hj
    rw [e1] at k1
    rw [e2] at k2
    rw [this] at k1
    omega
  · simp only [List.length_map] at hi
    rw [hget i hi]
    exact S.lo _ (by rw [hl]; have : π.getD i 0 = π[i] := by simp [List.getD, List.getElem?_eq_getElem hi]
                     rw [this]; exact h3 _ (List.getElem_mem hi))
  · obtain ⟨g1, g2⟩ := S.fs f hf
    refine ⟨g1, fun i hi => ?_⟩
    simp only [List.length_map] at hi
    rw [hget i hi]
    exact g2 _ (by rw [hl]; have : π.getD i 0 = π[i] := by simp [List.getD, List.getElem?_eq_getElem hi]
                   rw [this]; exact h3 _ (List.getElem_mem hi))

/-! ### Loops -/
def bodyL (c : Cfg) : Code :=
  match c.k with
  | .code (.loop b) :: _ => b
  | _ => .skip
def isL (c : Cfg) : Bool :=
  match c.k with
  | .code (.loop _) :: _ => true
  | _ => false
/-- A loop, as so many rounds at most. -/
theorem sy_loop {c : Cfg} (n : Nat) (hl : isL c = true) {Q : Exit → Act → World → Prop} (h : post P (.rnd n (bodyL c) :: c.k.tail) Q .normal a w) : post P c.k Q .normal a w := by
  obtain ⟨k, s⟩ := c
  match k, hl with
  | .code (.loop b) :: k, _ => exact wp_loop_rounds n h

theorem Sy.same (S : Sy w0 r bs s F a w) (t : Nat) {x y : SV} (hg : s.get t = some x) (hy : y.ok bs.length) (he : den bs y = den bs x) : Sy w0 r bs (s.put (some t) y) F a w := by
  have h := S.tm t _ hg
  have h2 := S.put (some t) hy
  have e : a.put (some t) (den bs y) = a := by
    unfold Act.put
    obtain ⟨tmps, d⟩ := a
    simp only at h ⊢
    congr 1
    apply Array.ext_getElem?
    intro i
    by_cases hi : t = i
    · subst hi
      rw [Array.getElem?_setIfInBounds_self, h.1, he]
      have := (Array.getElem?_eq_some_iff.1 h.1).1
      simp [this]
    · rw [Array.getElem?_setIfInBounds_ne hi]
  rw [e] at h2
  exact h2
/-- A pointer to a variable of the walk's own becomes a plain value. -/
theorem Sy.reify (S : Sy w0 r bs s F a w) (t i o : Nat) (hg : s.get t = some (.p i o)) : Sy w0 r bs (s.put (some t) (.v (.pointer (some (adr bs i o))))) F a w :=
  S.same t hg (y := .v _) trivial rfl
theorem sy_enterF {f : FuncId} {fn : Func} {args : Array Value} {w : World} {R : Ending → World → Prop} (r : List Nat) (F : List RF) (hF : ∀ f ∈ F, f.P w) (hf : P.funcs[f]? = some fn) (hb : fn.body.isSome = true) (hd : DF.d = [] := by rfl)
    (h : ∀ a, Sy w r [] (cfg0 fn args).s F a w → post P (cfg0 fn args).k (bodyPost P fn R) .normal a w) : Calls P f args w R := by
  obtain ⟨c, hc⟩ := Option.isSome_iff_exists.1 hb
  have hbo : bodyOf fn = c := by unfold bodyOf; rw [hc]; rfl
  have hpost : ∀ Q a w, post P (cfg0 fn args).k Q .normal a w = c.wp P Q a w := fun Q a w => by show (bodyOf fn).wp P _ a w = _; rw [hbo]; rfl
  refine calls_of_wp hf hc ((hpost _ _ _).symm ▸ h _ ⟨hd.symm, by simp [cfg0], fun t x hx => ?_, rfl, fun i k hk => by simp [cfg0] at hk, fun i j hi => by simp at hi, fun i hi => by simp at hi, fun f hf => ⟨hF f hf, fun i hi => by simp at hi⟩, gb_refl' _ _⟩)
  simp only [SS.get, cfg0, T0] at hx
  obtain ⟨h1, h2⟩ := lookup_T0 _ 0 t hx
  rw [Nat.sub_zero, List.getElem?_map] at h2
  cases ha : args.toList[t]? with
  | none => rw [ha] at h2; cases h2
  | some y =>
    rw [ha] at h2
    simp only [Option.map_some, Option.some.injEq] at h2; subst h2
    have hl : t < args.size := by have := (List.getElem?_eq_some_iff.1 ha).1; simpa using this
    refine ⟨?_, trivial⟩
    simp only [den]
    rw [Array.getElem?_append_left hl]
    rw [← Array.getElem?_toList]; exact ha
theorem gr_gb {w w' : World} {g : Nat} {r : List Nat} (h : w.grownBy w' (some g)) (hg : g ∈ r) : Gr w w' r := ⟨h.os, h.tape, h.output, h.size, fun k hk hne => h.block k hk (by simp only [ne_eq, Option.some.injEq]; intro e; exact hne (e ▸ hg))⟩
theorem gr_below {w w' : World} {r : List Nat} (h : Below w.heap.size w w') : Gr w w' r := ⟨h.os, h.tape, h.output, h.size, fun k hk _ => h.block k hk⟩
theorem gb_of_gr1 {w w' : World} {g : Nat} (h : Gr w w' [g]) : w.grownBy w' (some g) := ⟨h.os, h.tape, h.output, h.size, fun k hk hne => h.block k hk (by simp only [List.mem_singleton]; intro e; exact hne (by rw [e]))⟩
theorem gr_sub {w w' : World} {r r' : List Nat} (h : Gr w w' r) (hs : ∀ g ∈ r, g ∈ r') : Gr w w' r' := ⟨h.os, h.tape, h.output, h.size, fun k hk hne => h.block k hk fun hm => hne (hs k hm)⟩
def cfgR (fn : Func) (args : List SV) (K : List Bx) : Cfg := ⟨[.code (bodyOf fn)], ⟨args.length + (fn.ntmps - args.length), T0 args, K⟩⟩
/-- Into a call where own variables are handed in. -/
theorem sy_enterR {f : FuncId} {fn : Func} {w : World} {R : Ending → World → Prop} (r : List Nat) (bs : List Nat) (K : List Bx) (args : List SV) (F : List RF) (hl : bs.length = K.length) (hK : ∀ i k, K[i]? = some k → w.heap[bs.getD i 0]? = some (.cells k.cs.toArray k.ty (0, 0)))
    (hnd : ∀ i j, i < bs.length → j < bs.length → bs.getD i 0 = bs.getD j 0 → i = j) (hlo : ∀ i, i < bs.length → bs.getD i 0 ∈ r) (ha : ∀ x ∈ args, x.ok bs.length) (hF : ∀ f ∈ F, f.P w ∧ ∀ i, i < bs.length → ¬f.bl (bs.getD i 0)) (hf : P.funcs[f]? = some fn) (hb : fn.body.isSome = true) (hd : DF.d = [] := by rfl)
    (h : ∀ a, Sy w r bs (cfgR fn args K).s F a w → post P (cfgR fn args K).k (bodyPost P fn R) .normal a w) : Calls P f (args.map (den bs)).toArray w R := by
  obtain ⟨c, hc⟩ := Option.isSome_iff_exists.1 hb
  have hbo : bodyOf fn = c := by unfold bodyOf; rw [hc]; rfl
  have hpost : ∀ Q a w, post P (cfgR fn args K).k Q .normal a w = c.wp P Q a w := fun Q a w => by show (bodyOf fn).wp P _ a w = _; rw [hbo]; rfl
  refine calls_of_wp hf hc ((hpost _ _ _).symm ▸ h _ ⟨hd.symm, by simp [cfgR], fun t x hx => ?_, hl, hK, hnd, fun i hi => Or.inr (hlo i hi), hF, gb_refl' _ _⟩)
  simp only [SS.get, cfgR, T0] at hx
  obtain ⟨h1, h2⟩ := lookup_T0 _ 0 t hx
  rw [Nat.sub_zero] at h2
  have hlt : t < args.length := (List.getElem?_eq_some_iff.1 h2).1
  refine ⟨?_, ha x (List.mem_of_getElem? h2)⟩
  rw [Array.getElem?_append_left (by simpa using hlt)]
  simp [h2]
/-- Behind a call that changes an own variable. -/
def aftH (c : Cfg) (i : Nat) (k' : Bx) (x : SV) : Cfg := aftC ⟨c.k, c.s.setK i k'⟩ x
/-- A call that changes one own variable, and foreign ones that may change. -/
theorem sy_callH {c : Cfg} (S : Sy w0 r bs c.s F a w) (i : Nat) (k k' : Bx) (G : List Nat) (hk : c.s.K[i]? = some k) (hG : ∀ g ∈ G, g ∈ r ∨ w0.heap.size ≤ g) {v : Value} {C : World → Prop} {f : FuncId} {args : Array Value} {Q : Exit → Act → World → Prop}
    (hC : Calls P f args w fun e w' => e = .returned v ∧ C w' ∧ w'.heap[bs.getD i 0]? = some (.cells k'.cs.toArray k'.ty (0, 0)) ∧ Gr w w' (bs.getD i 0 :: G))
    (hh : (headC P c).map (fun q => (q.1, q.2.map (den bs))) = some (f, args.toList)) (F' : List RF) (hF : ∀ f ∈ F', f ∈ F ∧ ∀ g ∈ G, ¬f.bl g) (hn : ∀ j, j < bs.length → bs.getD j 0 ∉ G)
    (h : ∀ a' w', C w' → Sy w0 r bs (aftH c i k' (.v v)).s F' a' w' → post P (aftH c i k' (.v v)).k Q .normal a' w') : post P c.k Q .normal a w := by
  obtain ⟨kk, s⟩ := c
  match kk with
  | .ops all (o :: l) :: kk =>
    obtain ⟨h1, h2⟩ := call_op S hh
    show wpList P all (post P kk Q) (o :: l) a w
    refine wpList_step fun K hK => ?_
    rw [if_pos h1]
    unfold Oper.wp
    rw [h2, Oper.upon_enter]
    refine Calls.mono hC ?_
    rintro e w' ⟨rfl, hx, hb, hg⟩
    have hi : i < bs.length := by rw [S.bl]; exact (List.getElem?_eq_some_iff.1 hk).1
    have S1 : Sy w0 r bs (s.setK i k') F' a w' := by
      refine ⟨S.df, S.sz, S.tm, by simp [SS.setK, S.bl], fun j q hq => ?_, S.nd, S.lo, fun f hf => ?_, ?_⟩
      · have hq' : (s.K.set i k')[j]? = some q := hq
        by_cases hj : i = j
        · subst hj
          rw [List.getElem?_set_self (by rw [← S.bl]; exact hi)] at hq'
          simp only [Option.some.injEq] at hq'
          subst hq'
          exact hb
        · rw [List.getElem?_set_ne hj] at hq'
          have hjl : j < bs.length := by rw [S.bl]; exact (List.getElem?_eq_some_iff.1 hq').1
          rw [hg.block _ (S.lt hjl) (by
            intro hm
            rcases List.mem_cons.1 hm with e | hm
            · exact hj (S.nd j i hjl hi e).symm
            · exact hn j hjl hm)]
          exact S.bx j q hq'
      · obtain ⟨h3, h4⟩ := hF f hf
        obtain ⟨h5, h6⟩ := S.fs f h3
        exact ⟨f.st w w' h5 fun b hbl => hg.block b (f.lt w h5 b hbl) (by
          intro hm
          rcases List.mem_cons.1 hm with e | hm
          · exact h6 i hi (e ▸ hbl)
          · exact h4 b hm hbl), h6⟩
      · have G0 := S.gr
        refine ⟨hg.os.trans G0.os, hg.tape.trans G0.tape, hg.output.trans G0.output, Nat.le_trans G0.size hg.size, fun b hb' hne => (hg.block b (Nat.lt_of_lt_of_le hb' G0.size) ?_).trans (G0.block b hb' hne)⟩
        intro hm
        rcases List.mem_cons.1 hm with e | hm
        · rcases S.lo i hi with hl | hl
          · omega
          · exact hne (e ▸ hl)
        · rcases hG b hm with hr | hr
          · exact hne hr
          · omega
    exact hK _ _ (h _ w' hx (S1.put o.dst (x := .v v) trivial))
  | [] => simp [headC] at hh
  | .code _ :: _ => simp [headC] at hh
  | .blk _ :: _ => simp [headC] at hh
  | .rnd _ _ :: _ => simp [headC] at hh
  | .ops _ [] :: _ => simp [headC] at hh

/-- The end, whatever is asked of it. -/
theorem sy_retQ {c : Cfg} {Q : Exit → Act → World → Prop} (he : atEnd c.k = true) (h1 : Q .ret a w) (h2 : Q .normal a w) : post P c.k Q .normal a w := by
  obtain ⟨k, s⟩ := c
  match k, he with
  | [], _ => exact h2
  | .code .ret :: k, _ => exact wp_ret (ret_sound h1 k)
/-- A call that panics, whatever is asked of that. -/
theorem sy_panicQ {c : Cfg} (S : Sy w0 r bs c.s F a w) {f : FuncId} {args : Array Value} {ch : List PanicEntry} {Q : Exit → Act → World → Prop} {G : List Nat}
    (hC : Calls P f args w fun e w' => e = .panicked ch ∧ Gr w w' G) (hh : (headC P c).map (fun q => (q.1, q.2.map (den bs))) = some (f, args.toList)) (h : ∀ w', Gr w w' G → Q (.panic ch) a w') : post P c.k Q .normal a w := by
  obtain ⟨k, s⟩ := c
  match k with
  | .ops all (o :: l) :: k =>
    obtain ⟨h1, h2⟩ := call_op S hh
    show wpList P all (post P k _) (o :: l) a w
    refine wpList_step fun K hK => ?_
    rw [if_pos h1]
    unfold Oper.wp
    rw [h2, Oper.upon_enter]
    refine Calls.mono hC ?_
    rintro e w' ⟨rfl, hb⟩
    show post P k _ (.panic ch) a w'
    rw [post_panic]
    exact h w' hb
  | [] => simp [headC] at hh
  | .code _ :: _ => simp [headC] at hh
  | .blk _ :: _ => simp [headC] at hh
  | .rnd _ _ :: _ => simp [headC] at hh
  | .ops _ [] :: _ => simp [headC] at hh
/-- From a state that says less: the same from there on. -/
theorem Sy.lo0 (S : Sy w0 [] bs s F a w) : ∀ i, i < bs.length → w0.heap.size ≤ bs.getD i 0 := fun i hi => (S.lo i hi).elim id (fun h => by cases h)

/-! ### Step by step, where a test is open -/
/-- Into the region that comes next. -/
def regC (c : Cfg) : Cfg :=
  match c with
  | ⟨.code (.region _ ops false) :: k, s⟩ => ⟨.ops ops ops.toList :: k, s⟩
  | c => c
/-- So many of its operations. -/
def opsN (P : Program) : Nat → Cfg → Cfg
  | 0, c => c
  | n + 1, ⟨.ops all (o :: l) :: k, s⟩ => match wantS s all o with
    | some false => opsN P n ⟨.ops all l :: k, s.put o.dst (.v undef)⟩
    | some true => match sop P s o with
      | some s' => opsN P n ⟨.ops all l :: k, s'⟩
      | none => ⟨.ops all (o :: l) :: k, s⟩
    | none => ⟨.ops all (o :: l) :: k, s⟩
  | _ + 1, ⟨.ops all [] :: k, s⟩ => ⟨k, s⟩
  | _ + 1, c => c
theorem sy_reg {c : Cfg} (S : Sy w0 r bs c.s F a w) {Q : Exit → Act → World → Prop} (h : Sy w0 r bs (regC c).s F a w → post P (regC c).k Q .normal a w) : post P c.k Q .normal a w := by
  obtain ⟨k, s⟩ := c
  match k with
  | .code (.region id ops false) :: k => exact wp_region_list (h S)
  | [] => exact h S
  | .ops _ _ :: _ => exact h S
  | .blk _ :: _ => exact h S
  | .rnd _ _ :: _ => exact h S
  | .code (.region id ops true) :: k => exact h S
  | .code .skip :: _ => exact h S
  | .code (.seq _ _) :: _ => exact h S
  | .code (.cond _ _ _) :: _ => exact h S
  | .code (.block _ _) :: _ => exact h S
  | .code (.loop _) :: _ => exact h S
  | .code (.rangeFunc _ _ _ _) :: _ => exact h S
  | .code (.exit _) :: _ => exact h S
  | .code (.scope _) :: _ => exact h S
  | .code (.label _) :: _ => exact h S
  | .code (.goto _) :: _ => exact h S
  | .code .ret :: _ => exact h S
  | .code (.refuse _) :: _ => exact h S
theorem opsN_sound {Q : Exit → Act → World → Prop} : ∀ (n : Nat) {c : Cfg} {bs : List Nat} {a : Act} {w : World}, Sy w0 r bs c.s F a w →
    (∀ bs' a' w', Sy w0 r (bs ++ bs') (opsN P n c).s F a' w' → post P (opsN P n c).k Q .normal a' w') → post P c.k Q .normal a w
  | 0, c, bs, a, w, S, h => h [] a w (by rw [List.append_nil]; exact S)
  | n + 1, ⟨.ops all (o :: l) :: k, s⟩, bs, a, w, S, h => by
    unfold opsN at h
    cases hw : wantS s all o with
    | none => rw [hw] at h; exact h [] a w (by rw [List.append_nil]; exact S)
    | some b =>
      rw [hw] at h
      have hw' := wantS_sound S hw
      show wpList P all (post P k Q) (o :: l) a w
      cases b with
      | false =>
        simp only at h
        refine wpList_step fun K hK => ?_
        rw [hw']
        simp only [Bool.false_eq_true, if_false]
        refine hK _ _ ?_
        exact opsN_sound n (c := ⟨.ops all l :: k, s.put o.dst (.v undef)⟩) (S.put o.dst (x := .v undef) trivial) h
      | true =>
        simp only at h
        cases hs : sop P s o with
        | none => rw [hs] at h; exact h [] a w (by rw [List.append_nil]; exact S)
        | some s' =>
          rw [hs] at h
          simp only at h
          refine wpList_step fun K hK => ?_
          rw [hw', if_pos rfl]
          refine sop_sound S hs fun bs1 a1 w1 S1 => hK _ _ ?_
          exact opsN_sound n (c := ⟨.ops all l :: k, s'⟩) S1 fun bs2 a2 w2 S2 => h (bs1 ++ bs2) a2 w2 (by rw [← List.append_assoc]; exact S2)
  | n + 1, ⟨.ops all [] :: k, s⟩, bs, a, w, S, h => h [] a w (by rw [List.append_nil]; exact S)
  | n + 1, ⟨[], s⟩, bs, a, w, S, h => h [] a w (by rw [List.append_nil]; exact S)
  | n + 1, ⟨.code _ :: _, s⟩, bs, a, w, S, h => h [] a w (by rw [List.append_nil]; exact S)
  | n + 1, ⟨.blk _ :: _, s⟩, bs, a, w, S, h => h [] a w (by rw [List.append_nil]; exact S)
  | n + 1, ⟨.rnd _ _ :: _, s⟩, bs, a, w, S, h => h [] a w (by rw [List.append_nil]; exact S)
theorem sy_ops {c : Cfg} (n : Nat) (S : Sy w0 r bs c.s F a w) {Q : Exit → Act → World → Prop}
    (h : ∀ bs' a' w', Sy w0 r (bs ++ bs') (opsN P n c).s F a' w' → post P (opsN P n c).k Q .normal a' w') : post P c.k Q .normal a w := opsN_sound n S h
/-- The value in a slot is written otherwise. -/
def castC (c : Cfg) (t : Nat) (v : Value) : Cfg := ⟨c.k, c.s.put (some t) (.v v)⟩
theorem sy_cast {c : Cfg} (t : Nat) {v v' : Value} (S : Sy w0 r bs c.s F a w) (he : v' = v) (hg : c.s.get t = some (.v v')) {Q : Exit → Act → World → Prop}
    (h : Sy w0 r bs (castC c t v).s F a w → post P (castC c t v).k Q .normal a w) : post P c.k Q .normal a w := h (S.cast t v hg he)
/-- The test that comes next, decided. -/
def boolC (c : Cfg) : Option Bool :=
  match c with
  | ⟨.code (.cond x _ _) :: _, s⟩ => match s.val x with
    | some (.v (.bool b)) => some b
    | _ => none
  | _ => none
def condC (c : Cfg) (b : Bool) : Cfg :=
  match c with
  | ⟨.code (.cond _ x y) :: k, s⟩ => ⟨.code (if b then x else y) :: k, s⟩
  | c => c
theorem sy_cond {c : Cfg} {b' : Bool} (b : Bool) (S : Sy w0 r bs c.s F a w) (he : b' = b) (hb : boolC c = some b') {Q : Exit → Act → World → Prop}
    (h : Sy w0 r bs (condC c b).s F a w → post P (condC c b).k Q .normal a w) : post P c.k Q .normal a w := by
  subst he
  obtain ⟨k, s⟩ := c
  match k with
  | .code (.cond x y z) :: k =>
    simp only [boolC] at hb
    cases hv : s.val x with
    | none => rw [hv] at hb; cases hb
    | some u =>
      rw [hv] at hb
      cases u with
      | v u =>
        cases u with
        | bool b =>
          simp only [Option.some.injEq] at hb
          subst hb
          exact wp_cond (S.val hv).1 (h S)
        | _ => simp at hb
      | _ => simp at hb
  | [] => simp [boolC] at hb
  | .ops _ _ :: _ => simp [boolC] at hb
  | .blk _ :: _ => simp [boolC] at hb
  | .rnd _ _ :: _ => simp [boolC] at hb
  | .code (.region _ _ _) :: _ => simp [boolC] at hb
  | .code .skip :: _ => simp [boolC] at hb
  | .code (.seq _ _) :: _ => simp [boolC] at hb
  | .code (.block _ _) :: _ => simp [boolC] at hb
  | .code (.loop _) :: _ => simp [boolC] at hb
  | .code (.rangeFunc _ _ _ _) :: _ => simp [boolC] at hb
  | .code (.exit _) :: _ => simp [boolC] at hb
  | .code (.scope _) :: _ => simp [boolC] at hb
  | .code (.label _) :: _ => simp [boolC] at hb
  | .code (.goto _) :: _ => simp [boolC] at hb
  | .code .ret :: _ => simp [boolC] at hb
  | .code (.refuse _) :: _ => simp [boolC] at hb
/-- The load that comes next, of a cell that is not the walk's own. -/
def headL (P : Program) (c : Cfg) : Option Addr :=
  match c with
  | ⟨.ops all (o :: l) :: k, s⟩ => match wantS s all o, o.op with
    | some true, .load ty x => match s.val x, P.underlying ty with
      | some (.v (.pointer (some ad))), some d => if d.isRow then none else some ad
      | _, _ => none
    | _, _ => none
  | _ => none
theorem ldW_run {ty : TypeId} {d} {ad : Addr} {v : Value} (hu : P.underlying ty = some d) (hd : d.isRow = false) (hv : w.cell? ad = some v) : (loadVar ty ad).run P w = .ok v w := by
  have hagg : (isAgg ty).run P w = .ok false w := by
    unfold isAgg
    rw [Sem.run_bind, run_underlying hu w]
    cases d <;> simp_all
  unfold loadVar
  rw [Sem.run_bind, hagg]
  simp only [Result.andThen_ok, Bool.false_eq_true, if_false]
  simp only [load, Sem.run, hv]
theorem sy_ldf {c : Cfg} {ad : Addr} {v : Value} (S : Sy w0 r bs c.s F a w) (hv : w.cell? ad = some v) (hh : headL P c = some ad) {Q : Exit → Act → World → Prop}
    (h : ∀ a', Sy w0 r bs (aftC c (.v v)).s F a' w → post P (aftC c (.v v)).k Q .normal a' w) : post P c.k Q .normal a w := by
  obtain ⟨k, s⟩ := c
  match k with
  | .ops all (o :: l) :: k =>
    show wpList P all (post P k Q) (o :: l) a w
    refine wpList_step fun K hK => ?_
    unfold headL at hh
    simp only at hh
    cases hw : wantS s all o with
    | none => rw [hw] at hh; simp at hh
    | some b =>
      rw [hw] at hh
      cases b with
      | false => simp at hh
      | true =>
        cases ho : o.op <;> rw [ho] at hh <;> simp only [reduceCtorEq] at hh
        case load ty x =>
          cases hx : s.val x with
          | none => rw [hx] at hh; simp at hh
          | some y =>
            rw [hx] at hh
            cases y with
            | v y =>
              cases y with
              | pointer pa =>
                cases pa with
                | none => simp at hh
                | some ad' =>
                  cases hu : P.underlying ty with
                  | none => rw [hu] at hh; simp at hh
                  | some d =>
                    rw [hu] at hh
                    simp only at hh
                    cases hd : d.isRow with
                    | true => rw [hd] at hh; simp at hh
                    | false =>
                      rw [hd] at hh
                      simp only [Bool.false_eq_true, if_false, Option.some.injEq] at hh
                      subst hh
                      have h1 := (S.val hx).1
                      rw [wantS_sound S hw, if_pos rfl]
                      unfold Oper.wp execOp
                      simp only [ho, h1, den, Instr.loadAt, Instr.sureAddr, Sem.run_bind, Sem.run_pure, Result.andThen_ok, ldW_run hu hd hv]
                      exact hK _ _ (h _ (S.put o.dst (x := .v v) trivial))
              | _ => simp at hh
            | _ => simp at hh
  | [] => simp [headL] at hh
  | .code _ :: _ => simp [headL] at hh
  | .blk _ :: _ => simp [headL] at hh
  | .rnd _ _ :: _ => simp [headL] at hh
  | .ops _ [] :: _ => simp [headL] at hh
/-- What is left to run, written otherwise. -/
theorem sy_at {c : Cfg} {k : List It} (he : c.k = k) {Q : Exit → Act → World → Prop} (h : post P k Q .normal a w) : post P c.k Q .normal a w := by rw [he]; exact h
end
end Go.Proofs.YtfkmcibglaiakaaDoor.SZ
