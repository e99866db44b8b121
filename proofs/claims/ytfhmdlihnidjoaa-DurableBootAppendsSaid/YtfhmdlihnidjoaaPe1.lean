/-
  Merged: Zx, Zd, Sx, Ea, Eb
-/
import Derived.WalkKit
import Derived.Deep.MidRow
import Derived.Deep.RegionHeld
import Derived.LoopN
import Derived.Laws.AppendOwn
import Derived.Below
import Derived.ProofKit
import Derived.OpenShut
import Derived.KernelRfl
import Derived.OrdersHeld
import Derived.ScopeJumps
namespace Go.Proofs.Ytfhmdlihnidjoaa.SZ
set_option linter.unusedVariables false
set_option linter.unusedSectionVars false
set_option linter.unusedSimpArgs false
set_option maxRecDepth 100000
open Go Go.RowKit
inductive SV where
  | v (x : Value)
  | p (i o : Nat)
  | s (i o l c : Nat)
  | f (fn : FuncId) (caps : List (Nat × Nat))
def adr (bs : List Nat) (i o : Nat) : Addr := ⟨bs.getD i 0, o, none⟩
def den (bs : List Nat) : SV → Value
  | .v x => x
  | .p i o => .pointer (some (adr bs i o))
  | .s i o l c => .slice (some (adr bs i o)) l c
  | .f fn caps => .func (.func fn) #[] (caps.map fun q => Value.pointer (some (adr bs q.1 q.2))).toArray
def SV.ok (n : Nat) : SV → Prop
  | .v _ => True
  | .p i _ => i < n
  | .s i _ _ _ => i < n
  | .f _ caps => ∀ q ∈ caps, q.1 < n
theorem SV.ok_mono {n m : Nat} {x : SV} (h : x.ok n) (hm : n ≤ m) : x.ok m := by
  cases x with
  | v x => trivial
  | p i o => exact Nat.lt_of_lt_of_le h hm
  | s i o l c => exact Nat.lt_of_lt_of_le h hm
  | f fn caps => exact fun q hq => Nat.lt_of_lt_of_le (h q hq) hm
theorem QdU {bs cs : List Nat} {i o : Nat} (h : i < bs.length) : adr (bs ++ cs) i o = adr bs i o := by
  unfold adr; congr 1; simp [List.getD, List.getElem?_append_left h]
theorem QhR {bs cs : List Nat} {x : SV} (h : x.ok bs.length) : den (bs ++ cs) x = den bs x := by
  cases x with
  | v x => rfl
  | p i o => simp only [den]; rw [QdU h]
  | s i o l c => simp only [den]; rw [QdU h]
  | f fn caps =>
    simp only [den]; congr 2
    exact List.map_congr_left fun q hq => by rw [QdU (h q hq)]
structure Bx where
  ty : TypeId
  cs : List Value
structure SS where
  n : Nat
  T : List (Nat × SV)
  K : List Bx
def SS.get (s : SS) (t : Nat) : Option SV := s.T.lookup t
def SS.put (s : SS) (d : Option Nat) (x : SV) : SS :=
  match d with
  | none => s
  | some d => if d < s.n then { s with T := (d, x) :: s.T } else { s with T := s.T.filter fun q => q.1 != d }
def SS.val (s : SS) : Operand → Option SV
  | .tmp t => s.get t
  | .const v => some (.v v)
  | .func f => some (.v (.func (.func f) #[] #[]))
  | .global _ => none
def SS.env (s : SS) (x : Operand) : Value :=
  match s.val x with
  | some (.v y) => y
  | _ => undef
def SS.isV (s : SS) (x : Operand) : Bool :=
  match s.val x with
  | some (.v _) => true
  | _ => false
structure RF where
  bl : Nat → Prop
  P : World → Prop
  lt : ∀ w, P w → ∀ b, bl b → b < w.heap.size
  st : ∀ w w', P w → (∀ b, bl b → w'.heap[b]? = w.heap[b]?) → P w'
class DF where
  d : List Deferred
instance (priority := low) noDF : DF := ⟨[]⟩
class KP where
  keep : List Nat
instance (priority := low) noKP : KP := ⟨[]⟩
structure Gr (w w' : World) (r : List Nat) : Prop where
  os : w'.os = w.os
  tape : w'.tape = w.tape
  output : w'.output = w.output
  size : w.heap.size ≤ w'.heap.size
  block : ∀ k, k < w.heap.size → k ∉ r → w'.heap[k]? = w.heap[k]?
structure Sy [DF] (w0 : World) (r : List Nat) (bs : List Nat) (s : SS) (F : List RF) (a : Act) (w : World) : Prop where
  df : a.defers = DF.d
  sz : a.tmps.size = s.n
  tm : ∀ t x, s.get t = some x → a.tmps[t]? = some (den bs x) ∧ x.ok bs.length
  bl : bs.length = s.K.length
  bx : ∀ i k, s.K[i]? = some k → w.heap[bs.getD i 0]? = some (.cells k.cs.toArray k.ty (0, 0))
  nd : ∀ i j, i < bs.length → j < bs.length → bs.getD i 0 = bs.getD j 0 → i = j
  lo : ∀ i, i < bs.length → w0.heap.size ≤ bs.getD i 0 ∨ bs.getD i 0 ∈ r
  fs : ∀ f ∈ F, f.P w ∧ ∀ i, i < bs.length → ¬f.bl (bs.getD i 0)
  gr : Gr w0 w r
section
variable [DF]
variable {P : Program} {w0 : World} {r : List Nat} {bs : List Nat} {s : SS} {F : List RF} {a : Act} {w : World}
theorem Sy.val (S : Sy w0 r bs s F a w) {x : Operand} {y : SV} (h : s.val x = some y) : a.eval x = den bs y ∧ y.ok bs.length := by
  cases x with
  | tmp t =>
    obtain ⟨h1, h2⟩ := S.tm t y h
    exact ⟨by simp [Act.eval, Array.getD_eq_getD_getElem?, h1], h2⟩
  | const v => simp only [SS.val, Option.some.injEq] at h; subst h; exact ⟨rfl, trivial⟩
  | global g => simp [SS.val] at h
  | func f => simp only [SS.val, Option.some.injEq] at h; subst h; exact ⟨rfl, trivial⟩
theorem Sy.env (S : Sy w0 r bs s F a w) {x : Operand} (h : s.isV x = true) : a.eval x = s.env x := by
  unfold SS.isV at h
  unfold SS.env
  cases hx : s.val x with
  | none => rw [hx] at h; cases h
  | some y =>
    rw [hx] at h
    cases y with
    | v y => exact (S.val hx).1
    | _ => cases h
theorem Qc5 {T : List (Nat × SV)} {d t : Nat} {x : SV} (h : (T.filter fun q => q.1 != d).lookup t = some x) : t ≠ d ∧ T.lookup t = some x := by
  induction T with
  | nil => simp at h
  | cons q T ih =>
    by_cases hq : q.1 = d
    · have e : (q.1 != d) = false := by simp [hq]
      rw [List.filter_cons, e] at h
      simp only [Bool.false_eq_true, if_false] at h
      obtain ⟨h1, h2⟩ := ih h
      refine ⟨h1, ?_⟩
      rw [List.lookup_cons, show (t == q.1) = false by simp; omega]
      exact h2
    · have e : (q.1 != d) = true := by simp [hq]
      rw [List.filter_cons, e] at h
      simp only [if_true] at h
      rw [List.lookup_cons] at h ⊢
      cases ht : (t == q.1) with
      | true => rw [ht] at h; simp at ht; exact ⟨by omega, h⟩
      | false => rw [ht] at h; exact ih h
theorem Sy.put (S : Sy w0 r bs s F a w) (d : Option Nat) {x : SV} (hx : x.ok bs.length) : Sy w0 r bs (s.put d x) F (a.put d (den bs x)) w := by
  cases d with
  | none => exact S
  | some d =>
    unfold SS.put Act.put
    simp only
    split
    · rename_i hd
      refine ⟨S.df, by simp [S.sz], fun t y h => ?_, S.bl, S.bx, S.nd, S.lo, S.fs, S.gr⟩
      unfold SS.get at h
      simp only [List.lookup_cons] at h
      cases ht : (t == d) with
      | true =>
        rw [ht] at h; simp at ht; subst ht
        simp only [Option.some.injEq] at h; subst h
        exact ⟨by simp [S.sz, hd], hx⟩
      | false =>
        rw [ht] at h; simp at ht
        have := S.tm t y h
        exact ⟨by rw [Array.getElem?_setIfInBounds_ne (by omega)]; exact this.1, this.2⟩
    · refine ⟨S.df, by simp [S.sz], fun t y h => ?_, S.bl, S.bx, S.nd, S.lo, S.fs, S.gr⟩
      obtain ⟨h1, h2⟩ := Qc5 (T := s.T) h
      have := S.tm t y h2
      exact ⟨by rw [Array.getElem?_setIfInBounds_ne (by omega)]; exact this.1, this.2⟩
theorem Sy.lt (S : Sy w0 r bs s F a w) {i : Nat} (h : i < bs.length) : bs.getD i 0 < w.heap.size := by
  have hk : i < s.K.length := by rw [← S.bl]; exact h
  have := S.bx i _ (List.getElem?_eq_getElem hk)
  rcases Nat.lt_or_ge (bs.getD i 0) w.heap.size with h1 | h1
  · exact h1
  · rw [Array.getElem?_eq_none h1] at this; cases this
theorem Sy.below (S : Sy w0 r bs s F a w) {w' : World} (hb : Below w.heap.size w w') : Sy w0 r bs s F a w' := by
  have hk : ∀ i, i < bs.length → w'.heap[bs.getD i 0]? = w.heap[bs.getD i 0]? := fun i hi => hb.block _ (S.lt hi)
  refine ⟨S.df, S.sz, S.tm, S.bl, fun i k h => ?_, S.nd, S.lo, fun f hf => ?_, ?_⟩
  · have hi : i < bs.length := by rw [S.bl]; exact (List.getElem?_eq_some_iff.1 h).1
    rw [hk i hi]; exact S.bx i k h
  · obtain ⟨h1, h2⟩ := S.fs f hf
    exact ⟨f.st w w' h1 (fun b hb' => hb.block b (f.lt w h1 b hb')), h2⟩
  · have g := S.gr
    exact ⟨hb.os.trans g.os, hb.tape.trans g.tape, hb.output.trans g.output, Nat.le_trans g.size hb.size, fun k hk hne => (hb.block k (Nat.lt_of_lt_of_le hk g.size)).trans (g.block k hk hne)⟩
theorem Qba {bs : List Nat} {b i : Nat} : (bs ++ [b]).getD i 0 = if i < bs.length then bs.getD i 0 else if i = bs.length then b else 0 := by
  split
  · rename_i h; simp [List.getD, List.getElem?_append_left h]
  · rename_i h
    split
    · rename_i h2; subst h2; simp [List.getD]
    · rename_i h2; simp [List.getD, List.getElem?_append_right (Nat.le_of_not_lt h)]; rw [List.getElem?_eq_none (by simp; omega)]; rfl
def SS.new (s : SS) (k : Bx) : SS := { s with K := s.K ++ [k] }
theorem Sy.new (S : Sy w0 r bs s F a w) (k : Bx) : Sy w0 r (bs ++ [w.heap.size]) (s.new k) F a (w.alloc (.cells k.cs.toArray k.ty (0, 0))) := by
  have hb : Below w.heap.size w (w.alloc (.cells k.cs.toArray k.ty (0, 0))) := (Below.refl _ _).alloc (Nat.le_refl _) _
  have S' := S.below hb
  have hl : (bs ++ [w.heap.size]).length = bs.length + 1 := by simp
  have hlt : ∀ i, i < bs.length → bs.getD i 0 < w.heap.size := fun i hi => S.lt hi
  refine ⟨S'.df, S'.sz, fun t x h => ?_, by simp [SS.new, S.bl], fun i k' h => ?_, fun i j hi hj he => ?_, fun i hi => ?_, fun f hf => ?_, S'.gr⟩
  · obtain ⟨h1, h2⟩ := S'.tm t x h
    exact ⟨by rw [QhR h2]; exact h1, SV.ok_mono h2 (by omega)⟩
  · have h' : (s.K ++ [k])[i]? = some k' := h
    rw [Qba]
    by_cases hi : i < bs.length
    · rw [if_pos hi]
      rw [List.getElem?_append_left (by rw [← S.bl]; exact hi)] at h'
      exact S'.bx i k' h'
    · rw [if_neg hi]
      have hi2 : i = bs.length := by
        have := (List.getElem?_eq_some_iff.1 h').1
        simp at this
        rw [← S.bl] at this
        omega
      rw [if_pos hi2]
      rw [hi2, S.bl, List.getElem?_append_right (Nat.le_refl _)] at h'
      simp at h'
      subst h'
      exact heap_alloc_new w _
  · rw [hl] at hi hj
    rw [Qba, Qba] at he
    by_cases h1 : i < bs.length <;> by_cases h2 : j < bs.length
    · rw [if_pos h1, if_pos h2] at he; exact S.nd i j h1 h2 he
    · rw [if_pos h1, if_neg h2, if_pos (by omega)] at he; have := hlt i h1; omega
    · rw [if_neg h1, if_pos h2, if_pos (by omega)] at he; have := hlt j h2; omega
    · omega
  · rw [hl] at hi
    rw [Qba]
    by_cases h1 : i < bs.length
    · rw [if_pos h1]; exact S.lo i h1
    · rw [if_neg h1, if_pos (by omega)]; exact Or.inl S.gr.size
  · obtain ⟨h1, h2⟩ := S'.fs f hf
    refine ⟨h1, fun i hi => ?_⟩
    rw [hl] at hi
    rw [Qba]
    by_cases h3 : i < bs.length
    · rw [if_pos h3]; exact h2 i h3
    · rw [if_neg h3, if_pos (by omega)]
      intro he
      have := f.lt w (S.fs f hf).1 _ he
      omega
theorem Sy.newv (S : Sy w0 r bs s F a w) (k : Bx) (d : Option Nat) {x : SV} (hx : x.ok (bs.length + 1)) : Sy w0 r (bs ++ [w.heap.size]) ((s.new k).put d x) F (a.put d (den (bs ++ [w.heap.size]) x)) (w.alloc (.cells k.cs.toArray k.ty (0, 0))) :=
  (S.new k).put d (by simpa using hx)
def setL : List Value → Nat → List Value → List Value
  | cs, _, [] => cs
  | cs, o, v :: r => setL (cs.set o v) (o + 1) r
theorem Qbs (b : Nat) (ty : TypeId) : ∀ (vs : List Value) (o : Nat) (w : World) (cs : List Value), w.heap[b]? = some (.cells cs.toArray ty (0, 0)) → (w.setCells b o vs).heap[b]? = some (.cells (setL cs o vs).toArray ty (0, 0))
  | [], _, _, _, h => h
  | v :: r, o, w, cs, h => by
    rw [World.setCells, setL]
    refine Qbs b ty r (o + 1) _ (cs.set o v) ?_
    simp only [World.setCell, Array.getElem?_modify]
    simp [h]
theorem setCells_os (b : Nat) : ∀ (vs : List Value) (o : Nat) (w : World), (w.setCells b o vs).os = w.os ∧ (w.setCells b o vs).tape = w.tape ∧ (w.setCells b o vs).output = w.output ∧ (w.setCells b o vs).heap.size = w.heap.size ∧ ∀ k, k ≠ b → (w.setCells b o vs).heap[k]? = w.heap[k]?
  | [], _, _ => ⟨rfl, rfl, rfl, rfl, fun _ _ => rfl⟩
  | v :: r, o, w => by
    obtain ⟨h1, h2, h3, h4, h5⟩ := setCells_os b r (o + 1) (w.setCell ⟨b, o, none⟩ v)
    exact ⟨h1, h2, h3, h4.trans (by simp [World.setCell]), fun k hk => (h5 k hk).trans (Below.heap_setCell _ _ _ _ hk)⟩
def SS.setK (s : SS) (i : Nat) (k : Bx) : SS := { s with K := s.K.set i k }
theorem Sy.store (S : Sy w0 r bs s F a w) {i o : Nat} {k : Bx} (hk : s.K[i]? = some k) (vs : List Value) : Sy w0 r bs (s.setK i ⟨k.ty, setL k.cs o vs⟩) F a (w.setCells (bs.getD i 0) o vs) := by
  have hi : i < bs.length := by rw [S.bl]; exact (List.getElem?_eq_some_iff.1 hk).1
  obtain ⟨h1, h2, h3, h4, h5⟩ := setCells_os (bs.getD i 0) vs o w
  refine ⟨S.df, S.sz, S.tm, by simp [SS.setK, S.bl], fun j k' h => ?_, S.nd, S.lo, fun f hf => ?_, ?_⟩
  · have h' : (s.K.set i ⟨k.ty, setL k.cs o vs⟩)[j]? = some k' := h
    by_cases hj : i = j
    · subst hj
      rw [List.getElem?_set_self (by rw [← S.bl]; exact hi)] at h'
      simp only [Option.some.injEq] at h'
      subst h'
      exact Qbs _ _ vs o w k.cs (S.bx i k hk)
    · rw [List.getElem?_set_ne hj] at h'
      have hjl : j < bs.length := by rw [S.bl]; exact (List.getElem?_eq_some_iff.1 h').1
      rw [h5 _ (fun he => hj (S.nd j i hjl hi he).symm)]
      exact S.bx j k' h'
  · obtain ⟨g1, g2⟩ := S.fs f hf
    exact ⟨f.st w _ g1 (fun b hb => h5 b (fun he => g2 i hi (he ▸ hb))), g2⟩
  · have g := S.gr
    refine ⟨h1.trans g.os, h2.trans g.tape, h3.trans g.output, by rw [h4]; exact g.size, fun b hb hne => ?_⟩
    rw [h5 b ?_]
    · exact g.block b hb hne
    · intro he
      rcases S.lo i hi with hl | hl
      · omega
      · exact hne (by rw [he]; exact hl)
theorem Sy.drew (S : Sy w0 r bs s F a w) : Sy w0 r bs s F a w.drew :=
  S.below ⟨rfl, rfl, rfl, Nat.le_refl _, fun _ _ => rfl⟩
def pev (P : Program) {α : Type} : Sem α → Option α
  | .pure a => some a
  | .program k => pev P (k P)
  | .mark _ k => pev P k
  | _ => none
theorem pev_run {α : Type} {P : Program} (m : Sem α) {x : α} (h : pev P m = some x) (w : World) : m.run P w = .ok x w := by
  induction m with
  | pure a => simp only [pev, Option.some.injEq] at h; subst h; rfl
  | program k ih => simp only [pev] at h; exact ih P h
  | mark m k ih => simp only [pev] at h; exact ih h
  | _ => simp [pev] at h
theorem Qaq {α β : Type} {l : Array α} {f g : α → β} (h : ∀ x ∈ l.toList, f x = g x) : l.map f = l.map g := by
  apply Array.ext'
  simp only [Array.toList_map]
  exact List.map_congr_left h
theorem execOp_congr {ρ ρ' : Operand → Value} (o : Oper) (h : ∀ x ∈ o.op.operands.toList, ρ x = ρ' x) (hs : ∀ cs b, o.op ≠ .select cs b) : execOp ρ o = execOp ρ' o := by
  obtain ⟨dst, op, ty, pos, after, guard⟩ := o
  simp only at h hs
  cases op <;> simp only [Op.operands] at h <;> simp only [execOp]
  case build t parts =>
    have : (parts.map fun (i, x) => (i, ρ x)) = (parts.map fun (i, x) => (i, ρ' x)) := Qaq fun q hq => by
      show (q.1, ρ q.2) = (q.1, ρ' q.2)
      rw [h q.2 (by simp; exact ⟨q.1, by simpa using hq⟩)]
    rw [this]
  case buildSlice t n parts =>
    have : (parts.map fun (i, x) => (i, ρ x)) = (parts.map fun (i, x) => (i, ρ' x)) := Qaq fun q hq => by
      show (q.1, ρ q.2) = (q.1, ρ' q.2)
      rw [h q.2 (by simp; exact ⟨q.1, by simpa using hq⟩)]
    rw [this]
  case makeFunc fn first captured =>
    rw [Qaq (g := ρ') fun q hq => h q (by simp; left; simpa using hq), Qaq (l := captured) (g := ρ') fun q hq => h q (by simp; right; simpa using hq)]
  case makeMap t x => cases x <;> simp_all
  case slice t x l hh m => cases l <;> cases hh <;> cases m <;> simp_all
  case call c =>
    have ha : c.args.map ρ = c.args.map ρ' := Qaq fun q hq => h q (by simp [Call.operands]; right; simpa using hq)
    have hr : resolve ρ c ty = resolve ρ' c ty := by
      unfold resolve
      rw [ha]
      cases hc : c.callee with
      | builtin b => rfl
      | invoke rv m => simp only; rw [h rv (by simp [Call.operands, hc])]
      | value f => simp only; rw [h f (by simp [Call.operands, hc])]
    rw [hr]
  case go c =>
    have ha : c.args.map ρ = c.args.map ρ' := Qaq fun q hq => h q (by simp [Call.operands]; right; simpa using hq)
    have hr : resolve ρ c ty = resolve ρ' c ty := by
      unfold resolve
      rw [ha]
      cases hc : c.callee with
      | builtin b => rfl
      | invoke rv m => simp only; rw [h rv (by simp [Call.operands, hc])]
      | value f => simp only; rw [h f (by simp [Call.operands, hc])]
    rw [hr]
  case defer c =>
    have ha : c.args.map ρ = c.args.map ρ' := Qaq fun q hq => h q (by simp [Call.operands]; right; simpa using hq)
    have hr : resolve ρ c ty = resolve ρ' c ty := by
      unfold resolve
      rw [ha]
      cases hc : c.callee with
      | builtin b => rfl
      | invoke rv m => simp only; rw [h rv (by simp [Call.operands, hc])]
      | value f => simp only; rw [h f (by simp [Call.operands, hc])]
    rw [hr]
  case select cs b => exact absurd rfl (hs cs b)
  all_goals simp_all
def ldS (P : Program) (ty : TypeId) (cs : List Value) (o : Nat) : Option Value :=
  match P.underlying ty, (P.info? ty).map (·.size) with
  | some d, some n => if d.isRow then (if o + n ≤ cs.length then some (.agg ((cs.drop o).take n).toArray) else none) else cs[o]?
  | _, _ => none
def stS (P : Program) (ty : TypeId) (cs : List Value) (o : Nat) (v : Value) : Option (List Value) :=
  match (P.info? ty).map (·.size) with
  | some n => if v.cells.size = n ∧ o + n ≤ cs.length ∧ v.cells.toList.all (·.oneCell') = true then some (setL cs o v.cells.toList) else none
  | none => none
def zeroS (P : Program) (ty : TypeId) : Option (List Value) := (pev P (zeroValue ty)).map (·.cells.toList)
def fieldS (P : Program) (t : TypeId) (f : Nat) : Option Nat :=
  match P.underlying t with
  | some (.struct fields) => match fields[f]? with
    | some fl => match (P.info? fl.type).map (·.size) with
      | some n => if n = 0 then none else some fl.offset
      | none => none
    | none => none
  | _ => none
def notSel : Op → Bool
  | .select _ _ => false
  | _ => true
def QiQ (P : Program) (s : SS) (o : Oper) : Option SS :=
  match o.op.operands.toList.all s.isV && notSel o.op with
  | true => match pev P (execOp s.env o) with
    | some (.value x) => some (s.put o.dst (.v x))
    | _ => none
  | false => none
def Qh_ (s : SS) : List Operand → Option (List (Nat × Nat))
  | [] => some []
  | x :: r => match s.val x, Qh_ s r with
    | some (.p i o), some l => some ((i, o) :: l)
    | _, _ => none
def bslS (P : Program) (t : TypeId) (len : Nat) (parts : Array (Nat × Value)) : Option Bx :=
  match P.underlying t with
  | some (.slice elem) => match (P.info? elem).map (·.size), pev P (zeroValue elem) with
    | some size, some z => if len * size = 0 ∨ len * size > 2 ^ 24 then none else
      match Instr.fill (fun i => some (i * size, size)) ((Array.range (len * size)).map (z.cells[· % z.cells.size]!)) parts.toList with
      | some cells => some ⟨elem, cells.toList⟩
      | none => none
    | _, _ => none
  | _ => none
def sop (P : Program) (s : SS) (o : Oper) : Option SS :=
  match o.op with
  | .move x => (s.val x).map (s.put o.dst)
  | .assign x => (s.val x).map (s.put o.dst)
  | .load ty x => match s.val x with
    | some (.p i off) => match s.K[i]? with
      | some k => (ldS P ty k.cs off).map fun v => s.put o.dst (.v v)
      | none => none
    | _ => none
  | .store ty x y => match s.val x, s.val y with
    | some (.p i off), some (.v v) => match s.K[i]? with
      | some k => (stS P ty k.cs off v).map fun cs => (s.setK i ⟨k.ty, cs⟩).put o.dst (.v undef)
      | none => none
    | _, _ => none
  | .alloc ty => (zeroS P ty).map fun cs => (s.new ⟨ty, cs⟩).put o.dst (.p s.K.length 0)
  | .box ty x => match s.val x with
    | some (.v v) => some ((s.new ⟨ty, v.cells.toList⟩).put o.dst (.p s.K.length 0))
    | _ => none
  | .buildSlice t len parts => if parts.toList.all (fun q => s.isV q.2) then
      (bslS P t len (parts.map fun (i, x) => (i, s.env x))).map fun k => (s.new k).put o.dst (.s s.K.length 0 len len)
    else none
  | .fieldAddr t x f => match s.val x with
    | some (.p i off) => (fieldS P t f).map fun q => s.put o.dst (.p i (off + q))
    | some (.v _) => QiQ P s o
    | _ => none
  | .nilCheck x => match s.val x with
    | some (.p i off) => some (s.put o.dst (.p i off))
    | some (.v _) => QiQ P s o
    | _ => none
  | .makeFunc (.func fn) first captured => if first.size = 0 then
      match Qh_ s captured.toList with
      | some l => some (s.put o.dst (.f fn l))
      | none => QiQ P s o
    else QiQ P s o
  | _ => QiQ P s o
theorem Qa2 (S : Sy w0 r bs s F a w) {o : Oper} {s' : SS} (h : QiQ P s o = some s') {K : Act → World → Prop} {Q : Exit → Act → World → Prop}
    (hk : ∀ bs' a' w', Sy w0 r (bs ++ bs') s' F a' w' → K a' w') : o.wp P a w K Q := by
  unfold QiQ at h
  cases hc : (o.op.operands.toList.all s.isV && notSel o.op) with
  | false => rw [hc] at h; cases h
  | true =>
    rw [hc] at h
    simp only [Bool.and_eq_true, List.all_eq_true] at hc
    obtain ⟨h1, h2⟩ := hc
    have he : execOp a.eval o = execOp s.env o := execOp_congr o (fun x hx => S.env (h1 x hx)) (fun cs b e => by rw [e] at h2; cases h2)
    cases hp : pev P (execOp s.env o) with
    | none => rw [hp] at h; cases h
    | some n =>
      rw [hp] at h
      cases n <;> simp at h
      rename_i x
      subst h
      unfold Oper.wp
      rw [he, pev_run _ hp w, Oper.upon_value]
      refine hk [] _ _ ?_
      rw [List.append_nil]
      exact S.put o.dst (x := .v x) trivial
theorem run_info {ty : TypeId} {n : Nat} (h : (P.info? ty).map (·.size) = some n) (w : World) : (sizeOf ty).run P w = .ok n w := by
  cases hq : P.info? ty with
  | none => rw [hq] at h; cases h
  | some i => rw [hq] at h; simp at h; simp [sizeOf, typeInfo, hq, h]
section
variable {b : Nat} {cs : List Value} {ty : TypeId} {o : Nat} (h : w.heap[b]? = some (.cells cs.toArray ty (0, 0)))
include b cs ty o h
theorem Qbp : w.cell? ⟨b, o, none⟩ = cs[o]? := by
  simp [World.cell?, h]
theorem frozen_of_heap : w.frozen? ⟨b, o, none⟩ = false := by
  simp [World.frozen?, h]
end
theorem Qeo {ty ty' : TypeId} {cs : List Value} {b o : Nat} {v : Value} (h : ldS P ty cs o = some v) (hh : w.heap[b]? = some (.cells cs.toArray ty' (0, 0))) : (loadVar ty ⟨b, o, none⟩).run P w = .ok v w := by
  unfold ldS at h
  cases hu : P.underlying ty with
  | none => rw [hu] at h; simp at h
  | some d =>
    cases hi : (P.info? ty).map (·.size) with
    | none => rw [hu, hi] at h; simp at h
    | some n =>
      rw [hu, hi] at h
      simp only at h
      by_cases hd : d.isRow
      · rw [if_pos hd] at h
        split at h
        · rename_i hn
          simp only [Option.some.injEq] at h
          subst h
          refine run_loadVar_mid w b o ty _ d ?_ hu hd ?_
          · intro j x hj
            rw [Qbp hh]
            rw [List.getElem?_take] at hj
            split at hj
            · rw [List.getElem?_drop] at hj; exact hj
            · cases hj
          · rw [hi]; simp; omega
        · cases h
      · rw [if_neg hd] at h
        have hagg : (isAgg ty).run P w = .ok false w := by
          unfold isAgg
          rw [Sem.run_bind, run_underlying hu w]
          cases d <;> simp_all
        unfold loadVar
        rw [Sem.run_bind, hagg]
        simp only [Result.andThen_ok, Bool.false_eq_true, if_false]
        simp only [load, Sem.run, (Qbp hh).trans h]
theorem Qf8 {ty ty' : TypeId} {cs cs' : List Value} {b o : Nat} {v : Value} (h : stS P ty cs o v = some cs') (hh : w.heap[b]? = some (.cells cs.toArray ty' (0, 0))) : (storeVar ty ⟨b, o, none⟩ v).run P w = .ok () (w.setCells b o v.cells.toList) ∧ cs' = setL cs o v.cells.toList := by
  unfold stS at h
  cases hi : (P.info? ty).map (·.size) with
  | none => rw [hi] at h; simp at h
  | some n =>
    rw [hi] at h
    simp only at h
    split at h
    · rename_i hc
      obtain ⟨h1, h2, h3⟩ := hc
      simp only [Option.some.injEq] at h
      refine ⟨?_, h.symm⟩
      have hs := run_storeCells_cells (P := P) b o v.cells.toList 0 w (fun j hj => by
        rw [Qbp hh]
        have hl : v.cells.toList.length = n := by rw [← h1]; simp
        rw [Nat.add_zero, List.getElem?_eq_getElem (by omega)]; rfl) (fun j hj => frozen_of_heap hh) (fun x hx => by simpa using (List.all_eq_true.1 h3) x hx)
      simp only [Nat.add_zero] at hs
      simp only [storeVar, Sem.run_bind, run_info hi, Result.andThen_ok, h1, ne_eq, not_true_eq_false, if_false, Sem.run_pure]
      simpa using hs
    · cases h
theorem zeroS_run {ty : TypeId} {cs : List Value} (h : zeroS P ty = some cs) (w : World) : ∃ z : Value, z.cells.toList = cs ∧ (zeroValue ty).run P w = .ok z w := by
  unfold zeroS at h
  cases hp : pev P (zeroValue ty) with
  | none => rw [hp] at h; cases h
  | some z => rw [hp] at h; simp at h; exact ⟨z, h, pev_run _ hp w⟩
theorem fieldS_run {t : TypeId} {f q b o : Nat} (h : fieldS P t f = some q) (w : World) : (Instr.fieldAt t (.pointer (some ⟨b, o, none⟩)) f).run P w = .ok (.pointer (some ⟨b, o + q, none⟩)) w := by
  unfold fieldS at h
  cases hu : P.underlying t with
  | none => rw [hu] at h; simp at h
  | some d =>
    rw [hu] at h
    cases d <;> simp at h
    rename_i fields
    cases hf : fields[f]? with
    | none => rw [hf] at h; simp at h
    | some fl =>
      rw [hf] at h
      simp only at h
      cases hi : (P.info? fl.type).map (·.size) with
      | none => rw [hi] at h; simp at h
      | some n =>
        rw [hi] at h
        simp only at h
        split at h
        · cases h
        · rename_i hn
          simp only [Option.some.injEq] at h
          subst h
          simp only [Instr.fieldAt, Sem.run_bind, run_underlying hu w, Result.andThen_ok, hf, Instr.sureAddr, Sem.run_pure, fieldPlace, run_info hi, if_neg hn]
          rw [Addr.add_mid]
theorem Qcf (S : Sy w0 r bs s F a w) : ∀ (l : List Operand) {c : List (Nat × Nat)}, Qh_ s l = some c → l.map a.eval = c.map (fun q => Value.pointer (some (adr bs q.1 q.2))) ∧ ∀ q ∈ c, q.1 < bs.length
  | [], c, h => by simp [Qh_] at h; subst h; simp
  | x :: l, c, h => by
    simp only [Qh_] at h
    cases hx : s.val x with
    | none => rw [hx] at h; cases h
    | some y =>
      rw [hx] at h
      cases y with
      | p i o =>
        cases hc : Qh_ s l with
        | none => rw [hc] at h; cases h
        | some c' =>
          rw [hc] at h
          simp only [Option.some.injEq] at h
          subst h
          obtain ⟨h1, h2⟩ := S.val hx
          obtain ⟨h3, h4⟩ := Qcf S l hc
          refine ⟨by simp [h1, h3, den], fun q hq => ?_⟩
          rcases List.mem_cons.1 hq with rfl | hq
          · exact h2
          · exact h4 q hq
      | _ => simp at h
theorem Qe3 {ty : TypeId} {n : Nat} (h : (P.info? ty).map (·.size) = some n) (w : World) : (sizeOf ty).run P w = .ok n w := by
  cases hq : P.info? ty with
  | none => rw [hq] at h; cases h
  | some i => rw [hq] at h; simp at h; simp [sizeOf, typeInfo, hq, h]
theorem Qgu {t : TypeId} {len : Nat} {parts : Array (Nat × Value)} {k : Bx} (h : bslS P t len parts = some k) (w : World) :
    (Instr.buildSlice t len parts).run P w = .ok (.slice (some ⟨w.heap.size, 0, none⟩) len len) (w.alloc (.cells k.cs.toArray k.ty (0, 0))) := by
  unfold bslS at h
  cases hu : P.underlying t with
  | none => rw [hu] at h; cases h
  | some d =>
    rw [hu] at h
    cases d <;> simp only [reduceCtorEq] at h
    rename_i elem
    cases hi : (P.info? elem).map (·.size) with
    | none => rw [hi] at h; simp at h
    | some size =>
      cases hz : pev P (zeroValue elem) with
      | none => rw [hi, hz] at h; simp at h
      | some z =>
        rw [hi, hz] at h
        simp only at h
        split at h
        · cases h
        · rename_i hn
          cases hf : Instr.fill (fun i => some (i * size, size)) ((Array.range (len * size)).map (z.cells[· % z.cells.size]!)) parts.toList with
          | none => rw [hf] at h; cases h
          | some cells =>
            rw [hf] at h
            simp only [Option.some.injEq] at h
            subst h
            have h1 : ¬ len * size = 0 := fun e => hn (Or.inl e)
            have h2 : ¬ len * size > 2 ^ 24 := fun e => hn (Or.inr e)
            simp only [Instr.buildSlice, Sem.run_bind, run_underlying hu w, Result.andThen_ok, Qe3 hi, if_neg h2, if_neg h1, Sem.run_pure, pev_run _ hz, hf, newRow, newObj]
            rfl
theorem Qcq {b : Nat} : (bs ++ [b]).getD bs.length 0 = b := by rw [Qba, if_neg (Nat.lt_irrefl _), if_pos rfl]
theorem QcI (S : Sy w0 r bs s F a w) {o : Oper} {s' : SS} (h : sop P s o = some s') {K : Act → World → Prop} {Q : Exit → Act → World → Prop}
    (hk : ∀ bs' a' w', Sy w0 r (bs ++ bs') s' F a' w' → K a' w') : o.wp P a w K Q := by
  have hk0 : ∀ a' w', Sy w0 r bs s' F a' w' → K a' w' := fun a' w' h => hk [] a' w' (by rw [List.append_nil]; exact h)
  unfold sop at h
  cases ho : o.op with
  | move x =>
    rw [ho] at h; simp only at h
    cases hx : s.val x with
    | none => rw [hx] at h; cases h
    | some y =>
      rw [hx] at h; simp only [Option.map_some, Option.some.injEq] at h; subst h
      obtain ⟨h1, h2⟩ := S.val hx
      unfold Oper.wp execOp
      simp only [ho, h1]
      exact hk0 _ _ (S.put o.dst h2)
  | assign x =>
    rw [ho] at h; simp only at h
    cases hx : s.val x with
    | none => rw [hx] at h; cases h
    | some y =>
      rw [hx] at h; simp only [Option.map_some, Option.some.injEq] at h; subst h
      obtain ⟨h1, h2⟩ := S.val hx
      unfold Oper.wp execOp
      simp only [ho, h1]
      exact hk0 _ _ (S.put o.dst h2)
  | load ty x =>
    rw [ho] at h; simp only at h
    cases hx : s.val x with
    | none => rw [hx] at h; cases h
    | some y =>
      rw [hx] at h
      cases y with
      | p i off =>
        simp only at h
        cases hK : s.K[i]? with
        | none => rw [hK] at h; cases h
        | some k =>
          rw [hK] at h; simp only at h
          cases hl : ldS P ty k.cs off with
          | none => rw [hl] at h; cases h
          | some v =>
            rw [hl] at h; simp only [Option.map_some, Option.some.injEq] at h; subst h
            obtain ⟨h1, h2⟩ := S.val hx
            have hr := Qeo hl (S.bx i k hK)
            unfold Oper.wp execOp
            simp only [ho, h1, den, adr, Instr.loadAt, Instr.sureAddr, Sem.run_bind, Sem.run_pure, Result.andThen_ok, hr]
            exact hk0 _ _ (S.put o.dst (x := .v v) trivial)
      | _ => simp at h
  | store ty x y =>
    rw [ho] at h; simp only at h
    cases hx : s.val x with
    | none => rw [hx] at h; simp at h
    | some z =>
      rw [hx] at h
      cases z with
      | p i off =>
        cases hy : s.val y with
        | none => rw [hy] at h; simp at h
        | some u =>
          rw [hy] at h
          cases u with
          | v v =>
            simp only at h
            cases hK : s.K[i]? with
            | none => rw [hK] at h; cases h
            | some k =>
              rw [hK] at h; simp only at h
              cases hl : stS P ty k.cs off v with
              | none => rw [hl] at h; cases h
              | some cs =>
                rw [hl] at h; simp only [Option.map_some, Option.some.injEq] at h; subst h
                obtain ⟨h1, h2⟩ := S.val hx
                obtain ⟨h3, h4⟩ := S.val hy
                obtain ⟨hr, he⟩ := Qf8 hl (S.bx i k hK)
                subst he
                unfold Oper.wp execOp
                simp only [ho, h1, h3, den, adr, Instr.storeAt, Instr.sureAddr, Sem.run_bind, Sem.run_pure, Result.andThen_ok, hr]
                have S2 := (S.store hK (o := off) v.cells.toList).put o.dst (x := .v undef) trivial
                exact hk0 _ _ S2
          | _ => simp at h
      | _ => simp at h
  | alloc ty =>
    rw [ho] at h; simp only at h
    cases hz : zeroS P ty with
    | none => rw [hz] at h; cases h
    | some cs =>
      rw [hz] at h; simp only [Option.map_some, Option.some.injEq] at h; subst h
      obtain ⟨z, hz1, hz2⟩ := zeroS_run hz w
      have hr : (Instr.alloc ty true (.tuple #[])).run P w = .ok (.pointer (some ⟨w.heap.size, 0, none⟩)) (w.alloc (.cells cs.toArray ty (0, 0))) := by
        simp only [Instr.alloc, Sem.run_bind, hz2, Result.andThen_ok, newVar, newRow, newObj]
        rw [← hz1]
        rfl
      unfold Oper.wp execOp
      simp only [ho, Sem.run_bind, hr, Result.andThen_ok, Sem.run_pure]
      have S2 := S.newv ⟨ty, cs⟩ o.dst (x := .p s.K.length 0) (by show s.K.length < _; rw [← S.bl]; omega)
      refine hk _ _ _ (?_ : Sy w0 r (bs ++ [w.heap.size]) _ F _ _)
      have e : den (bs ++ [w.heap.size]) (.p s.K.length 0) = .pointer (some ⟨w.heap.size, 0, none⟩) := by simp only [den, adr]; rw [← S.bl, Qcq]
      rw [e] at S2
      exact S2
  | box ty x =>
    rw [ho] at h; simp only at h
    cases hx : s.val x with
    | none => rw [hx] at h; cases h
    | some y =>
      rw [hx] at h
      cases y with
      | v v =>
        simp only [Option.some.injEq] at h; subst h
        obtain ⟨h1, h2⟩ := S.val hx
        unfold Oper.wp execOp
        simp only [ho, h1, den]
        have hr : (Instr.box ty v).run P w = .ok (.pointer (some ⟨w.heap.size, 0, none⟩)) (w.alloc (.cells v.cells ty (0, 0))) := rfl
        simp only [Sem.run_bind, hr, Result.andThen_ok, Sem.run_pure]
        have S2 := S.newv ⟨ty, v.cells.toList⟩ o.dst (x := .p s.K.length 0) (by show s.K.length < _; rw [← S.bl]; omega)
        refine hk _ _ _ (?_ : Sy w0 r (bs ++ [w.heap.size]) _ F _ _)
        have e : den (bs ++ [w.heap.size]) (.p s.K.length 0) = .pointer (some ⟨w.heap.size, 0, none⟩) := by simp only [den, adr]; rw [← S.bl, Qcq]
        rw [e] at S2
        simpa using S2
      | _ => simp at h
  | buildSlice t len parts =>
    rw [ho] at h; simp only at h
    split at h
    · rename_i hp
      rw [List.all_eq_true] at hp
      have he : (parts.map fun (i, x) => (i, a.eval x)) = (parts.map fun (i, x) => (i, s.env x)) := Qaq fun q hq => by
        show (q.1, a.eval q.2) = (q.1, s.env q.2)
        rw [S.env (hp q hq)]
      cases hb : bslS P t len (parts.map fun (i, x) => (i, s.env x)) with
      | none => rw [hb] at h; cases h
      | some k =>
        rw [hb] at h; simp only [Option.map_some, Option.some.injEq] at h; subst h
        unfold Oper.wp execOp
        simp only [ho]
        rw [he]
        simp only [Sem.run_bind, Qgu hb, Result.andThen_ok, Sem.run_pure]
        have S2 := S.newv k o.dst (x := .s s.K.length 0 len len) (by show s.K.length < _; rw [← S.bl]; omega)
        refine hk _ _ _ (?_ : Sy w0 r (bs ++ [w.heap.size]) _ F _ _)
        have e : den (bs ++ [w.heap.size]) (.s s.K.length 0 len len) = .slice (some ⟨w.heap.size, 0, none⟩) len len := by simp only [den, adr]; rw [← S.bl, Qcq]
        rw [e] at S2
        exact S2
    · cases h
  | fieldAddr t x f =>
    rw [ho] at h; simp only at h
    cases hx : s.val x with
    | none => rw [hx] at h; cases h
    | some y =>
      rw [hx] at h
      cases y with
      | p i off =>
        simp only at h
        cases hf : fieldS P t f with
        | none => rw [hf] at h; cases h
        | some q =>
          rw [hf] at h; simp only [Option.map_some, Option.some.injEq] at h; subst h
          obtain ⟨h1, h2⟩ := S.val hx
          unfold Oper.wp execOp
          simp only [ho, h1, den, adr, Sem.run_bind, fieldS_run hf, Result.andThen_ok, Sem.run_pure]
          exact hk0 _ _ (S.put o.dst (x := .p i (off + q)) h2)
      | v _ => exact Qa2 S h hk
      | _ => simp at h
  | nilCheck x =>
    rw [ho] at h; simp only at h
    cases hx : s.val x with
    | none => rw [hx] at h; cases h
    | some y =>
      rw [hx] at h
      cases y with
      | p i off =>
        simp only [Option.some.injEq] at h; subst h
        obtain ⟨h1, h2⟩ := S.val hx
        unfold Oper.wp execOp
        simp only [ho, h1, den, adr, Sem.run_pure]
        exact hk0 _ _ (S.put o.dst (x := .p i off) h2)
      | v _ => exact Qa2 S h hk
      | _ => simp at h
  | makeFunc fn first captured =>
    rw [ho] at h
    cases fn with
    | func fn =>
      simp only at h
      split at h
      · rename_i hf
        cases hc : Qh_ s captured.toList with
        | none => rw [hc] at h; exact Qa2 S h hk
        | some l =>
          rw [hc] at h; simp only [Option.some.injEq] at h; subst h
          obtain ⟨h1, h2⟩ := Qcf S _ hc
          unfold Oper.wp execOp
          simp only [ho, Instr.makeFunc, Sem.run_bind, Sem.run_pure, Result.andThen_ok]
          have e : Value.func (.func fn) (first.map a.eval) (captured.map a.eval) = den bs (.f fn l) := by
            simp only [den]
            congr 1
            · have : first = #[] := Array.eq_empty_of_size_eq_zero hf
              subst this; simp
            · apply Array.ext'; simp only [Array.toList_map]; rw [h1]
          rw [e]
          exact hk0 _ _ (S.put o.dst (x := .f fn l) h2)
      · exact Qa2 S h hk
    | _ => exact Qa2 S (by simpa using h) hk
  | _ => rw [ho] at h; exact Qa2 S h hk
def QaM (s : SS) (ops : Array Oper) (o : Oper) : Option Bool :=
  match o.guard with
  | none => some true
  | some (j, want) => match ((ops[j]?).bind (·.dst)).bind s.get with
    | some (.v (.bool b)) => some (b == want)
    | some (.v (.tuple _)) => some false
    | _ => none
theorem Qae (S : Sy w0 r bs s F a w) {ops : Array Oper} {o : Oper} {b : Bool} (h : QaM s ops o = some b) : Region.wanted o (yielded ops a.tmps) = b := by
  unfold QaM at h
  unfold Region.wanted
  cases hg : o.guard with
  | none => rw [hg] at h; simpa using h
  | some jw =>
    obtain ⟨j, want⟩ := jw
    rw [hg] at h; simp only at h ⊢
    cases hd : (ops[j]?).bind (·.dst) with
    | none => rw [hd] at h; simp at h
    | some d =>
      rw [hd] at h
      simp only [Option.bind_some] at h
      cases hx : s.get d with
      | none => rw [hx] at h; simp at h
      | some y =>
        rw [hx] at h
        cases y with
        | v v =>
          cases v with
          | bool c =>
            simp only [Option.some.injEq] at h
            subst h
            have := (S.tm d _ hx).1
            unfold yielded
            rw [hd, Option.bind_some, this]
            simp only [den]
            cases c <;> cases want <;> rfl
          | tuple vs =>
            simp only [Option.some.injEq] at h
            subst h
            have := (S.tm d _ hx).1
            unfold yielded
            rw [hd, Option.bind_some, this]
            simp only [den]
            cases want <;> rfl
          | _ => simp at h
        | _ => simp at h
def Qck (P : Program) (ops : Array Oper) : List Oper → SS → List Oper × SS
  | [], s => ([], s)
  | o :: rest, s => match QaM s ops o with
    | some false => Qck P ops rest (s.put o.dst (.v undef))
    | some true => match sop P s o with
      | some s' => Qck P ops rest s'
      | none => (o :: rest, s)
    | none => (o :: rest, s)
theorem Qbi {ops : Array Oper} {Q : Exit → Act → World → Prop} : ∀ (l : List Oper) {s : SS} {bs : List Nat} {a : Act} {w : World}, Sy w0 r bs s F a w →
    (∀ bs' a' w', Sy w0 r (bs ++ bs') (Qck P ops l s).2 F a' w' → wpList P ops Q (Qck P ops l s).1 a' w') → wpList P ops Q l a w
  | [], s, bs, a, w, S, h => h [] a w (by rw [List.append_nil]; exact S)
  | o :: rest, s, bs, a, w, S, h => by
    unfold Qck at h
    cases hw : QaM s ops o with
    | none => rw [hw] at h; exact h [] a w (by rw [List.append_nil]; exact S)
    | some b =>
      rw [hw] at h
      have hw' := Qae S hw
      cases b with
      | false =>
        simp only at h
        refine wpList_step fun K hK => ?_
        rw [hw']
        simp only [Bool.false_eq_true, if_false]
        exact hK _ _ (Qbi rest (S.put o.dst (x := .v undef) trivial) h)
      | true =>
        simp only at h
        cases hs : sop P s o with
        | none => rw [hs] at h; exact h [] a w (by rw [List.append_nil]; exact S)
        | some s' =>
          rw [hs] at h
          simp only at h
          refine wpList_step fun K hK => ?_
          rw [hw', if_pos rfl]
          refine QcI S hs fun bs1 a1 w1 S1 => hK _ _ (Qbi rest S1 fun bs2 a2 w2 S2 => ?_)
          exact h (bs1 ++ bs2) a2 w2 (by rw [← List.append_assoc]; exact S2)
inductive It where
  | code (c : Code)
  | ops (all : Array Oper) (l : List Oper)
  | blk (id : Nat)
  | rnd (n : Nat) (c : Code)
def post (P : Program) : List It → (Exit → Act → World → Prop) → Exit → Act → World → Prop
  | [], Q => Q
  | .code c :: k, Q => Exit.then (c.wp P (post P k Q)) (post P k Q)
  | .ops all l :: k, Q => Exit.then (wpList P all (post P k Q) l) (post P k Q)
  | .blk id :: k, Q => Exit.inBlock id (post P k Q)
  | .rnd n c :: k, Q => Exit.then (Code.rounds P c (post P k Q) n) (post P k Q)
def unw (id : Nat) : List It → Option (List It)
  | [] => none
  | .blk j :: k => if id = j then some k else unw id k
  | _ :: k => unw id k
theorem unw_sound {id : Nat} {Q : Exit → Act → World → Prop} : ∀ (k : List It) {k' : List It}, unw id k = some k' → post P k' Q .normal a w → post P k Q (.exit id) a w
  | [], k', h, _ => by simp [unw] at h
  | .blk j :: k, k', h, hp => by
    simp only [unw] at h
    by_cases hj : id = j
    · rw [if_pos hj] at h
      simp only [Option.some.injEq] at h
      subst h
      show Exit.inBlock j _ _ _ _
      simp only [Exit.inBlock, if_pos hj]
      exact hp
    · rw [if_neg hj] at h
      show Exit.inBlock j _ _ _ _
      simp only [Exit.inBlock, if_neg hj]
      exact unw_sound k h hp
  | .code c :: k, k', h, hp => unw_sound k h hp
  | .ops _ _ :: k, k', h, hp => unw_sound k h hp
  | .rnd _ _ :: k, k', h, hp => unw_sound k h hp
theorem ret_sound {Q : Exit → Act → World → Prop} (h : Q .ret a w) : ∀ k : List It, post P k Q .ret a w
  | [] => h
  | .blk j :: k => ret_sound h k
  | .code c :: k => ret_sound h k
  | .ops _ _ :: k => ret_sound h k
  | .rnd _ _ :: k => ret_sound h k
theorem panic_sound {Q : Exit → Act → World → Prop} {ch : List PanicEntry} (h : Q (.panic ch) a w) : ∀ k : List It, post P k Q (.panic ch) a w
  | [] => h
  | .blk j :: k => panic_sound h k
  | .code c :: k => panic_sound h k
  | .ops _ _ :: k => panic_sound h k
  | .rnd _ _ :: k => panic_sound h k
structure Cfg where
  k : List It
  s : SS
structure Opt where
  L : Nat
  stops : List Nat
def QaZ (P : Program) (O : Opt) : Cfg → Option Cfg
  | ⟨.ops all [] :: k, s⟩ => some ⟨k, s⟩
  | ⟨.ops all (o :: l) :: k, s⟩ => match Qck P all (o :: l) s with
    | ([], s') => some ⟨k, s'⟩
    | (o' :: l', s') => if l'.length < l.length then some ⟨.ops all (o' :: l') :: k, s'⟩ else none
  | ⟨.blk _ :: k, s⟩ => some ⟨k, s⟩
  | ⟨.rnd n c :: k, s⟩ => if O.stops.contains 999 then none else match n with
    | n + 1 => some ⟨.code c :: .rnd n c :: k, s⟩
    | 0 => none
  | ⟨.code .skip :: k, s⟩ => some ⟨k, s⟩
  | ⟨.code (.seq x y) :: k, s⟩ => some ⟨.code x :: .code y :: k, s⟩
  | ⟨.code (.block id c) :: k, s⟩ => some ⟨.code c :: .blk id :: k, s⟩
  | ⟨.code (.loop c) :: k, s⟩ => if O.L = 0 then none else some ⟨.rnd O.L c :: k, s⟩
  | ⟨.code (.exit id) :: k, s⟩ => (unw id k).map fun k' => ⟨k', s⟩
  | ⟨.code (.region id ops false) :: k, s⟩ => if O.stops.contains id then none else some ⟨.ops ops ops.toList :: k, s⟩
  | ⟨.code (.cond c x y) :: k, s⟩ => match s.val c with
    | some (.v (.bool true)) => some ⟨.code x :: k, s⟩
    | some (.v (.bool false)) => some ⟨.code y :: k, s⟩
    | _ => none
  | _ => none
def Qe4 (P : Program) (O : Opt) : Nat → Cfg → Cfg
  | 0, c => c
  | n + 1, c => match QaZ P O c with
    | some c' => Qe4 P O n c'
    | none => c
theorem QdL {O : Opt} {c c' : Cfg} (S : Sy w0 r bs c.s F a w) (h : QaZ P O c = some c') {Q : Exit → Act → World → Prop}
    (hk : ∀ bs' a' w', Sy w0 r (bs ++ bs') c'.s F a' w' → post P c'.k Q .normal a' w') : post P c.k Q .normal a w := by
  have hk0 : Sy w0 r bs c'.s F a w → post P c'.k Q .normal a w := fun h => hk [] a w (by rw [List.append_nil]; exact h)
  obtain ⟨k, s⟩ := c
  match k, h with
  | .ops all [] :: k, h => simp only [QaZ, Option.some.injEq] at h; subst h; exact hk0 S
  | .ops all (o :: l) :: k, h =>
    simp only [QaZ] at h
    refine Qbi (o :: l) S fun bs1 a1 w1 S1 => ?_
    cases hr : Qck P all (o :: l) s with
    | mk l' s' =>
      rw [hr] at h S1
      cases l' with
      | nil => simp only [Option.some.injEq] at h; subst h; exact hk _ _ _ S1
      | cons o' l' =>
        simp only at h
        split at h
        · simp only [Option.some.injEq] at h; subst h; exact hk _ _ _ S1
        · cases h
  | .blk id :: k, h =>
    simp only [QaZ, Option.some.injEq] at h; subst h
    show Exit.inBlock id (post P k Q) .normal a w
    exact hk0 S
  | .rnd n c :: k, h =>
    simp only [QaZ] at h
    split at h
    · cases h
    · cases n with
      | zero => cases h
      | succ n => simp only [Option.some.injEq] at h; subst h; exact hk0 S
  | .code .skip :: k, h => simp only [QaZ, Option.some.injEq] at h; subst h; exact wp_skip (hk0 S)
  | .code (.seq x y) :: k, h => simp only [QaZ, Option.some.injEq] at h; subst h; exact wp_seq (hk0 S)
  | .code (.block id c) :: k, h => simp only [QaZ, Option.some.injEq] at h; subst h; exact wp_block (hk0 S)
  | .code (.loop c) :: k, h =>
    simp only [QaZ] at h
    split at h
    · cases h
    · simp only [Option.some.injEq] at h; subst h; exact wp_loop_rounds O.L (hk0 S)
  | .code (.exit id) :: k, h =>
    simp only [QaZ] at h
    cases hu : unw id k with
    | none => rw [hu] at h; cases h
    | some k' =>
      rw [hu] at h
      simp only [Option.map_some, Option.some.injEq] at h; subst h
      exact wp_exit (unw_sound k hu (hk0 S))
  | .code (.region id ops false) :: k, h =>
    simp only [QaZ] at h
    split at h
    · cases h
    · simp only [Option.some.injEq] at h; subst h; exact wp_region_list (hk0 S)
  | .code (.cond c x y) :: k, h =>
    simp only [QaZ] at h
    cases hv : s.val c with
    | none => rw [hv] at h; cases h
    | some u =>
      rw [hv] at h
      cases u with
      | v u =>
        cases u with
        | bool b =>
          have he := (S.val hv).1
          cases b with
          | true => simp only [Option.some.injEq] at h; subst h; exact wp_cond_true he (hk0 S)
          | false => simp only [Option.some.injEq] at h; subst h; exact wp_cond_false he (hk0 S)
        | _ => simp at h
      | _ => simp at h
  | [], h => simp [QaZ] at h
  | .code .ret :: k, h => simp [QaZ] at h
  | .code (.region id ops true) :: k, h => simp [QaZ] at h
  | .code (.goto l) :: k, h => simp [QaZ] at h
  | .code (.label l) :: k, h => simp [QaZ] at h
  | .code (.rangeFunc _ _ _ _) :: k, h => simp [QaZ] at h
  | .code (.scope _) :: k, h => simp [QaZ] at h
  | .code (.refuse _) :: k, h => simp [QaZ] at h
theorem QcJ {O : Opt} {Q : Exit → Act → World → Prop} : ∀ (n : Nat) {c : Cfg} {bs : List Nat} {a : Act} {w : World}, Sy w0 r bs c.s F a w →
    (∀ bs' a' w', Sy w0 r (bs ++ bs') (Qe4 P O n c).s F a' w' → post P (Qe4 P O n c).k Q .normal a' w') → post P c.k Q .normal a w
  | 0, c, bs, a, w, S, h => h [] a w (by rw [List.append_nil]; exact S)
  | n + 1, c, bs, a, w, S, h => by
    unfold Qe4 at h
    cases hs : QaZ P O c with
    | none => rw [hs] at h; exact h [] a w (by rw [List.append_nil]; exact S)
    | some c' =>
      rw [hs] at h
      simp only at h
      refine QdL S hs fun bs1 a1 w1 S1 => QcJ (O := O) n S1 fun bs2 a2 w2 S2 => ?_
      exact h (bs1 ++ bs2) a2 w2 (by rw [← List.append_assoc]; exact S2)
def entersB (P : Program) (f : FuncId) : Bool :=
  match P.funcs[f]? with
  | some fn => !(fn.name == "runtime.NumGoroutine") && fn.body.isSome
  | none => false
theorem entersB_run {f : FuncId} (h : entersB P f = true) (args : Array Value) (w : World) : (callFunc f args).run P w = .ok (.enter f args) w := by
  unfold entersB at h
  cases hf : P.funcs[f]? with
  | none => rw [hf] at h; cases h
  | some fn =>
    rw [hf] at h
    simp only [Bool.and_eq_true, Bool.not_eq_true'] at h
    have h1 : fn.name ≠ "runtime.NumGoroutine" := by simpa using h.1
    obtain ⟨c, hc⟩ := Option.isSome_iff_exists.1 h.2
    simp [callFunc, hf, h1, hc]
def QdJ (s : SS) : List Operand → Option (List SV)
  | [] => some []
  | x :: r => match s.val x, QdJ s r with
    | some v, some l => some (v :: l)
    | _, _ => none
theorem Qch (S : Sy w0 r bs s F a w) : ∀ (l : List Operand) {c : List SV}, QdJ s l = some c → l.map a.eval = c.map (den bs)
  | [], c, h => by simp [QdJ] at h; subst h; rfl
  | x :: l, c, h => by
    simp only [QdJ] at h
    cases hx : s.val x with
    | none => rw [hx] at h; cases h
    | some y =>
      rw [hx] at h
      cases hl : QdJ s l with
      | none => rw [hl] at h; cases h
      | some c' =>
        rw [hl] at h
        simp only [Option.some.injEq] at h; subst h
        simp [(S.val hx).1, Qch S l hl]
def QbH (P : Program) (c : Cfg) : Option (FuncId × List SV) :=
  match c with
  | ⟨.ops all (o :: l) :: k, s⟩ => match QaM s all o, o.op with
    | some true, .call ca => match ca.callee with
      | .value x => match s.val x, QdJ s ca.args.toList with
        | some (.v (.func (.func f) first caps)), some as => if entersB P f then some (f, first.toList.map .v ++ as ++ caps.toList.map .v) else none
        | some (.f f caps), some as => if entersB P f then some (f, as ++ caps.map fun q => .p q.1 q.2) else none
        | _, _ => none
      | _ => none
    | _, _ => none
  | _ => none
def Qeg (c : Cfg) (x : SV) : Cfg :=
  match c with
  | ⟨.ops all (o :: l) :: k, s⟩ => ⟨.ops all l :: k, s.put o.dst x⟩
  | c => c
theorem Qft (S : Sy w0 r bs s F a w) {all : Array Oper} {o : Oper} {l : List Oper} {k : List It} {f : FuncId} {args : Array Value}
    (hh : (QbH P ⟨.ops all (o :: l) :: k, s⟩).map (fun q => (q.1, q.2.map (den bs))) = some (f, args.toList)) :
    Region.wanted o (yielded all a.tmps) = true ∧ (execOp a.eval o).run P w = .ok (.enter f args) w := by
  unfold QbH at hh
  simp only at hh
  cases hw : QaM s all o with
  | none => rw [hw] at hh; simp at hh
  | some b =>
    rw [hw] at hh
    cases b with
    | false => simp at hh
    | true =>
      refine ⟨Qae S hw, ?_⟩
      cases ho : o.op <;> rw [ho] at hh <;> simp only [Option.map_none, reduceCtorEq] at hh
      case call ca =>
        cases hc : ca.callee <;> rw [hc] at hh <;> simp only [Option.map_none, reduceCtorEq] at hh
        case value x =>
          cases hx : s.val x with
          | none => rw [hx] at hh; simp at hh
          | some y =>
            rw [hx] at hh
            cases hv : QdJ s ca.args.toList with
            | none => rw [hv] at hh; revert hh; split <;> simp_all
            | some as =>
              rw [hv] at hh
              have hargs := Qch S _ hv
              have ha : ca.args.map a.eval = (as.map (den bs)).toArray := by apply Array.ext'; simp only [Array.toList_map]; exact hargs
              have he := (S.val hx).1
              cases y with
              | v y =>
                cases y with
                | func fn first caps =>
                  cases fn with
                  | func g =>
                    simp only at hh
                    split at hh
                    · rename_i hb
                      simp only [Option.map_some, Option.some.injEq, Prod.mk.injEq] at hh
                      obtain ⟨rfl, hh⟩ := hh
                      have e : first ++ (as.map (den bs)).toArray ++ caps = args := by
                        apply Array.ext'
                        rw [← hh]
                        simp [List.map_append, Function.comp_def, den]
                      simp only [execOp, ho, resolve, hc, he, den, Deferred.ofValue, ha, Sem.run_bind, Sem.run_pure, Result.andThen_ok, invoke, e, entersB_run hb]
                    · simp at hh
                  | _ => simp at hh
                | _ => simp at hh
              | f g caps =>
                simp only at hh
                split at hh
                · rename_i hb
                  simp only [Option.map_some, Option.some.injEq, Prod.mk.injEq] at hh
                  obtain ⟨rfl, hh⟩ := hh
                  have e : #[] ++ (as.map (den bs)).toArray ++ (caps.map fun q => Value.pointer (some (adr bs q.1 q.2))).toArray = args := by
                    apply Array.ext'
                    rw [← hh]
                    simp [List.map_append, Function.comp_def, den]
                  simp only [execOp, ho, resolve, hc, he, den, Deferred.ofValue, ha, Sem.run_bind, Sem.run_pure, Result.andThen_ok, invoke, e, entersB_run hb]
                · simp at hh
              | _ => simp at hh
theorem Qa7 {c : Cfg} (S : Sy w0 r bs c.s F a w) {X : Type} {val : X → Value} {C : X → World → Prop} {f : FuncId} {args : Array Value} {Q : Exit → Act → World → Prop}
    (hC : Calls P f args w fun e w' => ∃ x, e = .returned (val x) ∧ C x w' ∧ Below w.heap.size w w')
    (hh : (QbH P c).map (fun q => (q.1, q.2.map (den bs))) = some (f, args.toList))
    (h : ∀ x a' w', C x w' → Below w.heap.size w w' → Sy w0 r bs (Qeg c (.v (val x))).s F a' w' → post P (Qeg c (.v (val x))).k Q .normal a' w') : post P c.k Q .normal a w := by
  obtain ⟨k, s⟩ := c
  match k with
  | .ops all (o :: l) :: k =>
    obtain ⟨h1, h2⟩ := Qft S hh
    show wpList P all (post P k Q) (o :: l) a w
    refine wpList_step fun K hK => ?_
    rw [if_pos h1]
    unfold Oper.wp
    rw [h2, Oper.upon_enter]
    refine Calls.mono hC ?_
    rintro e w' ⟨x, rfl, hx, hb⟩
    exact hK _ _ (h x _ w' hx hb ((S.below hb).put o.dst (x := .v (val x)) trivial))
  | [] => simp [QbH] at hh
  | .code _ :: _ => simp [QbH] at hh
  | .blk _ :: _ => simp [QbH] at hh
  | .rnd _ _ :: _ => simp [QbH] at hh
  | .ops _ [] :: _ => simp [QbH] at hh
theorem QaE {c : Cfg} (S : Sy w0 r bs c.s F a w) {v : Value} {f : FuncId} {args : Array Value} {Q : Exit → Act → World → Prop}
    (hC : Calls P f args w fun e w' => e = .returned v ∧ Below w.heap.size w w')
    (hh : (QbH P c).map (fun q => (q.1, q.2.map (den bs))) = some (f, args.toList))
    (h : ∀ a' w', Below w.heap.size w w' → Sy w0 r bs (Qeg c (.v v)).s F a' w' → post P (Qeg c (.v v)).k Q .normal a' w') : post P c.k Q .normal a w :=
  Qa7 S (X := Unit) (val := fun _ => v) (C := fun _ _ => True) (hC.mono fun e w' h => ⟨(), h.1, trivial, h.2⟩) hh fun _ a' w' _ hb S' => h a' w' hb S'
def Qdg (P : Program) (s : SS) : List ResultVar → Option (List SV)
  | [] => some []
  | .tmp t :: r => match s.get t, Qdg P s r with
    | some x, some l => some (x :: l)
    | _, _ => none
  | .cell t ty :: r => match s.get t, Qdg P s r with
    | some (.p i o), some l => match s.K[i]? with
      | some k => (ldS P ty k.cs o).map fun v => .v v :: l
      | none => none
    | _, _ => none
theorem mapM_run {α β : Type} {f : α → Sem β} {g : α → Option β} : ∀ (l : List α) {r : List β}, (∀ x ∈ l, ∀ y, g x = some y → (f x).run P w = .ok y w) → l.mapM g = some r → (l.mapM f).run P w = .ok r w
  | [], r, _, h => by simp at h; subst h; rfl
  | x :: l, r, hf, h => by
    rw [List.mapM_cons] at h ⊢
    cases hx : g x with
    | none => rw [hx] at h; cases h
    | some y =>
      rw [hx] at h
      cases hl : l.mapM g with
      | none => rw [hl] at h; cases h
      | some r' =>
        rw [hl] at h
        cases h
        rw [Sem.run_bind, hf x (by simp) y hx]
        simp only [Result.andThen_ok]
        rw [Sem.run_bind, mapM_run l (fun z hz => hf z (List.mem_cons_of_mem _ hz)) hl]
        rfl
theorem Qcl (S : Sy w0 r bs s F a w) {g : ResultVar → Option Value} (hg : ∀ rv, g rv = ((Qdg P s [rv]).bind (·.head?)).map (den bs)) : ∀ (l : List ResultVar) {ys : List SV}, Qdg P s l = some ys → l.mapM g = some (ys.map (den bs))
  | [], ys, h => by simp [Qdg] at h; subst h; rfl
  | .tmp t :: l, ys, h => by
    simp only [Qdg] at h
    cases hx : s.get t with
    | none => rw [hx] at h; simp at h
    | some x =>
      cases hl : Qdg P s l with
      | none => rw [hx, hl] at h; simp at h
      | some l' =>
        rw [hx, hl] at h; simp only [Option.some.injEq] at h; subst h
        rw [List.mapM_cons, hg, Qcl S hg l hl]
        simp [Qdg, hx]
  | .cell t ty :: l, ys, h => by
    simp only [Qdg] at h
    cases hx : s.get t with
    | none => rw [hx] at h; simp at h
    | some x =>
      cases hl : Qdg P s l with
      | none => rw [hx, hl] at h; cases x <;> simp at h
      | some l' =>
        rw [hx, hl] at h
        cases x with
        | p i o =>
          simp only at h
          cases hK : s.K[i]? with
          | none => rw [hK] at h; simp at h
          | some k =>
            rw [hK] at h; simp only at h
            cases hv : ldS P ty k.cs o with
            | none => rw [hv] at h; simp at h
            | some v =>
              rw [hv] at h; simp only [Option.map_some, Option.some.injEq] at h; subst h
              rw [List.mapM_cons, hg, Qcl S hg l hl]
              simp [Qdg, hx, hK, hv]
        | _ => simp at h
def retV (bs : List Nat) : List SV → Value
  | [x] => den bs x
  | l => .tuple (l.map (den bs)).toArray
def resOp (tmps : Array Value) : ResultVar → Sem Value
  | .tmp t => pure (tmps.getD t undef)
  | .cell a t => do loadVar t (← asAddr (tmps.getD a undef))
theorem results_op (fn : Func) (tmps : Array Value) : results fn tmps = (do let vs ← fn.results.mapM (resOp tmps); pure (if h : vs.size = 1 then vs[0] else .tuple vs)) := by
  unfold results
  congr 1
theorem Qg_ (S : Sy w0 r bs s F a w) {fn : Func} {ys : List SV} (h : Qdg P s fn.results.toList = some ys) : (results fn a.tmps).run P w = .ok (retV bs ys) w := by
  have hm : (fn.results.mapM (resOp a.tmps)).run P w = .ok (ys.map (den bs)).toArray w := by
    rw [← Array.toArray_toList (xs := fn.results), List.mapM_toArray, Sem.run_map]
    rw [mapM_run (g := fun rv => ((Qdg P s [rv]).bind (·.head?)).map (den bs)) fn.results.toList ?_ (Qcl S (fun _ => rfl) _ h)]
    · rfl
    · intro rv _ y hy
      cases rv with
      | tmp t =>
        simp only [Qdg] at hy
        cases hx : s.get t with
        | none => rw [hx] at hy; simp at hy
        | some x =>
          rw [hx] at hy
          simp at hy
          subst hy
          have := (S.tm t x hx).1
          simp [resOp, Array.getD_eq_getD_getElem?, this]
      | cell t ty =>
        simp only [Qdg] at hy
        cases hx : s.get t with
        | none => rw [hx] at hy; simp at hy
        | some x =>
          rw [hx] at hy
          cases x with
          | p i o =>
            simp only at hy
            cases hK : s.K[i]? with
            | none => rw [hK] at hy; simp at hy
            | some k =>
              rw [hK] at hy; simp only at hy
              cases hv : ldS P ty k.cs o with
              | none => rw [hv] at hy; simp at hy
              | some v =>
                rw [hv] at hy
                simp [den] at hy
                subst hy
                have := (S.tm t _ hx).1
                have e : a.tmps.getD t undef = .pointer (some (adr bs i o)) := by simp [Array.getD_eq_getD_getElem?, this, den]
                simp only [resOp, e, asAddr, Sem.run_bind, Sem.run_pure, Result.andThen_ok]
                exact Qeo hv (S.bx i k hK)
          | _ => simp at hy
  rw [results_op, Sem.run_bind, hm]
  simp only [Result.andThen_ok, Sem.run_pure]
  congr 1
  match ys with
  | [] => rfl
  | [x] => rfl
  | x :: y :: l => simp [retV]
def atEnd : List It → Bool
  | [] => true
  | .code .ret :: _ => true
  | _ => false
theorem Qap {c : Cfg} (S : Sy w0 r bs c.s F a w) {fn : Func} {R : Ending → World → Prop} {v : Value} (he : atEnd c.k = true)
    (hr : (Qdg P c.s fn.results.toList).map (retV bs) = some v) (hR : Gr w0 w r → R (.returned v) w) (hd : DF.d = [] := by rfl) : post P c.k (bodyPost P fn R) .normal a w := by
  obtain ⟨k, s⟩ := c
  cases hy : Qdg P s fn.results.toList with
  | none => simp only at hr; rw [hy] at hr; cases hr
  | some ys =>
    simp only at hr
    rw [hy] at hr; simp only [Option.map_some, Option.some.injEq] at hr; subst hr
    have h1 : a.defers = [] ∧ ∃ v, (results fn a.tmps).run P w = .ok v w ∧ R (.returned v) w := ⟨S.df.trans hd, _, Qg_ S hy, hR S.gr⟩
    match k, he with
    | [], _ => exact h1
    | .code .ret :: k, _ => exact wp_ret (ret_sound h1 k)
theorem Qea (w : World) (r : List Nat) : Gr w w r := ⟨rfl, rfl, rfl, Nat.le_refl _, fun _ _ _ => rfl⟩
def T0 (l : List SV) : List (Nat × SV) := l.zipIdx.map fun q => (q.2, q.1)
theorem QcP : ∀ (l : List SV) (i t : Nat) {x : SV}, ((l.zipIdx i).map fun q => (q.2, q.1)).lookup t = some x → i ≤ t ∧ l[t - i]? = some x
  | [], _, _, _, h => by simp at h
  | y :: l, i, t, x, h => by
    simp only [List.zipIdx_cons, List.map_cons, List.lookup_cons] at h
    cases ht : (t == i) with
    | true =>
      rw [ht] at h; simp at ht h; subst ht h
      simp
    | false =>
      rw [ht] at h; simp at ht
      obtain ⟨h1, h2⟩ := QcP l (i + 1) t h
      refine ⟨by omega, ?_⟩
      rw [show t - i = (t - (i + 1)) + 1 by omega]
      simpa using h2
def QaQ (fn : Func) : Code := fn.body.getD .skip
def Qjv (fn : Func) (args : Array Value) : Cfg := ⟨[.code (QaQ fn)], ⟨args.size + (fn.ntmps - args.size), T0 (args.toList.map .v), []⟩⟩
theorem Qan {c : Cfg} (O : Opt) (n : Nat) (S : Sy w0 r bs c.s F a w) {Q : Exit → Act → World → Prop}
    (h : ∀ bs' a' w', Sy w0 r (bs ++ bs') (Qe4 P O n c).s F a' w' → post P (Qe4 P O n c).k Q .normal a' w') : post P c.k Q .normal a w := QcJ n S h
section
variable (S : Sy w0 r bs s F a w)
include S
theorem Sy.fact {f : RF} (hf : f ∈ F) : f.P w := (S.fs f hf).1
theorem Sy.add (f : RF) (hP : f.P w) (ha : ∀ i, i < bs.length → ¬f.bl (bs.getD i 0)) : Sy w0 r bs s (f :: F) a w :=
  ⟨S.df, S.sz, S.tm, S.bl, S.bx, S.nd, S.lo, fun g hg => by
    rcases List.mem_cons.1 hg with rfl | hg
    · exact ⟨hP, ha⟩
    · exact S.fs g hg, S.gr⟩
theorem Sy.sub {F' : List RF} (h : ∀ f ∈ F', f ∈ F) : Sy w0 r bs s F' a w :=
  ⟨S.df, S.sz, S.tm, S.bl, S.bx, S.nd, S.lo, fun g hg => S.fs g (h g hg), S.gr⟩
theorem Sy.cast (t : Nat) (v : Value) {v' : Value} (hg : s.get t = some (.v v')) (he : v' = v) : Sy w0 r bs (s.put (some t) (.v v)) F a w := by
  have h := S.tm t _ hg
  have h2 := S.put (some t) (x := .v v) trivial
  have e : a.put (some t) (den bs (.v v)) = a := by
    unfold Act.put
    simp only [den]
    obtain ⟨tmps, d⟩ := a
    simp only at h ⊢
    congr 1
    subst he
    have h3 := h.1
    simp only [den] at h3
    apply Array.ext_getElem?
    intro i
    by_cases hi : t = i
    · subst hi
      rw [Array.getElem?_setIfInBounds_self, h3]
      have := (Array.getElem?_eq_some_iff.1 h3).1
      simp [this]
    · rw [Array.getElem?_setIfInBounds_ne hi]
  rw [e] at h2
  exact h2
end
theorem Sy.grown {g : Nat} (S : Sy w0 r bs s F a w) {w' : World} (hg : w.grownBy w' (some g)) (h0 : g ∈ r ∨ w0.heap.size ≤ g) {F' : List RF} (hF : ∀ f ∈ F', f ∈ F ∧ ¬f.bl g) (hn : ∀ i, i < bs.length → bs.getD i 0 ≠ g) : Sy w0 r bs s F' a w' := by
  refine ⟨S.df, S.sz, S.tm, S.bl, fun i k h => ?_, S.nd, S.lo, fun f hf => ?_, ?_⟩
  · have hi : i < bs.length := by rw [S.bl]; exact (List.getElem?_eq_some_iff.1 h).1
    rw [hg.block _ (S.lt hi) (by simp; exact hn i hi)]; exact S.bx i k h
  · obtain ⟨h1, h2⟩ := hF f hf
    obtain ⟨h3, h4⟩ := S.fs f h1
    exact ⟨f.st w w' h3 (fun b hb => hg.block b (f.lt w h3 b hb) (by simp; intro e; exact h2 (e ▸ hb))), h4⟩
  · have G := S.gr
    exact ⟨hg.os.trans G.os, hg.tape.trans G.tape, hg.output.trans G.output, Nat.le_trans G.size hg.size, fun k hk hne => (hg.block k (Nat.lt_of_lt_of_le hk G.size) (by
      rcases h0 with h0 | h0
      · simp only [ne_eq, Option.some.injEq]; intro e; exact hne (e ▸ h0)
      · simp; omega)).trans (G.block k hk hne)⟩
theorem Qb_ {Q : Exit → Act → World → Prop} {ch : List PanicEntry} : ∀ k : List It, post P k Q (.panic ch) a w = Q (.panic ch) a w
  | [] => rfl
  | .blk j :: k => Qb_ k
  | .code c :: k => Qb_ k
  | .ops _ _ :: k => Qb_ k
  | .rnd _ _ :: k => Qb_ k
def SV.inL (π : List Nat) : SV → Bool
  | .v _ => true
  | .p i _ => π.contains i
  | .s i _ _ _ => π.contains i
  | .f _ caps => caps.all fun q => π.contains q.1
def SV.ren (f : Nat → Nat) : SV → SV
  | .v x => .v x
  | .p i o => .p (f i) o
  | .s i o l c => .s (f i) o l c
  | .f fn caps => .f fn (caps.map fun q => (f q.1, q.2))
def Qjf (π : List Nat) (n : Nat) : Bool := π.all (· < n) && (List.range π.length).all fun j => π.idxOf (π.getD j 0) == j
theorem QcO : ∀ (T : List (Nat × SV)) {t : Nat} {x : SV}, T.lookup t = some x → (t, x) ∈ T
  | [], t, x, h => by simp at h
  | q :: T, t, x, h => by
    rw [List.lookup_cons] at h
    cases ht : (t == q.1) with
    | true => rw [ht] at h; simp at ht h; subst ht h; simp
    | false => rw [ht] at h; exact List.mem_cons_of_mem _ (QcO T h)
theorem Sy.to (S : Sy w0 r bs s F a w) (π : List Nat) (s' : SS) (hp : Qjf π s.K.length = true) (hn : s'.n = s.n) (hK : s'.K.map some = π.map fun i => s.K[i]?)
    (hI : (s'.T.all fun q => match s.get q.1 with
      | some x => x.inL π
      | none => false) = true)
    (hT : (s'.T.map fun q => (s.get q.1).map (SV.ren fun i => π.idxOf i)) = s'.T.map fun q => some q.2) : Sy w0 r (π.map fun i => bs.getD i 0) s' F a w := by
  unfold Qjf at hp
  simp only [Bool.and_eq_true, List.all_eq_true, decide_eq_true_eq, beq_iff_eq, List.mem_range] at hp
  obtain ⟨h3, h5⟩ := hp
  have hl : bs.length = s.K.length := S.bl
  have hget : ∀ j, j < π.length → (π.map fun i => bs.getD i 0).getD j 0 = bs.getD (π.getD j 0) 0 := fun j hj => by
    simp [List.getD, List.getElem?_map, List.getElem?_eq_getElem hj]
  have hidx : ∀ i, i ∈ π → π.idxOf i < π.length ∧ π.getD (π.idxOf i) 0 = i := fun i hm => by
    have hlt := List.idxOf_lt_length_of_mem hm
    exact ⟨hlt, by simp [List.getD, List.getElem?_eq_getElem hlt]⟩
  have hadr : ∀ i o, i ∈ π → adr (π.map fun i => bs.getD i 0) (π.idxOf i) o = adr bs i o := fun i o hi => by
    unfold adr
    rw [hget _ (hidx i hi).1, (hidx i hi).2]
  have hKl : s'.K.length = π.length := by have := congrArg List.length hK; simpa using this
  refine ⟨S.df, by rw [hn]; exact S.sz, fun t x h => ?_, by simp [hKl], fun j k hk => ?_, fun i j hi hj he => ?_, fun i hi => ?_, fun f hf => ?_, S.gr⟩
  · have hm := QcO s'.T h
    have h1 := List.map_inj_left.1 hT (t, x) hm
    have h2 := List.all_eq_true.1 hI (t, x) hm
    simp only at h1 h2
    cases hg : s.get t with
    | none => rw [hg] at h1; cases h1
    | some y =>
      rw [hg] at h1 h2
      simp only [Option.map_some, Option.some.injEq] at h1
      subst h1
      obtain ⟨g1, g2⟩ := S.tm t y hg
      cases y with
      | v v => exact ⟨g1, trivial⟩
      | p i o =>
        have hi : i ∈ π := by simpa [SV.inL] using h2
        exact ⟨by rw [g1]; simp only [den, SV.ren]; rw [hadr i o hi], by simpa [SV.ok, SV.ren] using (hidx i hi).1⟩
      | s i o l c =>
        have hi : i ∈ π := by simpa [SV.inL] using h2
        exact ⟨by rw [g1]; simp only [den, SV.ren]; rw [hadr i o hi], by simpa [SV.ok, SV.ren] using (hidx i hi).1⟩
      | f fn caps =>
        have hi : ∀ q ∈ caps, q.1 ∈ π := fun q hq => by have := List.all_eq_true.1 (show caps.all (fun q => π.contains q.1) = true from h2) q hq; simpa using this
        refine ⟨?_, ?_⟩
        · rw [g1]
          simp only [den, SV.ren, List.map_map]
          congr 3
          exact (List.map_congr_left fun q hq => by simp only [Function.comp]; rw [hadr q.1 q.2 (hi q hq)]).symm
        · intro q hq
          simp only [List.mem_map] at hq
          obtain ⟨q', hq', rfl⟩ := hq
          simpa using (hidx q'.1 (hi q' hq')).1
  · have hj : j < π.length := by rw [← hKl]; exact (List.getElem?_eq_some_iff.1 hk).1
    have e : (s'.K.map some)[j]? = some (some k) := by simp [hk]
    rw [hK] at e
    simp only [List.getElem?_map, List.getElem?_eq_getElem hj, Option.map_some, Option.some.injEq] at e
    rw [hget j hj, show π.getD j 0 = π[j] by simp [List.getD, List.getElem?_eq_getElem hj]]
    exact S.bx _ k e
  · simp only [List.length_map] at hi hj
    rw [hget i hi, hget j hj] at he
    have e1 : π.getD i 0 = π[i] := by simp [List.getD, List.getElem?_eq_getElem hi]
    have e2 : π.getD j 0 = π[j] := by simp [List.getD, List.getElem?_eq_getElem hj]
    rw [e1, e2] at he
    have := S.nd _ _ (by rw [hl]; exact h3 _ (List.getElem_mem hi)) (by rw [hl]; exact h3 _ (List.getElem_mem hj)) he
    have k1 := h5 i hi
    have k2 := h5 j hj
    rw [e1] at k1
    rw [e2] at k2
    rw [this] at k1
    omega
  · simp only [List.length_map] at hi
    rw [hget i hi]
    exact S.lo _ (by rw [hl]; have : π.getD i 0 = π[i] := by simp [List.getD, List.getElem?_eq_getElem hi]
                     rw [this]; exact h3 _ (List.getElem_mem hi))
  · obtain ⟨g1, g2⟩ := S.fs f hf
    refine ⟨g1, fun i hi => ?_⟩
    simp only [List.length_map] at hi
    rw [hget i hi]
    exact g2 _ (by rw [hl]; have : π.getD i 0 = π[i] := by simp [List.getD, List.getElem?_eq_getElem hi]
                   rw [this]; exact h3 _ (List.getElem_mem hi))
def Qa_ (c : Cfg) : Code :=
  match c.k with
  | .code (.loop b) :: _ => b
  | _ => .skip
def isL (c : Cfg) : Bool :=
  match c.k with
  | .code (.loop _) :: _ => true
  | _ => false
theorem QaS {c : Cfg} (n : Nat) (hl : isL c = true) {Q : Exit → Act → World → Prop} (h : post P (.rnd n (Qa_ c) :: c.k.tail) Q .normal a w) : post P c.k Q .normal a w := by
  obtain ⟨k, s⟩ := c
  match k, hl with
  | .code (.loop b) :: k, _ => exact wp_loop_rounds n h
theorem Qat {f : FuncId} {fn : Func} {args : Array Value} {w : World} {R : Ending → World → Prop} (r : List Nat) (F : List RF) (hF : ∀ f ∈ F, f.P w) (hf : P.funcs[f]? = some fn) (hb : fn.body.isSome = true) (hd : DF.d = [] := by rfl)
    (h : ∀ a, Sy w r [] (Qjv fn args).s F a w → post P (Qjv fn args).k (bodyPost P fn R) .normal a w) : Calls P f args w R := by
  obtain ⟨c, hc⟩ := Option.isSome_iff_exists.1 hb
  have hbo : QaQ fn = c := by unfold QaQ; rw [hc]; rfl
  have hpost : ∀ Q a w, post P (Qjv fn args).k Q .normal a w = c.wp P Q a w := fun Q a w => by show (QaQ fn).wp P _ a w = _; rw [hbo]; rfl
  refine calls_of_wp hf hc ((hpost _ _ _).symm ▸ h _ ⟨hd.symm, by simp [Qjv], fun t x hx => ?_, rfl, fun i k hk => by simp [Qjv] at hk, fun i j hi => by simp at hi, fun i hi => by simp at hi, fun f hf => ⟨hF f hf, fun i hi => by simp at hi⟩, Qea _ _⟩)
  simp only [SS.get, Qjv, T0] at hx
  obtain ⟨h1, h2⟩ := QcP _ 0 t hx
  rw [Nat.sub_zero, List.getElem?_map] at h2
  cases ha : args.toList[t]? with
  | none => rw [ha] at h2; cases h2
  | some y =>
    rw [ha] at h2
    simp only [Option.map_some, Option.some.injEq] at h2; subst h2
    have hl : t < args.size := by have := (List.getElem?_eq_some_iff.1 ha).1; simpa using this
    refine ⟨?_, trivial⟩
    simp only [den]
    rw [Array.getElem?_append_left hl]
    rw [← Array.getElem?_toList]; exact ha
theorem QiE {w w' : World} {r : List Nat} (h : Below w.heap.size w w') : Gr w w' r := ⟨h.os, h.tape, h.output, h.size, fun k hk _ => h.block k hk⟩
def cfgR (fn : Func) (args : List SV) (K : List Bx) : Cfg := ⟨[.code (QaQ fn)], ⟨args.length + (fn.ntmps - args.length), T0 args, K⟩⟩
theorem Qj3 {f : FuncId} {fn : Func} {w : World} {R : Ending → World → Prop} (r : List Nat) (bs : List Nat) (K : List Bx) (args : List SV) (F : List RF) (hl : bs.length = K.length) (hK : ∀ i k, K[i]? = some k → w.heap[bs.getD i 0]? = some (.cells k.cs.toArray k.ty (0, 0)))
    (hnd : ∀ i j, i < bs.length → j < bs.length → bs.getD i 0 = bs.getD j 0 → i = j) (hlo : ∀ i, i < bs.length → bs.getD i 0 ∈ r) (ha : ∀ x ∈ args, x.ok bs.length) (hF : ∀ f ∈ F, f.P w ∧ ∀ i, i < bs.length → ¬f.bl (bs.getD i 0)) (hf : P.funcs[f]? = some fn) (hb : fn.body.isSome = true) (hd : DF.d = [] := by rfl)
    (h : ∀ a, Sy w r bs (cfgR fn args K).s F a w → post P (cfgR fn args K).k (bodyPost P fn R) .normal a w) : Calls P f (args.map (den bs)).toArray w R := by
  obtain ⟨c, hc⟩ := Option.isSome_iff_exists.1 hb
  have hbo : QaQ fn = c := by unfold QaQ; rw [hc]; rfl
  have hpost : ∀ Q a w, post P (cfgR fn args K).k Q .normal a w = c.wp P Q a w := fun Q a w => by show (QaQ fn).wp P _ a w = _; rw [hbo]; rfl
  refine calls_of_wp hf hc ((hpost _ _ _).symm ▸ h _ ⟨hd.symm, by simp [cfgR], fun t x hx => ?_, hl, hK, hnd, fun i hi => Or.inr (hlo i hi), hF, Qea _ _⟩)
  simp only [SS.get, cfgR, T0] at hx
  obtain ⟨h1, h2⟩ := QcP _ 0 t hx
  rw [Nat.sub_zero] at h2
  have hlt : t < args.length := (List.getElem?_eq_some_iff.1 h2).1
  refine ⟨?_, ha x (List.mem_of_getElem? h2)⟩
  rw [Array.getElem?_append_left (by simpa using hlt)]
  simp [h2]
def aftH (c : Cfg) (i : Nat) (k' : Bx) (x : SV) : Cfg := Qeg ⟨c.k, c.s.setK i k'⟩ x
theorem sy_callH {c : Cfg} (S : Sy w0 r bs c.s F a w) (i : Nat) (k k' : Bx) (G : List Nat) (hk : c.s.K[i]? = some k) (hG : ∀ g ∈ G, g ∈ r ∨ w0.heap.size ≤ g) {v : Value} {C : World → Prop} {f : FuncId} {args : Array Value} {Q : Exit → Act → World → Prop}
    (hC : Calls P f args w fun e w' => e = .returned v ∧ C w' ∧ w'.heap[bs.getD i 0]? = some (.cells k'.cs.toArray k'.ty (0, 0)) ∧ Gr w w' (bs.getD i 0 :: G))
    (hh : (QbH P c).map (fun q => (q.1, q.2.map (den bs))) = some (f, args.toList)) (F' : List RF) (hF : ∀ f ∈ F', f ∈ F ∧ ∀ g ∈ G, ¬f.bl g) (hn : ∀ j, j < bs.length → bs.getD j 0 ∉ G)
    (h : ∀ a' w', C w' → Sy w0 r bs (aftH c i k' (.v v)).s F' a' w' → post P (aftH c i k' (.v v)).k Q .normal a' w') : post P c.k Q .normal a w := by
  obtain ⟨kk, s⟩ := c
  match kk with
  | .ops all (o :: l) :: kk =>
    obtain ⟨h1, h2⟩ := Qft S hh
    show wpList P all (post P kk Q) (o :: l) a w
    refine wpList_step fun K hK => ?_
    rw [if_pos h1]
    unfold Oper.wp
    rw [h2, Oper.upon_enter]
    refine Calls.mono hC ?_
    rintro e w' ⟨rfl, hx, hb, hg⟩
    have hi : i < bs.length := by rw [S.bl]; exact (List.getElem?_eq_some_iff.1 hk).1
    have S1 : Sy w0 r bs (s.setK i k') F' a w' := by
      refine ⟨S.df, S.sz, S.tm, by simp [SS.setK, S.bl], fun j q hq => ?_, S.nd, S.lo, fun f hf => ?_, ?_⟩
      · have hq' : (s.K.set i k')[j]? = some q := hq
        by_cases hj : i = j
        · subst hj
          rw [List.getElem?_set_self (by rw [← S.bl]; exact hi)] at hq'
          simp only [Option.some.injEq] at hq'
          subst hq'
          exact hb
        · rw [List.getElem?_set_ne hj] at hq'
          have hjl : j < bs.length := by rw [S.bl]; exact (List.getElem?_eq_some_iff.1 hq').1
          rw [hg.block _ (S.lt hjl) (by
            intro hm
            rcases List.mem_cons.1 hm with e | hm
            · exact hj (S.nd j i hjl hi e).symm
            · exact hn j hjl hm)]
          exact S.bx j q hq'
      · obtain ⟨h3, h4⟩ := hF f hf
        obtain ⟨h5, h6⟩ := S.fs f h3
        exact ⟨f.st w w' h5 fun b hbl => hg.block b (f.lt w h5 b hbl) (by
          intro hm
          rcases List.mem_cons.1 hm with e | hm
          · exact h6 i hi (e ▸ hbl)
          · exact h4 b hm hbl), h6⟩
      · have G0 := S.gr
        refine ⟨hg.os.trans G0.os, hg.tape.trans G0.tape, hg.output.trans G0.output, Nat.le_trans G0.size hg.size, fun b hb' hne => (hg.block b (Nat.lt_of_lt_of_le hb' G0.size) ?_).trans (G0.block b hb' hne)⟩
        intro hm
        rcases List.mem_cons.1 hm with e | hm
        · rcases S.lo i hi with hl | hl
          · omega
          · exact hne (e ▸ hl)
        · rcases hG b hm with hr | hr
          · exact hne hr
          · omega
    exact hK _ _ (h _ w' hx (S1.put o.dst (x := .v v) trivial))
  | [] => simp [QbH] at hh
  | .code _ :: _ => simp [QbH] at hh
  | .blk _ :: _ => simp [QbH] at hh
  | .rnd _ _ :: _ => simp [QbH] at hh
  | .ops _ [] :: _ => simp [QbH] at hh
theorem Sy.lo0 (S : Sy w0 [] bs s F a w) : ∀ i, i < bs.length → w0.heap.size ≤ bs.getD i 0 := fun i hi => (S.lo i hi).elim id (fun h => by cases h)
def regC (c : Cfg) : Cfg :=
  match c with
  | ⟨.code (.region _ ops false) :: k, s⟩ => ⟨.ops ops ops.toList :: k, s⟩
  | c => c
def QgP (P : Program) : Nat → Cfg → Cfg
  | 0, c => c
  | n + 1, ⟨.ops all (o :: l) :: k, s⟩ => match QaM s all o with
    | some false => QgP P n ⟨.ops all l :: k, s.put o.dst (.v undef)⟩
    | some true => match sop P s o with
      | some s' => QgP P n ⟨.ops all l :: k, s'⟩
      | none => ⟨.ops all (o :: l) :: k, s⟩
    | none => ⟨.ops all (o :: l) :: k, s⟩
  | _ + 1, ⟨.ops all [] :: k, s⟩ => ⟨k, s⟩
  | _ + 1, c => c
theorem Qcy {c : Cfg} (S : Sy w0 r bs c.s F a w) {Q : Exit → Act → World → Prop} (h : Sy w0 r bs (regC c).s F a w → post P (regC c).k Q .normal a w) : post P c.k Q .normal a w := by
  obtain ⟨k, s⟩ := c
  match k with
  | .code (.region id ops false) :: k => exact wp_region_list (h S)
  | [] => exact h S
  | .ops _ _ :: _ => exact h S
  | .blk _ :: _ => exact h S
  | .rnd _ _ :: _ => exact h S
  | .code (.region id ops true) :: k => exact h S
  | .code .skip :: _ => exact h S
  | .code (.seq _ _) :: _ => exact h S
  | .code (.cond _ _ _) :: _ => exact h S
  | .code (.block _ _) :: _ => exact h S
  | .code (.loop _) :: _ => exact h S
  | .code (.rangeFunc _ _ _ _) :: _ => exact h S
  | .code (.exit _) :: _ => exact h S
  | .code (.scope _) :: _ => exact h S
  | .code (.label _) :: _ => exact h S
  | .code (.goto _) :: _ => exact h S
  | .code .ret :: _ => exact h S
  | .code (.refuse _) :: _ => exact h S
theorem QbS {Q : Exit → Act → World → Prop} : ∀ (n : Nat) {c : Cfg} {bs : List Nat} {a : Act} {w : World}, Sy w0 r bs c.s F a w →
    (∀ bs' a' w', Sy w0 r (bs ++ bs') (QgP P n c).s F a' w' → post P (QgP P n c).k Q .normal a' w') → post P c.k Q .normal a w
  | 0, c, bs, a, w, S, h => h [] a w (by rw [List.append_nil]; exact S)
  | n + 1, ⟨.ops all (o :: l) :: k, s⟩, bs, a, w, S, h => by
    unfold QgP at h
    cases hw : QaM s all o with
    | none => rw [hw] at h; exact h [] a w (by rw [List.append_nil]; exact S)
    | some b =>
      rw [hw] at h
      have hw' := Qae S hw
      show wpList P all (post P k Q) (o :: l) a w
      cases b with
      | false =>
        simp only at h
        refine wpList_step fun K hK => ?_
        rw [hw']
        simp only [Bool.false_eq_true, if_false]
        refine hK _ _ ?_
        exact QbS n (c := ⟨.ops all l :: k, s.put o.dst (.v undef)⟩) (S.put o.dst (x := .v undef) trivial) h
      | true =>
        simp only at h
        cases hs : sop P s o with
        | none => rw [hs] at h; exact h [] a w (by rw [List.append_nil]; exact S)
        | some s' =>
          rw [hs] at h
          simp only at h
          refine wpList_step fun K hK => ?_
          rw [hw', if_pos rfl]
          refine QcI S hs fun bs1 a1 w1 S1 => hK _ _ ?_
          exact QbS n (c := ⟨.ops all l :: k, s'⟩) S1 fun bs2 a2 w2 S2 => h (bs1 ++ bs2) a2 w2 (by rw [← List.append_assoc]; exact S2)
  | n + 1, ⟨.ops all [] :: k, s⟩, bs, a, w, S, h => h [] a w (by rw [List.append_nil]; exact S)
  | n + 1, ⟨[], s⟩, bs, a, w, S, h => h [] a w (by rw [List.append_nil]; exact S)
  | n + 1, ⟨.code _ :: _, s⟩, bs, a, w, S, h => h [] a w (by rw [List.append_nil]; exact S)
  | n + 1, ⟨.blk _ :: _, s⟩, bs, a, w, S, h => h [] a w (by rw [List.append_nil]; exact S)
  | n + 1, ⟨.rnd _ _ :: _, s⟩, bs, a, w, S, h => h [] a w (by rw [List.append_nil]; exact S)
theorem Qao {c : Cfg} (n : Nat) (S : Sy w0 r bs c.s F a w) {Q : Exit → Act → World → Prop}
    (h : ∀ bs' a' w', Sy w0 r (bs ++ bs') (QgP P n c).s F a' w' → post P (QgP P n c).k Q .normal a' w') : post P c.k Q .normal a w := QbS n S h
def Qgr (c : Cfg) (t : Nat) (v : Value) : Cfg := ⟨c.k, c.s.put (some t) (.v v)⟩
theorem Qb7 {c : Cfg} (t : Nat) {v v' : Value} (S : Sy w0 r bs c.s F a w) (he : v' = v) (hg : c.s.get t = some (.v v')) {Q : Exit → Act → World → Prop}
    (h : Sy w0 r bs (Qgr c t v).s F a w → post P (Qgr c t v).k Q .normal a w) : post P c.k Q .normal a w := h (S.cast t v hg he)
theorem Qaw {c : Cfg} (st n k : Nat) (S : Sy w0 r bs c.s F a w) {Q : Exit → Act → World → Prop} (h : ∀ bs' a' w', Sy w0 r (bs ++ bs') (QgP P k (regC (Qe4 P ⟨0, [st]⟩ n c))).s F a' w' → post P (QgP P k (regC (Qe4 P ⟨0, [st]⟩ n c))).k Q .normal a' w') : post P c.k Q .normal a w :=
  Qan ⟨0, [st]⟩ n S fun _ _ _ S => Qcy S fun S => Qao k S fun _ a w S => h _ a w (by rw [List.append_assoc] at S; exact S)
theorem Qah {c : Cfg} (S : Sy w0 r bs c.s F a w) {Q : Exit → Act → World → Prop} (h : ∀ bs' a' w', Sy w0 r (bs ++ bs') (Qe4 P ⟨0, []⟩ 60 c).s F a' w' → post P (Qe4 P ⟨0, []⟩ 60 c).k Q .normal a' w') : post P c.k Q .normal a w :=
  Qan ⟨0, []⟩ 60 S fun _ a w S => h _ a w S
theorem Qad {c : Cfg} (t : Nat) {b b' : Bool} (S : Sy w0 r bs c.s F a w) (he : b' = b) {Q : Exit → Act → World → Prop} (h : Sy w0 r bs (Qgr c t (.bool b)).s F a w → post P (Qgr c t (.bool b)).k Q .normal a w) (hg : c.s.get t = some (.v (.bool b')) := by kernel_rfl) : post P c.k Q .normal a w := Qb7 t S (congrArg Value.bool he) hg h
theorem QaK {c : Cfg} (t : Nat) {b b' : Int} (S : Sy w0 r bs c.s F a w) (he : b' = b) {Q : Exit → Act → World → Prop} (h : Sy w0 r bs (Qgr c t (.int .i64 b)).s F a w → post P (Qgr c t (.int .i64 b)).k Q .normal a w) (hg : c.s.get t = some (.v (.int .i64 b')) := by kernel_rfl) : post P c.k Q .normal a w := Qb7 t S (congrArg (Value.int .i64) he) hg h
end
class PInv [KP] (Q : Exit → Act → World → Prop) : Prop where
  out : ∀ (d : Option Nat) (v : Value) (c : List PanicEntry) (a : Act) (w : World), (KP.keep.all fun t => d != some t) = true → Q (.panic c) (a.put d v) w → Q (.panic c) a w
instance [KP] {P : Program} {fn : Func} {R : Ending → World → Prop} : PInv (bodyPost P fn R) := ⟨fun d v c a w _ h => by
  cases d with
  | none => exact h
  | some d => exact h⟩
instance [KP] {l : Nat} {J : Act → World → Prop} {Q : Exit → Act → World → Prop} [PInv Q] : PInv (Exit.jump l J Q) := ⟨fun d v c a w hk h => PInv.out (Q := Q) d v c a w hk h⟩
class HF where
  fs : List RF
instance (priority := low) noHF : HF := ⟨[]⟩
section
variable [DF] [KP] [HF]
variable {P : Program} {w0 : World} {r : List Nat} {bs : List Nat} {s : SS} {F : List RF} {a : Act} {w : World}
theorem Qeu {QQ : Exit → Act → World → Prop} [PInv QQ] (k : List It) (d : Option Nat) (v : Value) (c : List PanicEntry) (a : Act) (w : World) (hk : (KP.keep.all fun t => d != some t) = true) (h : post P k QQ (.panic c) (a.put d v) w) : post P k QQ (.panic c) a w := by
  rw [Qb_] at h ⊢
  exact PInv.out d v c a w hk h
def dval (P : Program) (s : SS) (o : Oper) : Option SV :=
  match o.op.operands.toList.all s.isV && notSel o.op with
  | true => match pev P (execOp s.env o) with
    | some (.value x) => some (.v x)
    | _ => none
  | false => none
def qval (P : Program) (K0 : List Bx) (ro : List Nat) (s : SS) (o : Oper) : Option SV :=
  match o.op with
  | .move x => s.val x
  | .assign x => s.val x
  | .load ty x => match s.val x with
    | some (.p i off) => if ro.contains i then match K0[i]? with
        | some k => (ldS P ty k.cs off).map .v
        | none => none
      else none
    | _ => none
  | .fieldAddr t x f => match s.val x with
    | some (.p i off) => (fieldS P t f).map fun q => .p i (off + q)
    | some (.v _) => dval P s o
    | _ => none
  | .nilCheck x => match s.val x with
    | some (.p i off) => some (.p i off)
    | some (.v _) => dval P s o
    | _ => none
  | .indexAddr _ _ _ => none
  | .makeFunc (.func fn) first captured => if first.size = 0 then (Qh_ s captured.toList).map (.f fn) else dval P s o
  | .store _ _ _ => none
  | .alloc _ => none
  | .box _ _ => none
  | .buildSlice _ _ _ => none
  | _ => dval P s o
def QbA (B : List Nat) (K0 : List Bx) (ro : List Nat) (W : World) : Prop := (∀ i ∈ ro, ∀ k, K0[i]? = some k → W.heap[B.getD i 0]? = some (.cells k.cs.toArray k.ty (0, 0))) ∧ ∀ f ∈ HF.fs, f.P W
structure Sd [DF] [HF] (w0 : World) (r : List Nat) (B : List Nat) (K0 : List Bx) (ro : List Nat) (bs : List Nat) (s : SS) (F : List RF) (a : Act) (w : World) : Prop where
  S : Sy w0 r bs s F a w
  pre : ∀ i, i < B.length → bs.getD i 0 = B.getD i 0
  bl : B.length = K0.length
  ff : ∀ f ∈ HF.fs, f ∈ F
  hro : ∀ i ∈ ro, i < B.length → s.K[i]? = K0[i]?
theorem Sd.hold {B : List Nat} {K0 : List Bx} {ro : List Nat} (D : Sd w0 r B K0 ro bs s F a w) : QbA B K0 ro w := ⟨fun i hi k hk => by
  have hl : i < B.length := by rw [D.bl]; exact (List.getElem?_eq_some_iff.1 hk).1
  rw [← D.pre i hl]
  exact D.S.bx i k (by rw [D.hro i hi hl]; exact hk), fun f hf => (D.S.fs f (D.ff f hf)).1⟩
theorem Sd.put {B : List Nat} {K0 : List Bx} {ro : List Nat} (D : Sd w0 r B K0 ro bs s F a w) (d : Option Nat) {x : SV} (hx : x.ok bs.length) : Sd w0 r B K0 ro bs (s.put d x) F (a.put d (den bs x)) w :=
  ⟨D.S.put d hx, D.pre, D.bl, D.ff, fun i hi hl => by
    have : (s.put d x).K = s.K := by unfold SS.put; cases d with
      | none => rfl
      | some d => simp only; split <;> rfl
    rw [this]; exact D.hro i hi hl⟩
theorem QbY {o : Oper} {s : SS} (S : Sy w0 r bs s F a w) {x : SV} (h : dval P s o = some x) : x.ok bs.length ∧ ∀ W : World, (execOp a.eval o).run P W = .ok (.value (den bs x)) W := by
  unfold dval at h
  cases hc : (o.op.operands.toList.all s.isV && notSel o.op) with
  | false => rw [hc] at h; cases h
  | true =>
    rw [hc] at h
    simp only [Bool.and_eq_true, List.all_eq_true] at hc
    obtain ⟨h1, h2⟩ := hc
    have he : execOp a.eval o = execOp s.env o := execOp_congr o (fun x hx => S.env (h1 x hx)) (fun cs b e => by rw [e] at h2; cases h2)
    cases hp : pev P (execOp s.env o) with
    | none => rw [hp] at h; cases h
    | some n =>
      rw [hp] at h
      cases n <;> simp at h
      subst h
      exact ⟨trivial, fun W => by rw [he, pev_run _ hp W]; rfl⟩
theorem Qja {B : List Nat} {K0 : List Bx} {ro : List Nat} (D : Sd w0 r B K0 ro bs s F a w) {o : Oper} {x : SV} (h : qval P K0 ro s o = some x) :
    x.ok bs.length ∧ ∀ W, QbA B K0 ro W → (execOp a.eval o).run P W = .ok (.value (den bs x)) W := by
  have S := D.S
  unfold qval at h
  cases ho : o.op with
  | move y =>
    rw [ho] at h; simp only at h
    obtain ⟨h1, h2⟩ := S.val h
    exact ⟨h2, fun W _ => by unfold execOp; simp only [ho, h1]; rfl⟩
  | assign y =>
    rw [ho] at h; simp only at h
    obtain ⟨h1, h2⟩ := S.val h
    exact ⟨h2, fun W _ => by unfold execOp; simp only [ho, h1]; rfl⟩
  | load ty y =>
    rw [ho] at h; simp only at h
    cases hx : s.val y with
    | none => rw [hx] at h; cases h
    | some z =>
      rw [hx] at h
      cases z with
      | p i off =>
        simp only at h
        split at h
        · rename_i hc
          have hi : i ∈ ro := by simpa using hc
          cases hK : K0[i]? with
          | none => rw [hK] at h; cases h
          | some k =>
            rw [hK] at h; simp only at h
            cases hl : ldS P ty k.cs off with
            | none => rw [hl] at h; cases h
            | some v =>
              rw [hl] at h; simp only [Option.map_some, Option.some.injEq] at h; subst h
              obtain ⟨h1, h2⟩ := S.val hx
              refine ⟨trivial, fun W hW => ?_⟩
              have hlt : i < B.length := by rw [D.bl]; exact (List.getElem?_eq_some_iff.1 hK).1
              have hr := Qeo (P := P) (w := W) hl (hW.1 i hi k hK)
              unfold execOp
              simp only [ho, h1, den, adr, D.pre i hlt, Instr.loadAt, Instr.sureAddr, Sem.run_bind, Sem.run_pure, Result.andThen_ok, hr]
        · cases h
      | _ => simp at h
  | fieldAddr t y f =>
    rw [ho] at h; simp only at h
    cases hx : s.val y with
    | none => rw [hx] at h; cases h
    | some z =>
      rw [hx] at h
      cases z with
      | p i off =>
        simp only at h
        cases hf : fieldS P t f with
        | none => rw [hf] at h; cases h
        | some q =>
          rw [hf] at h; simp only [Option.map_some, Option.some.injEq] at h; subst h
          obtain ⟨h1, h2⟩ := S.val hx
          exact ⟨h2, fun W _ => by unfold execOp; simp only [ho, h1, den, adr, Sem.run_bind, fieldS_run hf, Result.andThen_ok, Sem.run_pure]⟩
      | v _ => exact ⟨(QbY S h).1, fun W _ => (QbY S h).2 W⟩
      | _ => simp at h
  | makeFunc fn first captured =>
    rw [ho] at h
    cases fn with
    | func fn =>
      simp only at h
      split at h
      · rename_i hf
        cases hc : Qh_ s captured.toList with
        | none => rw [hc] at h; cases h
        | some l =>
          rw [hc] at h; simp only [Option.map_some, Option.some.injEq] at h; subst h
          obtain ⟨h1, h2⟩ := Qcf S _ hc
          refine ⟨h2, fun W _ => ?_⟩
          unfold execOp
          simp only [ho, Instr.makeFunc, Sem.run_bind, Sem.run_pure, Result.andThen_ok]
          have e : Value.func (.func fn) (first.map a.eval) (captured.map a.eval) = den bs (.f fn l) := by
            simp only [den]
            congr 1
            · have : first = #[] := Array.eq_empty_of_size_eq_zero hf
              subst this; simp
            · apply Array.ext'; simp only [Array.toList_map]; rw [h1]
          rw [e]
      · exact ⟨(QbY S h).1, fun W _ => (QbY S h).2 W⟩
    | _ => exact ⟨(QbY S h).1, fun W _ => (QbY S h).2 W⟩
  | nilCheck y =>
    rw [ho] at h; simp only at h
    cases hx : s.val y with
    | none => rw [hx] at h; cases h
    | some z =>
      rw [hx] at h
      cases z with
      | p i off =>
        simp only [Option.some.injEq] at h; subst h
        obtain ⟨h1, h2⟩ := S.val hx
        exact ⟨h2, fun W _ => by unfold execOp; simp only [ho, h1, den, adr, Sem.run_pure]⟩
      | v _ => exact ⟨(QbY S h).1, fun W _ => (QbY S h).2 W⟩
      | _ => simp at h
  | indexAddr t x y => rw [ho] at h; cases h
  | store t x y => rw [ho] at h; cases h
  | alloc t => rw [ho] at h; cases h
  | box t x => rw [ho] at h; cases h
  | buildSlice t n p => rw [ho] at h; cases h
  | _ => rw [ho] at h; exact ⟨(QbY S h).1, fun W _ => (QbY S h).2 W⟩
def QeG (P : Program) (ops : Array Oper) (K0 : List Bx) (ro : List Nat) (listed : Array Bool) (s : SS) : List Nat → Option (Nat × SS)
  | [] => none
  | i :: l => match ops[i]? with
    | some o => match QaM s ops o with
      | some false => if Region.free .any ops listed i && KP.keep.all (fun t => o.dst != some t) then some (i, s.put o.dst (.v undef)) else QeG P ops K0 ro listed s l
      | some true => if KP.keep.all (fun t => o.dst != some t) = true then (match qval P K0 ro s o with
        | some x => if Region.free .any ops listed i && KP.keep.all (fun t => o.dst != some t) then some (i, s.put o.dst x) else QeG P ops K0 ro listed s l
        | none => QeG P ops K0 ro listed s l) else QeG P ops K0 ro listed s l
      | none => QeG P ops K0 ro listed s l
    | none => QeG P ops K0 ro listed s l
def Qf1 (P : Program) (ops : Array Oper) (K0 : List Bx) (ro : List Nat) : Nat → Array Bool → SS → Nat × Array Bool × SS
  | 0, listed, s => (0, listed, s)
  | n + 1, listed, s => match QeG P ops K0 ro listed s (Region.ready .any ops listed) with
    | some (i, s') => Qf1 P ops K0 ro n (listed.setIfInBounds i true) s'
    | none => (n + 1, listed, s)
section
variable {ops : Array Oper} {B : List Nat} {K0 : List Bx} {ro : List Nat} {QQ : Exit → Act → World → Prop} [PInv QQ] {k : List It}
theorem QgK {listed : Array Bool} : ∀ (l : List Nat) {i : Nat} {s' : SS}, QeG P ops K0 ro listed s l = some (i, s') → i ∈ l ∧ Region.free .any ops listed i = true ∧
    ∃ o, ops[i]? = some o ∧ (KP.keep.all fun t => o.dst != some t) = true ∧ ((QaM s ops o = some false ∧ s' = s.put o.dst (.v undef)) ∨ (QaM s ops o = some true ∧ ∃ x, qval P K0 ro s o = some x ∧ s' = s.put o.dst x))
  | [], i, s', h => by simp [QeG] at h
  | j :: l, i, s', h => by
    have rest : QeG P ops K0 ro listed s l = some (i, s') → i ∈ j :: l ∧ Region.free .any ops listed i = true ∧
        ∃ o, ops[i]? = some o ∧ (KP.keep.all fun t => o.dst != some t) = true ∧ ((QaM s ops o = some false ∧ s' = s.put o.dst (.v undef)) ∨ (QaM s ops o = some true ∧ ∃ x, qval P K0 ro s o = some x ∧ s' = s.put o.dst x)) := fun h => by
      obtain ⟨h1, h2⟩ := QgK l h
      exact ⟨List.mem_cons_of_mem _ h1, h2⟩
    simp only [QeG] at h
    cases ho : ops[j]? with
    | none => rw [ho] at h; exact rest h
    | some o =>
      rw [ho] at h; simp only at h
      cases hw : QaM s ops o with
      | none => rw [hw] at h; exact rest h
      | some b =>
        rw [hw] at h
        cases b with
        | false =>
          simp only at h
          split at h
          · rename_i hf
            simp only [Option.some.injEq, Prod.mk.injEq] at h
            rw [Bool.and_eq_true] at hf
            obtain ⟨rfl, rfl⟩ := h
            exact ⟨by simp, hf.1, o, ho, hf.2, Or.inl ⟨hw, rfl⟩⟩
          · exact rest h
        | true =>
          simp only at h
          by_cases hkk : (KP.keep.all fun t => o.dst != some t) = true
          case neg => rw [if_neg hkk] at h; exact rest h
          rw [if_pos hkk] at h
          cases hq : qval P K0 ro s o with
          | none => rw [hq] at h; exact rest h
          | some x =>
            rw [hq] at h; simp only at h
            split at h
            · rename_i hf
              simp only [Option.some.injEq, Prod.mk.injEq] at h
              rw [Bool.and_eq_true] at hf
              obtain ⟨rfl, rfl⟩ := h
              exact ⟨by simp, hf.1, o, ho, hf.2, Or.inr ⟨hw, x, hq, rfl⟩⟩
            · exact rest h
abbrev PQ (P : Program) (k : List It) (QQ : Exit → Act → World → Prop) := post P k QQ
theorem Qdr (hs : Region.noSelect ops = true) : ∀ (n : Nat) {listed : Array Bool} {s : SS} {a : Act}, Sd w0 r B K0 ro bs s F a w →
    (∀ a', Sd w0 r B K0 ro bs (Qf1 P ops K0 ro n listed s).2.2 F a' w → wpAnyH P .any ops (PQ P k QQ) (QbA B K0 ro) (Qf1 P ops K0 ro n listed s).1 (Qf1 P ops K0 ro n listed s).2.1 a' w) →
    wpAnyH P .any ops (PQ P k QQ) (QbA B K0 ro) n listed a w
  | 0, listed, s, a, D, h => h a D
  | n + 1, listed, s, a, D, h => by
    unfold Qf1 at h
    cases hq : QeG P ops K0 ro listed s (Region.ready .any ops listed) with
    | none => rw [hq] at h; exact h a D
    | some q =>
      obtain ⟨i, s'⟩ := q
      rw [hq] at h; simp only at h
      obtain ⟨h1, h2, o, ho, hk, h3⟩ := QgK _ hq
      have hr : (Region.ready .any ops listed).contains i = true := by simpa using h1
      rcases h3 with ⟨hw, rfl⟩ | ⟨hw, x, hx, rfl⟩
      · exact wpAnyH_take ho hs h2 hr (fun c a w h => Qeu k o.dst undef c a w hk h) (Or.inr ⟨Qae D.S hw, rfl⟩) D.hold (Qdr hs n (D.put o.dst (x := .v undef) trivial) h)
      · obtain ⟨hok, hrun⟩ := Qja D hx
        exact wpAnyH_take ho hs h2 hr (fun c a w h => Qeu k o.dst _ c a w hk h) (Or.inl ⟨Qae D.S hw, hrun⟩) D.hold (Qdr hs n (D.put o.dst hok) h)
def Nxt (P : Program) (ops : Array Oper) (Q : Exit → Act → World → Prop) (S : World → Prop) (m : Nat) (listed : Array Bool) (a : Act) (w : World) (i : Nat) : Prop :=
  wpOp P ops Q i (fun a' w' => S w' ∧ wpAnyH P .any ops Q S m (listed.setIfInBounds i true) a' w') a w
def Qaf (P : Program) (ops : Array Oper) (Q : Exit → Act → World → Prop) (S : World → Prop) (m : Nat) (listed : Array Bool) (a : Act) (w : World) : List Nat → Prop
  | [] => True
  | i :: l => Nxt P ops Q S m listed a w i ∧ Qaf P ops Q S m listed a w l
theorem QfO {Q : Exit → Act → World → Prop} {S : World → Prop} {m : Nat} {listed : Array Bool} : ∀ (l : List Nat), Qaf P ops Q S m listed a w l → ∀ i ∈ l, Nxt P ops Q S m listed a w i
  | [], _, i, hi => by cases hi
  | j :: l, h, i, hi => by
    rcases List.mem_cons.1 hi with rfl | hi
    · exact h.1
    · exact QfO l h.2 i hi
theorem Qfw {Q : Exit → Act → World → Prop} {S : World → Prop} {n : Nat} {listed : Array Bool} (rs : List Nat) (m : Nat) (hn : n = m + 1) (hr : Region.ready .any ops listed = rs) (hne : rs ≠ [])
    (h : Qaf P ops Q S m listed a w rs) : wpAnyH P .any ops Q S n listed a w := by
  subst hn
  exact wpAnyH_all hr hne (QfO rs h)
def opS (P : Program) (ops : Array Oper) (s : SS) (i : Nat) : Option SS :=
  match ops[i]? with
  | some o => match QaM s ops o with
    | some true => sop P s o
    | some false => some (s.put o.dst (.v undef))
    | none => none
  | none => none
theorem Sd.next {bs' : List Nat} {s' : SS} {a' : Act} {w' : World} (D : Sd w0 r B K0 ro bs s F a w) (S' : Sy w0 r (bs ++ bs') s' F a' w') (hlen : B.length ≤ bs.length) (hro : ro.map (fun i => s'.K[i]?) = ro.map (fun i => K0[i]?)) : Sd w0 r B K0 ro (bs ++ bs') s' F a' w' :=
  ⟨S', fun i hi => by rw [← D.pre i hi]; simp [List.getD, List.getElem?_append_left (Nat.lt_of_lt_of_le hi hlen)], D.bl, D.ff, fun i hi _ => List.map_inj_left.1 hro i hi⟩
theorem QkK {m : Nat} {listed : Array Bool} {i : Nat} (D : Sd w0 r B K0 ro bs s F a w) (hlen : B.length ≤ bs.length) (hs : (opS P ops s i).isSome = true) (hro : ro.map (fun j => ((opS P ops s i).getD s).K[j]?) = ro.map (fun j => K0[j]?))
    (h : ∀ bs' a' w', Sd w0 r B K0 ro (bs ++ bs') ((opS P ops s i).getD s) F a' w' → B.length ≤ (bs ++ bs').length → wpAnyH P .any ops (PQ P k QQ) (QbA B K0 ro) m (listed.setIfInBounds i true) a' w') :
    Nxt P ops (PQ P k QQ) (QbA B K0 ro) m listed a w i := by
  obtain ⟨s', hs'⟩ := Option.isSome_iff_exists.1 hs
  rw [hs'] at hro h
  simp only [Option.getD_some] at hro h
  have fin : ∀ bs' a' w', Sy w0 r (bs ++ bs') s' F a' w' → QbA B K0 ro w' ∧ wpAnyH P .any ops (PQ P k QQ) (QbA B K0 ro) m (listed.setIfInBounds i true) a' w' := fun bs' a' w' S' => by
    have D' := D.next S' hlen hro
    exact ⟨D'.hold, h bs' a' w' D' (by simp; omega)⟩
  unfold opS at hs'
  unfold Nxt
  cases ho : ops[i]? with
  | none => rw [ho] at hs'; cases hs'
  | some o =>
    rw [ho] at hs'; simp only at hs'
    unfold wpOp
    rw [ho]
    simp only
    cases hw : QaM s ops o with
    | none => rw [hw] at hs'; cases hs'
    | some b =>
      rw [hw] at hs'
      rw [Qae D.S hw]
      cases b with
      | true =>
        rw [if_pos rfl]
        exact Or.inl (QcI D.S hs' fin)
      | false =>
        simp only [Option.some.injEq] at hs'
        subst hs'
        simp only [Bool.false_eq_true, if_false]
        exact fin [] _ _ (by rw [List.append_nil]; exact D.S.put o.dst (x := .v undef) trivial)
theorem Qir {m : Nat} {listed : Array Bool} {i : Nat} (D : Sd w0 r B K0 ro bs s F a w) {X : Type} {val : X → Value} {C : X → World → Prop} {f : FuncId} {args : Array Value}
    (hC : Calls P f args w fun e w' => ∃ x, e = .returned (val x) ∧ C x w' ∧ Below w.heap.size w w')
    (hh : ((ops[i]?).bind fun o => QbH P ⟨[.ops ops [o]], s⟩).map (fun q => (q.1, q.2.map (den bs))) = some (f, args.toList))
    (h : ∀ x a' w', C x w' → Below w.heap.size w w' → Sd w0 r B K0 ro bs (s.put ((ops[i]?).bind (·.dst)) (.v (val x))) F a' w' → wpAnyH P .any ops (PQ P k QQ) (QbA B K0 ro) m (listed.setIfInBounds i true) a' w') :
    Nxt P ops (PQ P k QQ) (QbA B K0 ro) m listed a w i := by
  unfold Nxt
  cases ho : ops[i]? with
  | none => rw [ho] at hh; simp at hh
  | some o =>
    rw [ho] at hh h; simp only [Option.bind_some] at hh h
    obtain ⟨h1, h2⟩ := Qft D.S hh
    unfold wpOp
    rw [ho]
    simp only
    rw [if_pos h1]
    refine Or.inl ?_
    unfold Oper.wp
    rw [h2, Oper.upon_enter]
    refine Calls.mono hC ?_
    rintro e w' ⟨x, rfl, hx, hb⟩
    have D1 : Sd w0 r B K0 ro bs s F a w' := ⟨D.S.below hb, D.pre, D.bl, D.ff, D.hro⟩
    have D' := D1.put o.dst (x := .v (val x)) trivial
    exact ⟨D'.hold, h x _ w' hx hb D'⟩
theorem any_done {Q : Exit → Act → World → Prop} {S : World → Prop} {n : Nat} {listed : Array Bool} (hr : Region.ready .any ops listed = []) (h : Q .normal a w) : wpAnyH P .any ops Q S n listed a w := wpAnyH_done hr h n
end
def Qaz (c : Cfg) : Array Oper :=
  match c.k with
  | .code (.region _ ops true) :: _ => ops
  | _ => #[]
def isD (c : Cfg) : Bool :=
  match c.k with
  | .code (.region _ _ true) :: _ => true
  | _ => false
def kD (c : Cfg) : List It := c.k.tail
theorem sy_draw {c : Cfg} {QQ : Exit → Act → World → Prop} [PInv QQ] (ro : List Nat) (hm : P.follows .mixedOrders = true) (hd : isD c = true) (S : Sy w0 r bs c.s F a w) (hs : Region.noSelect (Qaz c) = true)
    (h : ∀ w1, Sd w0 r bs c.s.K ro bs c.s F a w1 → wpAnyH P .any (Qaz c) (PQ P (kD c) QQ) (QbA bs c.s.K ro) (Qaz c).size (Array.replicate (Qaz c).size false) a w1) (hff : ∀ f ∈ HF.fs, f ∈ F := by exact fun f hf => absurd hf List.not_mem_nil) : post P c.k QQ .normal a w := by
  obtain ⟨k, s⟩ := c
  match k, hd with
  | .code (.region id ops true) :: k, _ => exact wp_region_held hm (h _ ⟨S.drew, fun _ _ => rfl, S.bl, hff, fun _ _ _ => rfl⟩)
structure DC where
  m : Nat
  lst : Array Bool
  s : SS
def DC.pred (d : DC) : Nat := d.m - 1
def drq (P : Program) (ops : Array Oper) (K0 : List Bx) (ro : List Nat) (d : DC) : DC :=
  match Qf1 P ops K0 ro d.m d.lst d.s with
  | (m, l, s) => ⟨m, l, s⟩
def GD (P : Program) (c : Cfg) (QQ : Exit → Act → World → Prop) (B : List Nat) (ro : List Nat) (d : DC) (a : Act) (w : World) : Prop :=
  wpAnyH P .any (Qaz c) (PQ P (kD c) QQ) (QbA B c.s.K ro) d.m d.lst a w
def d0 (P : Program) (c : Cfg) (ro : List Nat) : DC := drq P (Qaz c) c.s.K ro ⟨(Qaz c).size, Array.replicate (Qaz c).size false, c.s⟩
def dV (P : Program) (c : Cfg) (ro : List Nat) (d : DC) (i : Nat) (v : SV) : DC := drq P (Qaz c) c.s.K ro ⟨d.m - 1, d.lst.setIfInBounds i true, d.s.put (((Qaz c)[i]?).bind (·.dst)) v⟩
def dO (P : Program) (c : Cfg) (ro : List Nat) (d : DC) (i : Nat) : DC := drq P (Qaz c) c.s.K ro ⟨d.m - 1, d.lst.setIfInBounds i true, (opS P (Qaz c) d.s i).getD d.s⟩
def endD (c : Cfg) (d : DC) : Cfg := ⟨kD c, d.s⟩
section
variable {c : Cfg} {QQ : Exit → Act → World → Prop} [PInv QQ] {B : List Nat} {ro : List Nat} {d : DC}
theorem Qbn (hs : Region.noSelect (Qaz c) = true) (D : Sd w0 r B c.s.K ro bs d.s F a w)
    (h : ∀ a', Sd w0 r B c.s.K ro bs (drq P (Qaz c) c.s.K ro d).s F a' w → GD P c QQ B ro (drq P (Qaz c) c.s.K ro d) a' w) :
    wpAnyH P .any (Qaz c) (PQ P (kD c) QQ) (QbA B c.s.K ro) d.m d.lst a w := Qdr hs d.m D h
theorem QaF (ro : List Nat) (hm : P.follows .mixedOrders = true) (hd : isD c = true) (S : Sy w0 r bs c.s F a w) (hs : Region.noSelect (Qaz c) = true)
    (h : ∀ a' w1, Sd w0 r bs c.s.K ro bs (d0 P c ro).s F a' w1 → GD P c QQ bs ro (d0 P c ro) a' w1) (hff : ∀ f ∈ HF.fs, f ∈ F := by exact fun f hf => absurd hf List.not_mem_nil) : post P c.k QQ .normal a w :=
  sy_draw ro hm hd S hs (fun w1 D => Qbn (d := ⟨(Qaz c).size, Array.replicate (Qaz c).size false, c.s⟩) hs D (fun a' D' => h a' w1 D')) hff
section
variable (i : Nat) (D : Sd w0 r B c.s.K ro bs d.s F a w) (hs : Region.noSelect (Qaz c) = true) (hn : (d.m != 0) = true) (hr : Region.ready .any (Qaz c) d.lst = [i])
include i D hs hn hr
theorem QhP {X : Type} {val : X → Value} {C : X → World → Prop} {f : FuncId} {args : Array Value} (hC : Calls P f args w fun e w' => ∃ x, e = .returned (val x) ∧ C x w' ∧ Below w.heap.size w w') (hh : (((Qaz c)[i]?).bind fun o => QbH P ⟨[.ops (Qaz c) [o]], d.s⟩).map (fun q => (q.1, q.2.map (den bs))) = some (f, args.toList)) (h : ∀ x a' w', C x w' → Below w.heap.size w w' → Sd w0 r B c.s.K ro bs (dV P c ro d i (.v (val x))).s F a' w' → GD P c QQ B ro (dV P c ro d i (.v (val x))) a' w') : GD P c QQ B ro d a w := by
  have hn' : d.m = (d.m - 1) + 1 := by simp at hn; omega
  exact Qfw [i] (d.m - 1) hn' hr (by simp) ⟨Qir D hC hh fun x a' w' hx hb D' => Qbn (d := ⟨d.m - 1, d.lst.setIfInBounds i true, d.s.put (((Qaz c)[i]?).bind (·.dst)) (.v (val x))⟩) hs D' fun a'' D'' => h x a'' w' hx hb D'', trivial⟩
theorem dr_call1 {v : Value} {f : FuncId} {args : Array Value} (hC : Calls P f args w fun e w' => e = .returned v ∧ Below w.heap.size w w') (hh : (((Qaz c)[i]?).bind fun o => QbH P ⟨[.ops (Qaz c) [o]], d.s⟩).map (fun q => (q.1, q.2.map (den bs))) = some (f, args.toList)) (h : ∀ a' w', Below w.heap.size w w' → Sd w0 r B c.s.K ro bs (dV P c ro d i (.v v)).s F a' w' → GD P c QQ B ro (dV P c ro d i (.v v)) a' w') : GD P c QQ B ro d a w :=
  QhP i D hs hn hr (X := Unit) (val := fun _ => v) (C := fun _ _ => True) (hC.mono fun e w' h => ⟨(), h.1, trivial, h.2⟩) hh fun _ a' w' _ hb D' => h a' w' hb D'
theorem QeH (hlen : B.length ≤ bs.length) (hi : (opS P (Qaz c) d.s i).isSome = true) (hro : ro.map (fun j => ((opS P (Qaz c) d.s i).getD d.s).K[j]?) = ro.map (fun j => c.s.K[j]?)) (h : ∀ bs' a' w', Sd w0 r B c.s.K ro (bs ++ bs') (dO P c ro d i).s F a' w' → B.length ≤ (bs ++ bs').length → GD P c QQ B ro (dO P c ro d i) a' w') : GD P c QQ B ro d a w := by
  have hn' : d.m = (d.m - 1) + 1 := by simp at hn; omega
  exact Qfw [i] (d.m - 1) hn' hr (by simp) ⟨QkK D hlen hi hro fun bs' a' w' D' hl => Qbn (d := ⟨d.m - 1, d.lst.setIfInBounds i true, (opS P (Qaz c) d.s i).getD d.s⟩) hs D' fun a'' D'' => h bs' a'' w' D'' hl, trivial⟩
end
theorem Qac (rs : List Nat) (hn : (d.m != 0) = true) (hr : Region.ready .any (Qaz c) d.lst = rs) (hne : rs.isEmpty = false) (h : Qaf P (Qaz c) (PQ P (kD c) QQ) (QbA B c.s.K ro) d.pred d.lst a w rs) : GD P c QQ B ro d a w := by
  have hn' : d.m = (d.m - 1) + 1 := by simp at hn; omega
  exact Qfw rs (d.m - 1) hn' hr (by intro e; rw [e] at hne; cases hne) h
section
variable (i : Nat) (D : Sd w0 r B c.s.K ro bs d.s F a w) (hs : Region.noSelect (Qaz c) = true)
include i D hs
theorem QaG {X : Type} {val : X → Value} {C : X → World → Prop} {f : FuncId} {args : Array Value} (hC : Calls P f args w fun e w' => ∃ x, e = .returned (val x) ∧ C x w' ∧ Below w.heap.size w w') (hh : (((Qaz c)[i]?).bind fun o => QbH P ⟨[.ops (Qaz c) [o]], d.s⟩).map (fun q => (q.1, q.2.map (den bs))) = some (f, args.toList)) (h : ∀ x a' w', C x w' → Below w.heap.size w w' → Sd w0 r B c.s.K ro bs (dV P c ro d i (.v (val x))).s F a' w' → GD P c QQ B ro (dV P c ro d i (.v (val x))) a' w') : Nxt P (Qaz c) (PQ P (kD c) QQ) (QbA B c.s.K ro) d.pred d.lst a w i :=
  Qir D hC hh fun x a' w' hx hb D' => Qbn (d := ⟨d.m - 1, d.lst.setIfInBounds i true, d.s.put (((Qaz c)[i]?).bind (·.dst)) (.v (val x))⟩) hs D' fun a'' D'' => h x a'' w' hx hb D''
theorem Qbg (hlen : B.length ≤ bs.length) (hi : (opS P (Qaz c) d.s i).isSome = true) (hro : ro.map (fun j => ((opS P (Qaz c) d.s i).getD d.s).K[j]?) = ro.map (fun j => c.s.K[j]?)) (h : ∀ bs' a' w', Sd w0 r B c.s.K ro (bs ++ bs') (dO P c ro d i).s F a' w' → B.length ≤ (bs ++ bs').length → GD P c QQ B ro (dO P c ro d i) a' w') : Nxt P (Qaz c) (PQ P (kD c) QQ) (QbA B c.s.K ro) d.pred d.lst a w i :=
  QkK D hlen hi hro fun bs' a' w' D' hl => Qbn (d := ⟨d.m - 1, d.lst.setIfInBounds i true, (opS P (Qaz c) d.s i).getD d.s⟩) hs D' fun a'' D'' => h bs' a'' w' D'' hl
end
theorem Sd.addF {K0 : List Bx} {s : SS} (D : Sd w0 r B K0 ro bs s F a w) (f : RF) (hP : f.P w) (ha : ∀ i, i < bs.length → ¬f.bl (bs.getD i 0)) : Sd w0 r B K0 ro bs s (f :: F) a w := ⟨D.S.add f hP ha, D.pre, D.bl, fun g hg => List.mem_cons_of_mem _ (D.ff g hg), D.hro⟩
theorem dr_tk (i : Nat) (D : Sd w0 r B c.s.K ro bs d.s F a w) (hs : Region.noSelect (Qaz c) = true) (hn : (d.m != 0) = true) (hf : (Region.free .any (Qaz c) d.lst i && (Region.ready .any (Qaz c) d.lst).contains i && KP.keep.all fun t => ((Qaz c)[i]?).bind (·.dst) != some t) = true)
    {o : Oper} (ho : (Qaz c)[i]? = some o) {x : SV} (hx : x.ok bs.length) (hw : QaM d.s (Qaz c) o = some true) (hrun : ∀ W, QbA B c.s.K ro W → (execOp a.eval o).run P W = .ok (.value (den bs x)) W)
    (h : ∀ a', Sd w0 r B c.s.K ro bs (dV P c ro d i x).s F a' w → GD P c QQ B ro (dV P c ro d i x) a' w) : GD P c QQ B ro d a w := by
  have hn' : d.m = (d.m - 1) + 1 := by simp at hn; omega
  simp only [Bool.and_eq_true] at hf
  obtain ⟨⟨h1, h2⟩, h3⟩ := hf
  have e : ((Qaz c)[i]?).bind (·.dst) = o.dst := by rw [ho]; rfl
  rw [e] at h3
  show wpAnyH P .any (Qaz c) (PQ P (kD c) QQ) (QbA B c.s.K ro) d.m d.lst a w
  rw [hn']
  refine wpAnyH_take ho hs h1 h2 (fun c' a w h => Qeu (kD c) o.dst _ c' a w h3 h) (Or.inl ⟨Qae D.S hw, hrun⟩) D.hold ?_
  exact Qbn (d := ⟨d.m - 1, d.lst.setIfInBounds i true, d.s.put (((Qaz c)[i]?).bind (·.dst)) x⟩) hs (by rw [e]; exact D.put o.dst hx) h
theorem QaO (D : Sd w0 r B c.s.K ro bs d.s F a w) (hr : Region.ready .any (Qaz c) d.lst = [])
    (h : Sy w0 r bs (endD c d).s F a w → post P (endD c d).k QQ .normal a w) : GD P c QQ B ro d a w := any_done hr (h D.S)
end
def seqR (P : Program) (ops : Array Oper) : List Oper → List SV → SS → SS
  | [], _, s => s
  | o :: l, rs, s => match QaM s ops o with
    | some false => seqR P ops l rs (s.put o.dst (.v undef))
    | some true => match sop P s o with
      | some s' => seqR P ops l rs s'
      | none => match rs with
        | x :: rs' => seqR P ops l rs' (s.put o.dst x)
        | [] => s
    | none => s
def Qj_ (P : Program) (c : Cfg) (rs : List SV) : SS := seqR P (Qaz c) (Qaz c).toList rs c.s
end
end Go.Proofs.Ytfhmdlihnidjoaa.SZ
namespace Go.Proofs.Ytfhmdlihnidjoaa.SX
set_option linter.unusedVariables false
set_option linter.unusedSectionVars false
set_option linter.unusedSimpArgs false
set_option maxRecDepth 100000
open Go Go.RowKit
inductive SV where
  | v (x : Value)
  | p (i o : Nat)
  | s (i o l c : Nat)
  | f (fn : FuncId) (caps : List (Nat × Nat))
def adr (bs : List Nat) (i o : Nat) : Addr := ⟨bs.getD i 0, o, none⟩
def den (bs : List Nat) : SV → Value
  | .v x => x
  | .p i o => .pointer (some (adr bs i o))
  | .s i o l c => .slice (some (adr bs i o)) l c
  | .f fn caps => .func (.func fn) #[] (caps.map fun q => Value.pointer (some (adr bs q.1 q.2))).toArray
def SV.ok (n : Nat) : SV → Prop
  | .v _ => True
  | .p i _ => i < n
  | .s i _ _ _ => i < n
  | .f _ caps => ∀ q ∈ caps, q.1 < n
theorem SV.ok_mono {n m : Nat} {x : SV} (h : x.ok n) (hm : n ≤ m) : x.ok m := by
  cases x with
  | v x => trivial
  | p i o => exact Nat.lt_of_lt_of_le h hm
  | s i o l c => exact Nat.lt_of_lt_of_le h hm
  | f fn caps => exact fun q hq => Nat.lt_of_lt_of_le (h q hq) hm
theorem QdU {bs cs : List Nat} {i o : Nat} (h : i < bs.length) : adr (bs ++ cs) i o = adr bs i o := by
  unfold adr; congr 1; simp [List.getD, List.getElem?_append_left h]
theorem QhR {bs cs : List Nat} {x : SV} (h : x.ok bs.length) : den (bs ++ cs) x = den bs x := by
  cases x with
  | v x => rfl
  | p i o => simp only [den]; rw [QdU h]
  | s i o l c => simp only [den]; rw [QdU h]
  | f fn caps =>
    simp only [den]; congr 2
    exact List.map_congr_left fun q hq => by rw [QdU (h q hq)]
structure Bx where
  ty : TypeId
  cs : List Value
structure SS where
  n : Nat
  T : List (Nat × SV)
  K : List Bx
def SS.get (s : SS) (t : Nat) : Option SV := s.T.lookup t
def SS.put (s : SS) (d : Option Nat) (x : SV) : SS :=
  match d with
  | none => s
  | some d => if d < s.n then { s with T := (d, x) :: s.T } else { s with T := s.T.filter fun q => q.1 != d }
def SS.val (s : SS) : Operand → Option SV
  | .tmp t => s.get t
  | .const v => some (.v v)
  | .func f => some (.v (.func (.func f) #[] #[]))
  | .global _ => none
def SS.env (s : SS) (x : Operand) : Value :=
  match s.val x with
  | some (.v y) => y
  | _ => undef
def SS.isV (s : SS) (x : Operand) : Bool :=
  match s.val x with
  | some (.v _) => true
  | _ => false
structure RF where
  bl : Nat → Prop
  P : World → Prop
  lt : ∀ w, P w → ∀ b, bl b → b < w.heap.size
  st : ∀ w w', P w → (∀ b, bl b → w'.heap[b]? = w.heap[b]?) → P w'
structure Sy (w0 : World) (r : Option Nat) (bs : List Nat) (s : SS) (F : List RF) (a : Act) (w : World) : Prop where
  df : a.defers = []
  sz : a.tmps.size = s.n
  tm : ∀ t x, s.get t = some x → a.tmps[t]? = some (den bs x) ∧ x.ok bs.length
  bl : bs.length = s.K.length
  bx : ∀ i k, s.K[i]? = some k → w.heap[bs.getD i 0]? = some (.cells k.cs.toArray k.ty (0, 0))
  nd : ∀ i j, i < bs.length → j < bs.length → bs.getD i 0 = bs.getD j 0 → i = j
  lo : ∀ i, i < bs.length → w0.heap.size ≤ bs.getD i 0 ∨ r = some (bs.getD i 0)
  fs : ∀ f ∈ F, f.P w ∧ ∀ i, i < bs.length → ¬f.bl (bs.getD i 0)
  gr : w0.grownBy w r
section
variable {P : Program} {w0 : World} {r : Option Nat} {bs : List Nat} {s : SS} {F : List RF} {a : Act} {w : World}
theorem Sy.val (S : Sy w0 r bs s F a w) {x : Operand} {y : SV} (h : s.val x = some y) : a.eval x = den bs y ∧ y.ok bs.length := by
  cases x with
  | tmp t =>
    obtain ⟨h1, h2⟩ := S.tm t y h
    exact ⟨by simp [Act.eval, Array.getD_eq_getD_getElem?, h1], h2⟩
  | const v => simp only [SS.val, Option.some.injEq] at h; subst h; exact ⟨rfl, trivial⟩
  | global g => simp [SS.val] at h
  | func f => simp only [SS.val, Option.some.injEq] at h; subst h; exact ⟨rfl, trivial⟩
theorem Sy.env (S : Sy w0 r bs s F a w) {x : Operand} (h : s.isV x = true) : a.eval x = s.env x := by
  unfold SS.isV at h
  unfold SS.env
  cases hx : s.val x with
  | none => rw [hx] at h; cases h
  | some y =>
    rw [hx] at h
    cases y with
    | v y => exact (S.val hx).1
    | _ => cases h
theorem Qc5 {T : List (Nat × SV)} {d t : Nat} {x : SV} (h : (T.filter fun q => q.1 != d).lookup t = some x) : t ≠ d ∧ T.lookup t = some x := by
  induction T with
  | nil => simp at h
  | cons q T ih =>
    by_cases hq : q.1 = d
    · have e : (q.1 != d) = false := by simp [hq]
      rw [List.filter_cons, e] at h
      simp only [Bool.false_eq_true, if_false] at h
      obtain ⟨h1, h2⟩ := ih h
      refine ⟨h1, ?_⟩
      rw [List.lookup_cons, show (t == q.1) = false by simp; omega]
      exact h2
    · have e : (q.1 != d) = true := by simp [hq]
      rw [List.filter_cons, e] at h
      simp only [if_true] at h
      rw [List.lookup_cons] at h ⊢
      cases ht : (t == q.1) with
      | true => rw [ht] at h; simp at ht; exact ⟨by omega, h⟩
      | false => rw [ht] at h; exact ih h
theorem Sy.put (S : Sy w0 r bs s F a w) (d : Option Nat) {x : SV} (hx : x.ok bs.length) : Sy w0 r bs (s.put d x) F (a.put d (den bs x)) w := by
  cases d with
  | none => exact S
  | some d =>
    unfold SS.put Act.put
    simp only
    split
    · rename_i hd
      refine ⟨S.df, by simp [S.sz], fun t y h => ?_, S.bl, S.bx, S.nd, S.lo, S.fs, S.gr⟩
      unfold SS.get at h
      simp only [List.lookup_cons] at h
      cases ht : (t == d) with
      | true =>
        rw [ht] at h; simp at ht; subst ht
        simp only [Option.some.injEq] at h; subst h
        exact ⟨by simp [S.sz, hd], hx⟩
      | false =>
        rw [ht] at h; simp at ht
        have := S.tm t y h
        exact ⟨by rw [Array.getElem?_setIfInBounds_ne (by omega)]; exact this.1, this.2⟩
    · refine ⟨S.df, by simp [S.sz], fun t y h => ?_, S.bl, S.bx, S.nd, S.lo, S.fs, S.gr⟩
      obtain ⟨h1, h2⟩ := Qc5 (T := s.T) h
      have := S.tm t y h2
      exact ⟨by rw [Array.getElem?_setIfInBounds_ne (by omega)]; exact this.1, this.2⟩
theorem Sy.lt (S : Sy w0 r bs s F a w) {i : Nat} (h : i < bs.length) : bs.getD i 0 < w.heap.size := by
  have hk : i < s.K.length := by rw [← S.bl]; exact h
  have := S.bx i _ (List.getElem?_eq_getElem hk)
  rcases Nat.lt_or_ge (bs.getD i 0) w.heap.size with h1 | h1
  · exact h1
  · rw [Array.getElem?_eq_none h1] at this; cases this
theorem Sy.below (S : Sy w0 r bs s F a w) {w' : World} (hb : Below w.heap.size w w') : Sy w0 r bs s F a w' := by
  have hk : ∀ i, i < bs.length → w'.heap[bs.getD i 0]? = w.heap[bs.getD i 0]? := fun i hi => hb.block _ (S.lt hi)
  refine ⟨S.df, S.sz, S.tm, S.bl, fun i k h => ?_, S.nd, S.lo, fun f hf => ?_, ?_⟩
  · have hi : i < bs.length := by rw [S.bl]; exact (List.getElem?_eq_some_iff.1 h).1
    rw [hk i hi]; exact S.bx i k h
  · obtain ⟨h1, h2⟩ := S.fs f hf
    exact ⟨f.st w w' h1 (fun b hb' => hb.block b (f.lt w h1 b hb')), h2⟩
  · have g := S.gr
    exact ⟨hb.os.trans g.os, hb.tape.trans g.tape, hb.output.trans g.output, Nat.le_trans g.size hb.size, fun k hk hne => (hb.block k (Nat.lt_of_lt_of_le hk g.size)).trans (g.block k hk hne)⟩
theorem Qba {bs : List Nat} {b i : Nat} : (bs ++ [b]).getD i 0 = if i < bs.length then bs.getD i 0 else if i = bs.length then b else 0 := by
  split
  · rename_i h; simp [List.getD, List.getElem?_append_left h]
  · rename_i h
    split
    · rename_i h2; subst h2; simp [List.getD]
    · rename_i h2; simp [List.getD, List.getElem?_append_right (Nat.le_of_not_lt h)]; rw [List.getElem?_eq_none (by simp; omega)]; rfl
def SS.new (s : SS) (k : Bx) : SS := { s with K := s.K ++ [k] }
theorem Sy.new (S : Sy w0 r bs s F a w) (k : Bx) : Sy w0 r (bs ++ [w.heap.size]) (s.new k) F a (w.alloc (.cells k.cs.toArray k.ty (0, 0))) := by
  have hb : Below w.heap.size w (w.alloc (.cells k.cs.toArray k.ty (0, 0))) := (Below.refl _ _).alloc (Nat.le_refl _) _
  have S' := S.below hb
  have hl : (bs ++ [w.heap.size]).length = bs.length + 1 := by simp
  have hlt : ∀ i, i < bs.length → bs.getD i 0 < w.heap.size := fun i hi => S.lt hi
  refine ⟨S'.df, S'.sz, fun t x h => ?_, by simp [SS.new, S.bl], fun i k' h => ?_, fun i j hi hj he => ?_, fun i hi => ?_, fun f hf => ?_, S'.gr⟩
  · obtain ⟨h1, h2⟩ := S'.tm t x h
    exact ⟨by rw [QhR h2]; exact h1, SV.ok_mono h2 (by omega)⟩
  · have h' : (s.K ++ [k])[i]? = some k' := h
    rw [Qba]
    by_cases hi : i < bs.length
    · rw [if_pos hi]
      rw [List.getElem?_append_left (by rw [← S.bl]; exact hi)] at h'
      exact S'.bx i k' h'
    · rw [if_neg hi]
      have hi2 : i = bs.length := by
        have := (List.getElem?_eq_some_iff.1 h').1
        simp at this
        rw [← S.bl] at this
        omega
      rw [if_pos hi2]
      rw [hi2, S.bl, List.getElem?_append_right (Nat.le_refl _)] at h'
      simp at h'
      subst h'
      exact heap_alloc_new w _
  · rw [hl] at hi hj
    rw [Qba, Qba] at he
    by_cases h1 : i < bs.length <;> by_cases h2 : j < bs.length
    · rw [if_pos h1, if_pos h2] at he; exact S.nd i j h1 h2 he
    · rw [if_pos h1, if_neg h2, if_pos (by omega)] at he; have := hlt i h1; omega
    · rw [if_neg h1, if_pos h2, if_pos (by omega)] at he; have := hlt j h2; omega
    · omega
  · rw [hl] at hi
    rw [Qba]
    by_cases h1 : i < bs.length
    · rw [if_pos h1]; exact S.lo i h1
    · rw [if_neg h1, if_pos (by omega)]; exact Or.inl S.gr.size
  · obtain ⟨h1, h2⟩ := S'.fs f hf
    refine ⟨h1, fun i hi => ?_⟩
    rw [hl] at hi
    rw [Qba]
    by_cases h3 : i < bs.length
    · rw [if_pos h3]; exact h2 i h3
    · rw [if_neg h3, if_pos (by omega)]
      intro he
      have := f.lt w (S.fs f hf).1 _ he
      omega
theorem Sy.newv (S : Sy w0 r bs s F a w) (k : Bx) (d : Option Nat) {x : SV} (hx : x.ok (bs.length + 1)) : Sy w0 r (bs ++ [w.heap.size]) ((s.new k).put d x) F (a.put d (den (bs ++ [w.heap.size]) x)) (w.alloc (.cells k.cs.toArray k.ty (0, 0))) :=
  (S.new k).put d (by simpa using hx)
def setL : List Value → Nat → List Value → List Value
  | cs, _, [] => cs
  | cs, o, v :: r => setL (cs.set o v) (o + 1) r
theorem Qbs (b : Nat) (ty : TypeId) : ∀ (vs : List Value) (o : Nat) (w : World) (cs : List Value), w.heap[b]? = some (.cells cs.toArray ty (0, 0)) → (w.setCells b o vs).heap[b]? = some (.cells (setL cs o vs).toArray ty (0, 0))
  | [], _, _, _, h => h
  | v :: r, o, w, cs, h => by
    rw [World.setCells, setL]
    refine Qbs b ty r (o + 1) _ (cs.set o v) ?_
    simp only [World.setCell, Array.getElem?_modify]
    simp [h]
theorem setCells_os (b : Nat) : ∀ (vs : List Value) (o : Nat) (w : World), (w.setCells b o vs).os = w.os ∧ (w.setCells b o vs).tape = w.tape ∧ (w.setCells b o vs).output = w.output ∧ (w.setCells b o vs).heap.size = w.heap.size ∧ ∀ k, k ≠ b → (w.setCells b o vs).heap[k]? = w.heap[k]?
  | [], _, _ => ⟨rfl, rfl, rfl, rfl, fun _ _ => rfl⟩
  | v :: r, o, w => by
    obtain ⟨h1, h2, h3, h4, h5⟩ := setCells_os b r (o + 1) (w.setCell ⟨b, o, none⟩ v)
    exact ⟨h1, h2, h3, h4.trans (by simp [World.setCell]), fun k hk => (h5 k hk).trans (Below.heap_setCell _ _ _ _ hk)⟩
def SS.setK (s : SS) (i : Nat) (k : Bx) : SS := { s with K := s.K.set i k }
theorem Sy.store (S : Sy w0 r bs s F a w) {i o : Nat} {k : Bx} (hk : s.K[i]? = some k) (vs : List Value) : Sy w0 r bs (s.setK i ⟨k.ty, setL k.cs o vs⟩) F a (w.setCells (bs.getD i 0) o vs) := by
  have hi : i < bs.length := by rw [S.bl]; exact (List.getElem?_eq_some_iff.1 hk).1
  obtain ⟨h1, h2, h3, h4, h5⟩ := setCells_os (bs.getD i 0) vs o w
  refine ⟨S.df, S.sz, S.tm, by simp [SS.setK, S.bl], fun j k' h => ?_, S.nd, S.lo, fun f hf => ?_, ?_⟩
  · have h' : (s.K.set i ⟨k.ty, setL k.cs o vs⟩)[j]? = some k' := h
    by_cases hj : i = j
    · subst hj
      rw [List.getElem?_set_self (by rw [← S.bl]; exact hi)] at h'
      simp only [Option.some.injEq] at h'
      subst h'
      exact Qbs _ _ vs o w k.cs (S.bx i k hk)
    · rw [List.getElem?_set_ne hj] at h'
      have hjl : j < bs.length := by rw [S.bl]; exact (List.getElem?_eq_some_iff.1 h').1
      rw [h5 _ (fun he => hj (S.nd j i hjl hi he).symm)]
      exact S.bx j k' h'
  · obtain ⟨g1, g2⟩ := S.fs f hf
    exact ⟨f.st w _ g1 (fun b hb => h5 b (fun he => g2 i hi (he ▸ hb))), g2⟩
  · have g := S.gr
    refine ⟨h1.trans g.os, h2.trans g.tape, h3.trans g.output, by rw [h4]; exact g.size, fun b hb hne => ?_⟩
    rw [h5 b ?_]
    · exact g.block b hb hne
    · intro he
      rcases S.lo i hi with hl | hl
      · omega
      · exact hne (by rw [he, hl])
theorem Sy.drew (S : Sy w0 r bs s F a w) : Sy w0 r bs s F a w.drew :=
  S.below ⟨rfl, rfl, rfl, Nat.le_refl _, fun _ _ => rfl⟩
def pev (P : Program) {α : Type} : Sem α → Option α
  | .pure a => some a
  | .program k => pev P (k P)
  | .mark _ k => pev P k
  | _ => none
theorem pev_run {α : Type} {P : Program} (m : Sem α) {x : α} (h : pev P m = some x) (w : World) : m.run P w = .ok x w := by
  induction m with
  | pure a => simp only [pev, Option.some.injEq] at h; subst h; rfl
  | program k ih => simp only [pev] at h; exact ih P h
  | mark m k ih => simp only [pev] at h; exact ih h
  | _ => simp [pev] at h
theorem Qaq {α β : Type} {l : Array α} {f g : α → β} (h : ∀ x ∈ l.toList, f x = g x) : l.map f = l.map g := by
  apply Array.ext'
  simp only [Array.toList_map]
  exact List.map_congr_left h
theorem execOp_congr {ρ ρ' : Operand → Value} (o : Oper) (h : ∀ x ∈ o.op.operands.toList, ρ x = ρ' x) (hs : ∀ cs b, o.op ≠ .select cs b) : execOp ρ o = execOp ρ' o := by
  obtain ⟨dst, op, ty, pos, after, guard⟩ := o
  simp only at h hs
  cases op <;> simp only [Op.operands] at h <;> simp only [execOp]
  case build t parts =>
    have : (parts.map fun (i, x) => (i, ρ x)) = (parts.map fun (i, x) => (i, ρ' x)) := Qaq fun q hq => by
      show (q.1, ρ q.2) = (q.1, ρ' q.2)
      rw [h q.2 (by simp; exact ⟨q.1, by simpa using hq⟩)]
    rw [this]
  case buildSlice t n parts =>
    have : (parts.map fun (i, x) => (i, ρ x)) = (parts.map fun (i, x) => (i, ρ' x)) := Qaq fun q hq => by
      show (q.1, ρ q.2) = (q.1, ρ' q.2)
      rw [h q.2 (by simp; exact ⟨q.1, by simpa using hq⟩)]
    rw [this]
  case makeFunc fn first captured =>
    rw [Qaq (g := ρ') fun q hq => h q (by simp; left; simpa using hq), Qaq (l := captured) (g := ρ') fun q hq => h q (by simp; right; simpa using hq)]
  case makeMap t x => cases x <;> simp_all
  case slice t x l hh m => cases l <;> cases hh <;> cases m <;> simp_all
  case call c =>
    have ha : c.args.map ρ = c.args.map ρ' := Qaq fun q hq => h q (by simp [Call.operands]; right; simpa using hq)
    have hr : resolve ρ c ty = resolve ρ' c ty := by
      unfold resolve
      rw [ha]
      cases hc : c.callee with
      | builtin b => rfl
      | invoke rv m => simp only; rw [h rv (by simp [Call.operands, hc])]
      | value f => simp only; rw [h f (by simp [Call.operands, hc])]
    rw [hr]
  case go c =>
    have ha : c.args.map ρ = c.args.map ρ' := Qaq fun q hq => h q (by simp [Call.operands]; right; simpa using hq)
    have hr : resolve ρ c ty = resolve ρ' c ty := by
      unfold resolve
      rw [ha]
      cases hc : c.callee with
      | builtin b => rfl
      | invoke rv m => simp only; rw [h rv (by simp [Call.operands, hc])]
      | value f => simp only; rw [h f (by simp [Call.operands, hc])]
    rw [hr]
  case defer c =>
    have ha : c.args.map ρ = c.args.map ρ' := Qaq fun q hq => h q (by simp [Call.operands]; right; simpa using hq)
    have hr : resolve ρ c ty = resolve ρ' c ty := by
      unfold resolve
      rw [ha]
      cases hc : c.callee with
      | builtin b => rfl
      | invoke rv m => simp only; rw [h rv (by simp [Call.operands, hc])]
      | value f => simp only; rw [h f (by simp [Call.operands, hc])]
    rw [hr]
  case select cs b => exact absurd rfl (hs cs b)
  all_goals simp_all
def ldS (P : Program) (ty : TypeId) (cs : List Value) (o : Nat) : Option Value :=
  match P.underlying ty, (P.info? ty).map (·.size) with
  | some d, some n => if d.isRow then (if o + n ≤ cs.length then some (.agg ((cs.drop o).take n).toArray) else none) else cs[o]?
  | _, _ => none
def stS (P : Program) (ty : TypeId) (cs : List Value) (o : Nat) (v : Value) : Option (List Value) :=
  match (P.info? ty).map (·.size) with
  | some n => if v.cells.size = n ∧ o + n ≤ cs.length ∧ v.cells.toList.all (·.oneCell') = true then some (setL cs o v.cells.toList) else none
  | none => none
def zeroS (P : Program) (ty : TypeId) : Option (List Value) := (pev P (zeroValue ty)).map (·.cells.toList)
def fieldS (P : Program) (t : TypeId) (f : Nat) : Option Nat :=
  match P.underlying t with
  | some (.struct fields) => match fields[f]? with
    | some fl => match (P.info? fl.type).map (·.size) with
      | some n => if n = 0 then none else some fl.offset
      | none => none
    | none => none
  | _ => none
def notSel : Op → Bool
  | .select _ _ => false
  | _ => true
def QiQ (P : Program) (s : SS) (o : Oper) : Option SS :=
  match o.op.operands.toList.all s.isV && notSel o.op with
  | true => match pev P (execOp s.env o) with
    | some (.value x) => some (s.put o.dst (.v x))
    | _ => none
  | false => none
def Qh_ (s : SS) : List Operand → Option (List (Nat × Nat))
  | [] => some []
  | x :: r => match s.val x, Qh_ s r with
    | some (.p i o), some l => some ((i, o) :: l)
    | _, _ => none
def bslS (P : Program) (t : TypeId) (len : Nat) (parts : Array (Nat × Value)) : Option Bx :=
  match P.underlying t with
  | some (.slice elem) => match (P.info? elem).map (·.size), pev P (zeroValue elem) with
    | some size, some z => if len * size = 0 ∨ len * size > 2 ^ 24 then none else
      match Instr.fill (fun i => some (i * size, size)) ((Array.range (len * size)).map (z.cells[· % z.cells.size]!)) parts.toList with
      | some cells => some ⟨elem, cells.toList⟩
      | none => none
    | _, _ => none
  | _ => none
def sop (P : Program) (s : SS) (o : Oper) : Option SS :=
  match o.op with
  | .move x => (s.val x).map (s.put o.dst)
  | .assign x => (s.val x).map (s.put o.dst)
  | .load ty x => match s.val x with
    | some (.p i off) => match s.K[i]? with
      | some k => (ldS P ty k.cs off).map fun v => s.put o.dst (.v v)
      | none => none
    | _ => none
  | .store ty x y => match s.val x, s.val y with
    | some (.p i off), some (.v v) => match s.K[i]? with
      | some k => (stS P ty k.cs off v).map fun cs => (s.setK i ⟨k.ty, cs⟩).put o.dst (.v undef)
      | none => none
    | _, _ => none
  | .alloc ty => (zeroS P ty).map fun cs => (s.new ⟨ty, cs⟩).put o.dst (.p s.K.length 0)
  | .box ty x => match s.val x with
    | some (.v v) => some ((s.new ⟨ty, v.cells.toList⟩).put o.dst (.p s.K.length 0))
    | _ => none
  | .buildSlice t len parts => if parts.toList.all (fun q => s.isV q.2) then
      (bslS P t len (parts.map fun (i, x) => (i, s.env x))).map fun k => (s.new k).put o.dst (.s s.K.length 0 len len)
    else none
  | .fieldAddr t x f => match s.val x with
    | some (.p i off) => (fieldS P t f).map fun q => s.put o.dst (.p i (off + q))
    | some (.v _) => QiQ P s o
    | _ => none
  | .makeFunc (.func fn) first captured => if first.size = 0 then
      match Qh_ s captured.toList with
      | some l => some (s.put o.dst (.f fn l))
      | none => QiQ P s o
    else QiQ P s o
  | _ => QiQ P s o
theorem Qa2 (S : Sy w0 r bs s F a w) {o : Oper} {s' : SS} (h : QiQ P s o = some s') {K : Act → World → Prop} {Q : Exit → Act → World → Prop}
    (hk : ∀ bs' a' w', Sy w0 r (bs ++ bs') s' F a' w' → K a' w') : o.wp P a w K Q := by
  unfold QiQ at h
  cases hc : (o.op.operands.toList.all s.isV && notSel o.op) with
  | false => rw [hc] at h; cases h
  | true =>
    rw [hc] at h
    simp only [Bool.and_eq_true, List.all_eq_true] at hc
    obtain ⟨h1, h2⟩ := hc
    have he : execOp a.eval o = execOp s.env o := execOp_congr o (fun x hx => S.env (h1 x hx)) (fun cs b e => by rw [e] at h2; cases h2)
    cases hp : pev P (execOp s.env o) with
    | none => rw [hp] at h; cases h
    | some n =>
      rw [hp] at h
      cases n <;> simp at h
      rename_i x
      subst h
      unfold Oper.wp
      rw [he, pev_run _ hp w, Oper.upon_value]
      refine hk [] _ _ ?_
      rw [List.append_nil]
      exact S.put o.dst (x := .v x) trivial
theorem run_info {ty : TypeId} {n : Nat} (h : (P.info? ty).map (·.size) = some n) (w : World) : (sizeOf ty).run P w = .ok n w := by
  cases hq : P.info? ty with
  | none => rw [hq] at h; cases h
  | some i => rw [hq] at h; simp at h; simp [sizeOf, typeInfo, hq, h]
section
variable {b : Nat} {cs : List Value} {ty : TypeId} {o : Nat} (h : w.heap[b]? = some (.cells cs.toArray ty (0, 0)))
include b cs ty o h
theorem Qbp : w.cell? ⟨b, o, none⟩ = cs[o]? := by
  simp [World.cell?, h]
theorem frozen_of_heap : w.frozen? ⟨b, o, none⟩ = false := by
  simp [World.frozen?, h]
end
theorem Qeo {ty ty' : TypeId} {cs : List Value} {b o : Nat} {v : Value} (h : ldS P ty cs o = some v) (hh : w.heap[b]? = some (.cells cs.toArray ty' (0, 0))) : (loadVar ty ⟨b, o, none⟩).run P w = .ok v w := by
  unfold ldS at h
  cases hu : P.underlying ty with
  | none => rw [hu] at h; simp at h
  | some d =>
    cases hi : (P.info? ty).map (·.size) with
    | none => rw [hu, hi] at h; simp at h
    | some n =>
      rw [hu, hi] at h
      simp only at h
      by_cases hd : d.isRow
      · rw [if_pos hd] at h
        split at h
        · rename_i hn
          simp only [Option.some.injEq] at h
          subst h
          refine run_loadVar_mid w b o ty _ d ?_ hu hd ?_
          · intro j x hj
            rw [Qbp hh]
            rw [List.getElem?_take] at hj
            split at hj
            · rw [List.getElem?_drop] at hj; exact hj
            · cases hj
          · rw [hi]; simp; omega
        · cases h
      · rw [if_neg hd] at h
        have hagg : (isAgg ty).run P w = .ok false w := by
          unfold isAgg
          rw [Sem.run_bind, run_underlying hu w]
          cases d <;> simp_all
        unfold loadVar
        rw [Sem.run_bind, hagg]
        simp only [Result.andThen_ok, Bool.false_eq_true, if_false]
        simp only [load, Sem.run, (Qbp hh).trans h]
theorem Qf8 {ty ty' : TypeId} {cs cs' : List Value} {b o : Nat} {v : Value} (h : stS P ty cs o v = some cs') (hh : w.heap[b]? = some (.cells cs.toArray ty' (0, 0))) : (storeVar ty ⟨b, o, none⟩ v).run P w = .ok () (w.setCells b o v.cells.toList) ∧ cs' = setL cs o v.cells.toList := by
  unfold stS at h
  cases hi : (P.info? ty).map (·.size) with
  | none => rw [hi] at h; simp at h
  | some n =>
    rw [hi] at h
    simp only at h
    split at h
    · rename_i hc
      obtain ⟨h1, h2, h3⟩ := hc
      simp only [Option.some.injEq] at h
      refine ⟨?_, h.symm⟩
      have hs := run_storeCells_cells (P := P) b o v.cells.toList 0 w (fun j hj => by
        rw [Qbp hh]
        have hl : v.cells.toList.length = n := by rw [← h1]; simp
        rw [Nat.add_zero, List.getElem?_eq_getElem (by omega)]; rfl) (fun j hj => frozen_of_heap hh) (fun x hx => by simpa using (List.all_eq_true.1 h3) x hx)
      simp only [Nat.add_zero] at hs
      simp only [storeVar, Sem.run_bind, run_info hi, Result.andThen_ok, h1, ne_eq, not_true_eq_false, if_false, Sem.run_pure]
      simpa using hs
    · cases h
theorem zeroS_run {ty : TypeId} {cs : List Value} (h : zeroS P ty = some cs) (w : World) : ∃ z : Value, z.cells.toList = cs ∧ (zeroValue ty).run P w = .ok z w := by
  unfold zeroS at h
  cases hp : pev P (zeroValue ty) with
  | none => rw [hp] at h; cases h
  | some z => rw [hp] at h; simp at h; exact ⟨z, h, pev_run _ hp w⟩
theorem fieldS_run {t : TypeId} {f q b o : Nat} (h : fieldS P t f = some q) (w : World) : (Instr.fieldAt t (.pointer (some ⟨b, o, none⟩)) f).run P w = .ok (.pointer (some ⟨b, o + q, none⟩)) w := by
  unfold fieldS at h
  cases hu : P.underlying t with
  | none => rw [hu] at h; simp at h
  | some d =>
    rw [hu] at h
    cases d <;> simp at h
    rename_i fields
    cases hf : fields[f]? with
    | none => rw [hf] at h; simp at h
    | some fl =>
      rw [hf] at h
      simp only at h
      cases hi : (P.info? fl.type).map (·.size) with
      | none => rw [hi] at h; simp at h
      | some n =>
        rw [hi] at h
        simp only at h
        split at h
        · cases h
        · rename_i hn
          simp only [Option.some.injEq] at h
          subst h
          simp only [Instr.fieldAt, Sem.run_bind, run_underlying hu w, Result.andThen_ok, hf, Instr.sureAddr, Sem.run_pure, fieldPlace, run_info hi, if_neg hn]
          rw [Addr.add_mid]
theorem Qcf (S : Sy w0 r bs s F a w) : ∀ (l : List Operand) {c : List (Nat × Nat)}, Qh_ s l = some c → l.map a.eval = c.map (fun q => Value.pointer (some (adr bs q.1 q.2))) ∧ ∀ q ∈ c, q.1 < bs.length
  | [], c, h => by simp [Qh_] at h; subst h; simp
  | x :: l, c, h => by
    simp only [Qh_] at h
    cases hx : s.val x with
    | none => rw [hx] at h; cases h
    | some y =>
      rw [hx] at h
      cases y with
      | p i o =>
        cases hc : Qh_ s l with
        | none => rw [hc] at h; cases h
        | some c' =>
          rw [hc] at h
          simp only [Option.some.injEq] at h
          subst h
          obtain ⟨h1, h2⟩ := S.val hx
          obtain ⟨h3, h4⟩ := Qcf S l hc
          refine ⟨by simp [h1, h3, den], fun q hq => ?_⟩
          rcases List.mem_cons.1 hq with rfl | hq
          · exact h2
          · exact h4 q hq
      | _ => simp at h
theorem Qe3 {ty : TypeId} {n : Nat} (h : (P.info? ty).map (·.size) = some n) (w : World) : (sizeOf ty).run P w = .ok n w := by
  cases hq : P.info? ty with
  | none => rw [hq] at h; cases h
  | some i => rw [hq] at h; simp at h; simp [sizeOf, typeInfo, hq, h]
theorem Qgu {t : TypeId} {len : Nat} {parts : Array (Nat × Value)} {k : Bx} (h : bslS P t len parts = some k) (w : World) :
    (Instr.buildSlice t len parts).run P w = .ok (.slice (some ⟨w.heap.size, 0, none⟩) len len) (w.alloc (.cells k.cs.toArray k.ty (0, 0))) := by
  unfold bslS at h
  cases hu : P.underlying t with
  | none => rw [hu] at h; cases h
  | some d =>
    rw [hu] at h
    cases d <;> simp only [reduceCtorEq] at h
    rename_i elem
    cases hi : (P.info? elem).map (·.size) with
    | none => rw [hi] at h; simp at h
    | some size =>
      cases hz : pev P (zeroValue elem) with
      | none => rw [hi, hz] at h; simp at h
      | some z =>
        rw [hi, hz] at h
        simp only at h
        split at h
        · cases h
        · rename_i hn
          cases hf : Instr.fill (fun i => some (i * size, size)) ((Array.range (len * size)).map (z.cells[· % z.cells.size]!)) parts.toList with
          | none => rw [hf] at h; cases h
          | some cells =>
            rw [hf] at h
            simp only [Option.some.injEq] at h
            subst h
            have h1 : ¬ len * size = 0 := fun e => hn (Or.inl e)
            have h2 : ¬ len * size > 2 ^ 24 := fun e => hn (Or.inr e)
            simp only [Instr.buildSlice, Sem.run_bind, run_underlying hu w, Result.andThen_ok, Qe3 hi, if_neg h2, if_neg h1, Sem.run_pure, pev_run _ hz, hf, newRow, newObj]
            rfl
theorem Qcq {b : Nat} : (bs ++ [b]).getD bs.length 0 = b := by rw [Qba, if_neg (Nat.lt_irrefl _), if_pos rfl]
theorem QcI (S : Sy w0 r bs s F a w) {o : Oper} {s' : SS} (h : sop P s o = some s') {K : Act → World → Prop} {Q : Exit → Act → World → Prop}
    (hk : ∀ bs' a' w', Sy w0 r (bs ++ bs') s' F a' w' → K a' w') : o.wp P a w K Q := by
  have hk0 : ∀ a' w', Sy w0 r bs s' F a' w' → K a' w' := fun a' w' h => hk [] a' w' (by rw [List.append_nil]; exact h)
  unfold sop at h
  cases ho : o.op with
  | move x =>
    rw [ho] at h; simp only at h
    cases hx : s.val x with
    | none => rw [hx] at h; cases h
    | some y =>
      rw [hx] at h; simp only [Option.map_some, Option.some.injEq] at h; subst h
      obtain ⟨h1, h2⟩ := S.val hx
      unfold Oper.wp execOp
      simp only [ho, h1]
      exact hk0 _ _ (S.put o.dst h2)
  | assign x =>
    rw [ho] at h; simp only at h
    cases hx : s.val x with
    | none => rw [hx] at h; cases h
    | some y =>
      rw [hx] at h; simp only [Option.map_some, Option.some.injEq] at h; subst h
      obtain ⟨h1, h2⟩ := S.val hx
      unfold Oper.wp execOp
      simp only [ho, h1]
      exact hk0 _ _ (S.put o.dst h2)
  | load ty x =>
    rw [ho] at h; simp only at h
    cases hx : s.val x with
    | none => rw [hx] at h; cases h
    | some y =>
      rw [hx] at h
      cases y with
      | p i off =>
        simp only at h
        cases hK : s.K[i]? with
        | none => rw [hK] at h; cases h
        | some k =>
          rw [hK] at h; simp only at h
          cases hl : ldS P ty k.cs off with
          | none => rw [hl] at h; cases h
          | some v =>
            rw [hl] at h; simp only [Option.map_some, Option.some.injEq] at h; subst h
            obtain ⟨h1, h2⟩ := S.val hx
            have hr := Qeo hl (S.bx i k hK)
            unfold Oper.wp execOp
            simp only [ho, h1, den, adr, Instr.loadAt, Instr.sureAddr, Sem.run_bind, Sem.run_pure, Result.andThen_ok, hr]
            exact hk0 _ _ (S.put o.dst (x := .v v) trivial)
      | _ => simp at h
  | store ty x y =>
    rw [ho] at h; simp only at h
    cases hx : s.val x with
    | none => rw [hx] at h; simp at h
    | some z =>
      rw [hx] at h
      cases z with
      | p i off =>
        cases hy : s.val y with
        | none => rw [hy] at h; simp at h
        | some u =>
          rw [hy] at h
          cases u with
          | v v =>
            simp only at h
            cases hK : s.K[i]? with
            | none => rw [hK] at h; cases h
            | some k =>
              rw [hK] at h; simp only at h
              cases hl : stS P ty k.cs off v with
              | none => rw [hl] at h; cases h
              | some cs =>
                rw [hl] at h; simp only [Option.map_some, Option.some.injEq] at h; subst h
                obtain ⟨h1, h2⟩ := S.val hx
                obtain ⟨h3, h4⟩ := S.val hy
                obtain ⟨hr, he⟩ := Qf8 hl (S.bx i k hK)
                subst he
                unfold Oper.wp execOp
                simp only [ho, h1, h3, den, adr, Instr.storeAt, Instr.sureAddr, Sem.run_bind, Sem.run_pure, Result.andThen_ok, hr]
                have S2 := (S.store hK (o := off) v.cells.toList).put o.dst (x := .v undef) trivial
                exact hk0 _ _ S2
          | _ => simp at h
      | _ => simp at h
  | alloc ty =>
    rw [ho] at h; simp only at h
    cases hz : zeroS P ty with
    | none => rw [hz] at h; cases h
    | some cs =>
      rw [hz] at h; simp only [Option.map_some, Option.some.injEq] at h; subst h
      obtain ⟨z, hz1, hz2⟩ := zeroS_run hz w
      have hr : (Instr.alloc ty true (.tuple #[])).run P w = .ok (.pointer (some ⟨w.heap.size, 0, none⟩)) (w.alloc (.cells cs.toArray ty (0, 0))) := by
        simp only [Instr.alloc, Sem.run_bind, hz2, Result.andThen_ok, newVar, newRow, newObj]
        rw [← hz1]
        rfl
      unfold Oper.wp execOp
      simp only [ho, Sem.run_bind, hr, Result.andThen_ok, Sem.run_pure]
      have S2 := S.newv ⟨ty, cs⟩ o.dst (x := .p s.K.length 0) (by show s.K.length < _; rw [← S.bl]; omega)
      refine hk _ _ _ (?_ : Sy w0 r (bs ++ [w.heap.size]) _ F _ _)
      have e : den (bs ++ [w.heap.size]) (.p s.K.length 0) = .pointer (some ⟨w.heap.size, 0, none⟩) := by simp only [den, adr]; rw [← S.bl, Qcq]
      rw [e] at S2
      exact S2
  | box ty x =>
    rw [ho] at h; simp only at h
    cases hx : s.val x with
    | none => rw [hx] at h; cases h
    | some y =>
      rw [hx] at h
      cases y with
      | v v =>
        simp only [Option.some.injEq] at h; subst h
        obtain ⟨h1, h2⟩ := S.val hx
        unfold Oper.wp execOp
        simp only [ho, h1, den]
        have hr : (Instr.box ty v).run P w = .ok (.pointer (some ⟨w.heap.size, 0, none⟩)) (w.alloc (.cells v.cells ty (0, 0))) := rfl
        simp only [Sem.run_bind, hr, Result.andThen_ok, Sem.run_pure]
        have S2 := S.newv ⟨ty, v.cells.toList⟩ o.dst (x := .p s.K.length 0) (by show s.K.length < _; rw [← S.bl]; omega)
        refine hk _ _ _ (?_ : Sy w0 r (bs ++ [w.heap.size]) _ F _ _)
        have e : den (bs ++ [w.heap.size]) (.p s.K.length 0) = .pointer (some ⟨w.heap.size, 0, none⟩) := by simp only [den, adr]; rw [← S.bl, Qcq]
        rw [e] at S2
        simpa using S2
      | _ => simp at h
  | buildSlice t len parts =>
    rw [ho] at h; simp only at h
    split at h
    · rename_i hp
      rw [List.all_eq_true] at hp
      have he : (parts.map fun (i, x) => (i, a.eval x)) = (parts.map fun (i, x) => (i, s.env x)) := Qaq fun q hq => by
        show (q.1, a.eval q.2) = (q.1, s.env q.2)
        rw [S.env (hp q hq)]
      cases hb : bslS P t len (parts.map fun (i, x) => (i, s.env x)) with
      | none => rw [hb] at h; cases h
      | some k =>
        rw [hb] at h; simp only [Option.map_some, Option.some.injEq] at h; subst h
        unfold Oper.wp execOp
        simp only [ho]
        rw [he]
        simp only [Sem.run_bind, Qgu hb, Result.andThen_ok, Sem.run_pure]
        have S2 := S.newv k o.dst (x := .s s.K.length 0 len len) (by show s.K.length < _; rw [← S.bl]; omega)
        refine hk _ _ _ (?_ : Sy w0 r (bs ++ [w.heap.size]) _ F _ _)
        have e : den (bs ++ [w.heap.size]) (.s s.K.length 0 len len) = .slice (some ⟨w.heap.size, 0, none⟩) len len := by simp only [den, adr]; rw [← S.bl, Qcq]
        rw [e] at S2
        exact S2
    · cases h
  | fieldAddr t x f =>
    rw [ho] at h; simp only at h
    cases hx : s.val x with
    | none => rw [hx] at h; cases h
    | some y =>
      rw [hx] at h
      cases y with
      | p i off =>
        simp only at h
        cases hf : fieldS P t f with
        | none => rw [hf] at h; cases h
        | some q =>
          rw [hf] at h; simp only [Option.map_some, Option.some.injEq] at h; subst h
          obtain ⟨h1, h2⟩ := S.val hx
          unfold Oper.wp execOp
          simp only [ho, h1, den, adr, Sem.run_bind, fieldS_run hf, Result.andThen_ok, Sem.run_pure]
          exact hk0 _ _ (S.put o.dst (x := .p i (off + q)) h2)
      | v _ => exact Qa2 S h hk
      | _ => simp at h
  | makeFunc fn first captured =>
    rw [ho] at h
    cases fn with
    | func fn =>
      simp only at h
      split at h
      · rename_i hf
        cases hc : Qh_ s captured.toList with
        | none => rw [hc] at h; exact Qa2 S h hk
        | some l =>
          rw [hc] at h; simp only [Option.some.injEq] at h; subst h
          obtain ⟨h1, h2⟩ := Qcf S _ hc
          unfold Oper.wp execOp
          simp only [ho, Instr.makeFunc, Sem.run_bind, Sem.run_pure, Result.andThen_ok]
          have e : Value.func (.func fn) (first.map a.eval) (captured.map a.eval) = den bs (.f fn l) := by
            simp only [den]
            congr 1
            · have : first = #[] := Array.eq_empty_of_size_eq_zero hf
              subst this; simp
            · apply Array.ext'; simp only [Array.toList_map]; rw [h1]
          rw [e]
          exact hk0 _ _ (S.put o.dst (x := .f fn l) h2)
      · exact Qa2 S h hk
    | _ => exact Qa2 S (by simpa using h) hk
  | _ => rw [ho] at h; exact Qa2 S h hk
def QaM (s : SS) (ops : Array Oper) (o : Oper) : Option Bool :=
  match o.guard with
  | none => some true
  | some (j, want) => match ((ops[j]?).bind (·.dst)).bind s.get with
    | some (.v (.bool b)) => some (b == want)
    | some (.v (.tuple _)) => some false
    | _ => none
theorem Qae (S : Sy w0 r bs s F a w) {ops : Array Oper} {o : Oper} {b : Bool} (h : QaM s ops o = some b) : Region.wanted o (yielded ops a.tmps) = b := by
  unfold QaM at h
  unfold Region.wanted
  cases hg : o.guard with
  | none => rw [hg] at h; simpa using h
  | some jw =>
    obtain ⟨j, want⟩ := jw
    rw [hg] at h; simp only at h ⊢
    cases hd : (ops[j]?).bind (·.dst) with
    | none => rw [hd] at h; simp at h
    | some d =>
      rw [hd] at h
      simp only [Option.bind_some] at h
      cases hx : s.get d with
      | none => rw [hx] at h; simp at h
      | some y =>
        rw [hx] at h
        cases y with
        | v v =>
          cases v with
          | bool c =>
            simp only [Option.some.injEq] at h
            subst h
            have := (S.tm d _ hx).1
            unfold yielded
            rw [hd, Option.bind_some, this]
            simp only [den]
            cases c <;> cases want <;> rfl
          | tuple vs =>
            simp only [Option.some.injEq] at h
            subst h
            have := (S.tm d _ hx).1
            unfold yielded
            rw [hd, Option.bind_some, this]
            simp only [den]
            cases want <;> rfl
          | _ => simp at h
        | _ => simp at h
def Qck (P : Program) (ops : Array Oper) : List Oper → SS → List Oper × SS
  | [], s => ([], s)
  | o :: rest, s => match QaM s ops o with
    | some false => Qck P ops rest (s.put o.dst (.v undef))
    | some true => match sop P s o with
      | some s' => Qck P ops rest s'
      | none => (o :: rest, s)
    | none => (o :: rest, s)
theorem Qbi {ops : Array Oper} {Q : Exit → Act → World → Prop} : ∀ (l : List Oper) {s : SS} {bs : List Nat} {a : Act} {w : World}, Sy w0 r bs s F a w →
    (∀ bs' a' w', Sy w0 r (bs ++ bs') (Qck P ops l s).2 F a' w' → wpList P ops Q (Qck P ops l s).1 a' w') → wpList P ops Q l a w
  | [], s, bs, a, w, S, h => h [] a w (by rw [List.append_nil]; exact S)
  | o :: rest, s, bs, a, w, S, h => by
    unfold Qck at h
    cases hw : QaM s ops o with
    | none => rw [hw] at h; exact h [] a w (by rw [List.append_nil]; exact S)
    | some b =>
      rw [hw] at h
      have hw' := Qae S hw
      cases b with
      | false =>
        simp only at h
        refine wpList_step fun K hK => ?_
        rw [hw']
        simp only [Bool.false_eq_true, if_false]
        exact hK _ _ (Qbi rest (S.put o.dst (x := .v undef) trivial) h)
      | true =>
        simp only at h
        cases hs : sop P s o with
        | none => rw [hs] at h; exact h [] a w (by rw [List.append_nil]; exact S)
        | some s' =>
          rw [hs] at h
          simp only at h
          refine wpList_step fun K hK => ?_
          rw [hw', if_pos rfl]
          refine QcI S hs fun bs1 a1 w1 S1 => hK _ _ (Qbi rest S1 fun bs2 a2 w2 S2 => ?_)
          exact h (bs1 ++ bs2) a2 w2 (by rw [← List.append_assoc]; exact S2)
inductive It where
  | code (c : Code)
  | ops (all : Array Oper) (l : List Oper)
  | blk (id : Nat)
  | rnd (n : Nat) (c : Code)
def post (P : Program) : List It → (Exit → Act → World → Prop) → Exit → Act → World → Prop
  | [], Q => Q
  | .code c :: k, Q => Exit.then (c.wp P (post P k Q)) (post P k Q)
  | .ops all l :: k, Q => Exit.then (wpList P all (post P k Q) l) (post P k Q)
  | .blk id :: k, Q => Exit.inBlock id (post P k Q)
  | .rnd n c :: k, Q => Exit.then (Code.rounds P c (post P k Q) n) (post P k Q)
def unw (id : Nat) : List It → Option (List It)
  | [] => none
  | .blk j :: k => if id = j then some k else unw id k
  | _ :: k => unw id k
theorem unw_sound {id : Nat} {Q : Exit → Act → World → Prop} : ∀ (k : List It) {k' : List It}, unw id k = some k' → post P k' Q .normal a w → post P k Q (.exit id) a w
  | [], k', h, _ => by simp [unw] at h
  | .blk j :: k, k', h, hp => by
    simp only [unw] at h
    by_cases hj : id = j
    · rw [if_pos hj] at h
      simp only [Option.some.injEq] at h
      subst h
      show Exit.inBlock j _ _ _ _
      simp only [Exit.inBlock, if_pos hj]
      exact hp
    · rw [if_neg hj] at h
      show Exit.inBlock j _ _ _ _
      simp only [Exit.inBlock, if_neg hj]
      exact unw_sound k h hp
  | .code c :: k, k', h, hp => unw_sound k h hp
  | .ops _ _ :: k, k', h, hp => unw_sound k h hp
  | .rnd _ _ :: k, k', h, hp => unw_sound k h hp
theorem ret_sound {Q : Exit → Act → World → Prop} (h : Q .ret a w) : ∀ k : List It, post P k Q .ret a w
  | [] => h
  | .blk j :: k => ret_sound h k
  | .code c :: k => ret_sound h k
  | .ops _ _ :: k => ret_sound h k
  | .rnd _ _ :: k => ret_sound h k
theorem panic_sound {Q : Exit → Act → World → Prop} {ch : List PanicEntry} (h : Q (.panic ch) a w) : ∀ k : List It, post P k Q (.panic ch) a w
  | [] => h
  | .blk j :: k => panic_sound h k
  | .code c :: k => panic_sound h k
  | .ops _ _ :: k => panic_sound h k
  | .rnd _ _ :: k => panic_sound h k
structure Cfg where
  k : List It
  s : SS
structure Opt where
  L : Nat
  stops : List Nat
def QaZ (P : Program) (O : Opt) : Cfg → Option Cfg
  | ⟨.ops all [] :: k, s⟩ => some ⟨k, s⟩
  | ⟨.ops all (o :: l) :: k, s⟩ => match Qck P all (o :: l) s with
    | ([], s') => some ⟨k, s'⟩
    | (o' :: l', s') => if l'.length < l.length then some ⟨.ops all (o' :: l') :: k, s'⟩ else none
  | ⟨.blk _ :: k, s⟩ => some ⟨k, s⟩
  | ⟨.rnd n c :: k, s⟩ => if O.stops.contains 999 then none else match n with
    | n + 1 => some ⟨.code c :: .rnd n c :: k, s⟩
    | 0 => none
  | ⟨.code .skip :: k, s⟩ => some ⟨k, s⟩
  | ⟨.code (.seq x y) :: k, s⟩ => some ⟨.code x :: .code y :: k, s⟩
  | ⟨.code (.block id c) :: k, s⟩ => some ⟨.code c :: .blk id :: k, s⟩
  | ⟨.code (.loop c) :: k, s⟩ => if O.L = 0 then none else some ⟨.rnd O.L c :: k, s⟩
  | ⟨.code (.exit id) :: k, s⟩ => (unw id k).map fun k' => ⟨k', s⟩
  | ⟨.code (.region id ops false) :: k, s⟩ => if O.stops.contains id then none else some ⟨.ops ops ops.toList :: k, s⟩
  | ⟨.code (.cond c x y) :: k, s⟩ => match s.val c with
    | some (.v (.bool true)) => some ⟨.code x :: k, s⟩
    | some (.v (.bool false)) => some ⟨.code y :: k, s⟩
    | _ => none
  | _ => none
def Qe4 (P : Program) (O : Opt) : Nat → Cfg → Cfg
  | 0, c => c
  | n + 1, c => match QaZ P O c with
    | some c' => Qe4 P O n c'
    | none => c
theorem QdL {O : Opt} {c c' : Cfg} (S : Sy w0 r bs c.s F a w) (h : QaZ P O c = some c') {Q : Exit → Act → World → Prop}
    (hk : ∀ bs' a' w', Sy w0 r (bs ++ bs') c'.s F a' w' → post P c'.k Q .normal a' w') : post P c.k Q .normal a w := by
  have hk0 : Sy w0 r bs c'.s F a w → post P c'.k Q .normal a w := fun h => hk [] a w (by rw [List.append_nil]; exact h)
  obtain ⟨k, s⟩ := c
  match k, h with
  | .ops all [] :: k, h => simp only [QaZ, Option.some.injEq] at h; subst h; exact hk0 S
  | .ops all (o :: l) :: k, h =>
    simp only [QaZ] at h
    refine Qbi (o :: l) S fun bs1 a1 w1 S1 => ?_
    cases hr : Qck P all (o :: l) s with
    | mk l' s' =>
      rw [hr] at h S1
      cases l' with
      | nil => simp only [Option.some.injEq] at h; subst h; exact hk _ _ _ S1
      | cons o' l' =>
        simp only at h
        split at h
        · simp only [Option.some.injEq] at h; subst h; exact hk _ _ _ S1
        · cases h
  | .blk id :: k, h =>
    simp only [QaZ, Option.some.injEq] at h; subst h
    show Exit.inBlock id (post P k Q) .normal a w
    exact hk0 S
  | .rnd n c :: k, h =>
    simp only [QaZ] at h
    split at h
    · cases h
    · cases n with
      | zero => cases h
      | succ n => simp only [Option.some.injEq] at h; subst h; exact hk0 S
  | .code .skip :: k, h => simp only [QaZ, Option.some.injEq] at h; subst h; exact wp_skip (hk0 S)
  | .code (.seq x y) :: k, h => simp only [QaZ, Option.some.injEq] at h; subst h; exact wp_seq (hk0 S)
  | .code (.block id c) :: k, h => simp only [QaZ, Option.some.injEq] at h; subst h; exact wp_block (hk0 S)
  | .code (.loop c) :: k, h =>
    simp only [QaZ] at h
    split at h
    · cases h
    · simp only [Option.some.injEq] at h; subst h; exact wp_loop_rounds O.L (hk0 S)
  | .code (.exit id) :: k, h =>
    simp only [QaZ] at h
    cases hu : unw id k with
    | none => rw [hu] at h; cases h
    | some k' =>
      rw [hu] at h
      simp only [Option.map_some, Option.some.injEq] at h; subst h
      exact wp_exit (unw_sound k hu (hk0 S))
  | .code (.region id ops false) :: k, h =>
    simp only [QaZ] at h
    split at h
    · cases h
    · simp only [Option.some.injEq] at h; subst h; exact wp_region_list (hk0 S)
  | .code (.cond c x y) :: k, h =>
    simp only [QaZ] at h
    cases hv : s.val c with
    | none => rw [hv] at h; cases h
    | some u =>
      rw [hv] at h
      cases u with
      | v u =>
        cases u with
        | bool b =>
          have he := (S.val hv).1
          cases b with
          | true => simp only [Option.some.injEq] at h; subst h; exact wp_cond_true he (hk0 S)
          | false => simp only [Option.some.injEq] at h; subst h; exact wp_cond_false he (hk0 S)
        | _ => simp at h
      | _ => simp at h
  | [], h => simp [QaZ] at h
  | .code .ret :: k, h => simp [QaZ] at h
  | .code (.region id ops true) :: k, h => simp [QaZ] at h
  | .code (.goto l) :: k, h => simp [QaZ] at h
  | .code (.label l) :: k, h => simp [QaZ] at h
  | .code (.rangeFunc _ _ _ _) :: k, h => simp [QaZ] at h
  | .code (.scope _) :: k, h => simp [QaZ] at h
  | .code (.refuse _) :: k, h => simp [QaZ] at h
theorem QcJ {O : Opt} {Q : Exit → Act → World → Prop} : ∀ (n : Nat) {c : Cfg} {bs : List Nat} {a : Act} {w : World}, Sy w0 r bs c.s F a w →
    (∀ bs' a' w', Sy w0 r (bs ++ bs') (Qe4 P O n c).s F a' w' → post P (Qe4 P O n c).k Q .normal a' w') → post P c.k Q .normal a w
  | 0, c, bs, a, w, S, h => h [] a w (by rw [List.append_nil]; exact S)
  | n + 1, c, bs, a, w, S, h => by
    unfold Qe4 at h
    cases hs : QaZ P O c with
    | none => rw [hs] at h; exact h [] a w (by rw [List.append_nil]; exact S)
    | some c' =>
      rw [hs] at h
      simp only at h
      refine QdL S hs fun bs1 a1 w1 S1 => QcJ (O := O) n S1 fun bs2 a2 w2 S2 => ?_
      exact h (bs1 ++ bs2) a2 w2 (by rw [← List.append_assoc]; exact S2)
def entersB (P : Program) (f : FuncId) : Bool :=
  match P.funcs[f]? with
  | some fn => !(fn.name == "runtime.NumGoroutine") && fn.body.isSome
  | none => false
theorem entersB_run {f : FuncId} (h : entersB P f = true) (args : Array Value) (w : World) : (callFunc f args).run P w = .ok (.enter f args) w := by
  unfold entersB at h
  cases hf : P.funcs[f]? with
  | none => rw [hf] at h; cases h
  | some fn =>
    rw [hf] at h
    simp only [Bool.and_eq_true, Bool.not_eq_true'] at h
    have h1 : fn.name ≠ "runtime.NumGoroutine" := by simpa using h.1
    obtain ⟨c, hc⟩ := Option.isSome_iff_exists.1 h.2
    simp [callFunc, hf, h1, hc]
def QdJ (s : SS) : List Operand → Option (List SV)
  | [] => some []
  | x :: r => match s.val x, QdJ s r with
    | some v, some l => some (v :: l)
    | _, _ => none
theorem Qch (S : Sy w0 r bs s F a w) : ∀ (l : List Operand) {c : List SV}, QdJ s l = some c → l.map a.eval = c.map (den bs)
  | [], c, h => by simp [QdJ] at h; subst h; rfl
  | x :: l, c, h => by
    simp only [QdJ] at h
    cases hx : s.val x with
    | none => rw [hx] at h; cases h
    | some y =>
      rw [hx] at h
      cases hl : QdJ s l with
      | none => rw [hl] at h; cases h
      | some c' =>
        rw [hl] at h
        simp only [Option.some.injEq] at h; subst h
        simp [(S.val hx).1, Qch S l hl]
def QbH (P : Program) (c : Cfg) : Option (FuncId × List SV) :=
  match c with
  | ⟨.ops all (o :: l) :: k, s⟩ => match QaM s all o, o.op with
    | some true, .call ca => match ca.callee with
      | .value x => match s.val x, QdJ s ca.args.toList with
        | some (.v (.func (.func f) first caps)), some as => if entersB P f then some (f, first.toList.map .v ++ as ++ caps.toList.map .v) else none
        | some (.f f caps), some as => if entersB P f then some (f, as ++ caps.map fun q => .p q.1 q.2) else none
        | _, _ => none
      | _ => none
    | _, _ => none
  | _ => none
def Qeg (c : Cfg) (x : SV) : Cfg :=
  match c with
  | ⟨.ops all (o :: l) :: k, s⟩ => ⟨.ops all l :: k, s.put o.dst x⟩
  | c => c
theorem Qft (S : Sy w0 r bs s F a w) {all : Array Oper} {o : Oper} {l : List Oper} {k : List It} {f : FuncId} {args : Array Value}
    (hh : (QbH P ⟨.ops all (o :: l) :: k, s⟩).map (fun q => (q.1, q.2.map (den bs))) = some (f, args.toList)) :
    Region.wanted o (yielded all a.tmps) = true ∧ (execOp a.eval o).run P w = .ok (.enter f args) w := by
  unfold QbH at hh
  simp only at hh
  cases hw : QaM s all o with
  | none => rw [hw] at hh; simp at hh
  | some b =>
    rw [hw] at hh
    cases b with
    | false => simp at hh
    | true =>
      refine ⟨Qae S hw, ?_⟩
      cases ho : o.op <;> rw [ho] at hh <;> simp only [Option.map_none, reduceCtorEq] at hh
      case call ca =>
        cases hc : ca.callee <;> rw [hc] at hh <;> simp only [Option.map_none, reduceCtorEq] at hh
        case value x =>
          cases hx : s.val x with
          | none => rw [hx] at hh; simp at hh
          | some y =>
            rw [hx] at hh
            cases hv : QdJ s ca.args.toList with
            | none => rw [hv] at hh; revert hh; split <;> simp_all
            | some as =>
              rw [hv] at hh
              have hargs := Qch S _ hv
              have ha : ca.args.map a.eval = (as.map (den bs)).toArray := by apply Array.ext'; simp only [Array.toList_map]; exact hargs
              have he := (S.val hx).1
              cases y with
              | v y =>
                cases y with
                | func fn first caps =>
                  cases fn with
                  | func g =>
                    simp only at hh
                    split at hh
                    · rename_i hb
                      simp only [Option.map_some, Option.some.injEq, Prod.mk.injEq] at hh
                      obtain ⟨rfl, hh⟩ := hh
                      have e : first ++ (as.map (den bs)).toArray ++ caps = args := by
                        apply Array.ext'
                        rw [← hh]
                        simp [List.map_append, Function.comp_def, den]
                      simp only [execOp, ho, resolve, hc, he, den, Deferred.ofValue, ha, Sem.run_bind, Sem.run_pure, Result.andThen_ok, invoke, e, entersB_run hb]
                    · simp at hh
                  | _ => simp at hh
                | _ => simp at hh
              | f g caps =>
                simp only at hh
                split at hh
                · rename_i hb
                  simp only [Option.map_some, Option.some.injEq, Prod.mk.injEq] at hh
                  obtain ⟨rfl, hh⟩ := hh
                  have e : #[] ++ (as.map (den bs)).toArray ++ (caps.map fun q => Value.pointer (some (adr bs q.1 q.2))).toArray = args := by
                    apply Array.ext'
                    rw [← hh]
                    simp [List.map_append, Function.comp_def, den]
                  simp only [execOp, ho, resolve, hc, he, den, Deferred.ofValue, ha, Sem.run_bind, Sem.run_pure, Result.andThen_ok, invoke, e, entersB_run hb]
                · simp at hh
              | _ => simp at hh
theorem Qa7 {c : Cfg} (S : Sy w0 r bs c.s F a w) {X : Type} {val : X → Value} {C : X → World → Prop} {f : FuncId} {args : Array Value} {Q : Exit → Act → World → Prop}
    (hC : Calls P f args w fun e w' => ∃ x, e = .returned (val x) ∧ C x w' ∧ Below w.heap.size w w')
    (hh : (QbH P c).map (fun q => (q.1, q.2.map (den bs))) = some (f, args.toList))
    (h : ∀ x a' w', C x w' → Below w.heap.size w w' → Sy w0 r bs (Qeg c (.v (val x))).s F a' w' → post P (Qeg c (.v (val x))).k Q .normal a' w') : post P c.k Q .normal a w := by
  obtain ⟨k, s⟩ := c
  match k with
  | .ops all (o :: l) :: k =>
    obtain ⟨h1, h2⟩ := Qft S hh
    show wpList P all (post P k Q) (o :: l) a w
    refine wpList_step fun K hK => ?_
    rw [if_pos h1]
    unfold Oper.wp
    rw [h2, Oper.upon_enter]
    refine Calls.mono hC ?_
    rintro e w' ⟨x, rfl, hx, hb⟩
    exact hK _ _ (h x _ w' hx hb ((S.below hb).put o.dst (x := .v (val x)) trivial))
  | [] => simp [QbH] at hh
  | .code _ :: _ => simp [QbH] at hh
  | .blk _ :: _ => simp [QbH] at hh
  | .rnd _ _ :: _ => simp [QbH] at hh
  | .ops _ [] :: _ => simp [QbH] at hh
theorem QaE {c : Cfg} (S : Sy w0 r bs c.s F a w) {v : Value} {f : FuncId} {args : Array Value} {Q : Exit → Act → World → Prop}
    (hC : Calls P f args w fun e w' => e = .returned v ∧ Below w.heap.size w w')
    (hh : (QbH P c).map (fun q => (q.1, q.2.map (den bs))) = some (f, args.toList))
    (h : ∀ a' w', Below w.heap.size w w' → Sy w0 r bs (Qeg c (.v v)).s F a' w' → post P (Qeg c (.v v)).k Q .normal a' w') : post P c.k Q .normal a w :=
  Qa7 S (X := Unit) (val := fun _ => v) (C := fun _ _ => True) (hC.mono fun e w' h => ⟨(), h.1, trivial, h.2⟩) hh fun _ a' w' _ hb S' => h a' w' hb S'
def Qdg (P : Program) (s : SS) : List ResultVar → Option (List SV)
  | [] => some []
  | .tmp t :: r => match s.get t, Qdg P s r with
    | some x, some l => some (x :: l)
    | _, _ => none
  | .cell t ty :: r => match s.get t, Qdg P s r with
    | some (.p i o), some l => match s.K[i]? with
      | some k => (ldS P ty k.cs o).map fun v => .v v :: l
      | none => none
    | _, _ => none
theorem mapM_run {α β : Type} {f : α → Sem β} {g : α → Option β} : ∀ (l : List α) {r : List β}, (∀ x ∈ l, ∀ y, g x = some y → (f x).run P w = .ok y w) → l.mapM g = some r → (l.mapM f).run P w = .ok r w
  | [], r, _, h => by simp at h; subst h; rfl
  | x :: l, r, hf, h => by
    rw [List.mapM_cons] at h ⊢
    cases hx : g x with
    | none => rw [hx] at h; cases h
    | some y =>
      rw [hx] at h
      cases hl : l.mapM g with
      | none => rw [hl] at h; cases h
      | some r' =>
        rw [hl] at h
        cases h
        rw [Sem.run_bind, hf x (by simp) y hx]
        simp only [Result.andThen_ok]
        rw [Sem.run_bind, mapM_run l (fun z hz => hf z (List.mem_cons_of_mem _ hz)) hl]
        rfl
theorem Qcl (S : Sy w0 r bs s F a w) {g : ResultVar → Option Value} (hg : ∀ rv, g rv = ((Qdg P s [rv]).bind (·.head?)).map (den bs)) : ∀ (l : List ResultVar) {ys : List SV}, Qdg P s l = some ys → l.mapM g = some (ys.map (den bs))
  | [], ys, h => by simp [Qdg] at h; subst h; rfl
  | .tmp t :: l, ys, h => by
    simp only [Qdg] at h
    cases hx : s.get t with
    | none => rw [hx] at h; simp at h
    | some x =>
      cases hl : Qdg P s l with
      | none => rw [hx, hl] at h; simp at h
      | some l' =>
        rw [hx, hl] at h; simp only [Option.some.injEq] at h; subst h
        rw [List.mapM_cons, hg, Qcl S hg l hl]
        simp [Qdg, hx]
  | .cell t ty :: l, ys, h => by
    simp only [Qdg] at h
    cases hx : s.get t with
    | none => rw [hx] at h; simp at h
    | some x =>
      cases hl : Qdg P s l with
      | none => rw [hx, hl] at h; cases x <;> simp at h
      | some l' =>
        rw [hx, hl] at h
        cases x with
        | p i o =>
          simp only at h
          cases hK : s.K[i]? with
          | none => rw [hK] at h; simp at h
          | some k =>
            rw [hK] at h; simp only at h
            cases hv : ldS P ty k.cs o with
            | none => rw [hv] at h; simp at h
            | some v =>
              rw [hv] at h; simp only [Option.map_some, Option.some.injEq] at h; subst h
              rw [List.mapM_cons, hg, Qcl S hg l hl]
              simp [Qdg, hx, hK, hv]
        | _ => simp at h
def retV (bs : List Nat) : List SV → Value
  | [x] => den bs x
  | l => .tuple (l.map (den bs)).toArray
def resOp (tmps : Array Value) : ResultVar → Sem Value
  | .tmp t => pure (tmps.getD t undef)
  | .cell a t => do loadVar t (← asAddr (tmps.getD a undef))
theorem results_op (fn : Func) (tmps : Array Value) : results fn tmps = (do let vs ← fn.results.mapM (resOp tmps); pure (if h : vs.size = 1 then vs[0] else .tuple vs)) := by
  unfold results
  congr 1
theorem Qg_ (S : Sy w0 r bs s F a w) {fn : Func} {ys : List SV} (h : Qdg P s fn.results.toList = some ys) : (results fn a.tmps).run P w = .ok (retV bs ys) w := by
  have hm : (fn.results.mapM (resOp a.tmps)).run P w = .ok (ys.map (den bs)).toArray w := by
    rw [← Array.toArray_toList (xs := fn.results), List.mapM_toArray, Sem.run_map]
    rw [mapM_run (g := fun rv => ((Qdg P s [rv]).bind (·.head?)).map (den bs)) fn.results.toList ?_ (Qcl S (fun _ => rfl) _ h)]
    · rfl
    · intro rv _ y hy
      cases rv with
      | tmp t =>
        simp only [Qdg] at hy
        cases hx : s.get t with
        | none => rw [hx] at hy; simp at hy
        | some x =>
          rw [hx] at hy
          simp at hy
          subst hy
          have := (S.tm t x hx).1
          simp [resOp, Array.getD_eq_getD_getElem?, this]
      | cell t ty =>
        simp only [Qdg] at hy
        cases hx : s.get t with
        | none => rw [hx] at hy; simp at hy
        | some x =>
          rw [hx] at hy
          cases x with
          | p i o =>
            simp only at hy
            cases hK : s.K[i]? with
            | none => rw [hK] at hy; simp at hy
            | some k =>
              rw [hK] at hy; simp only at hy
              cases hv : ldS P ty k.cs o with
              | none => rw [hv] at hy; simp at hy
              | some v =>
                rw [hv] at hy
                simp [den] at hy
                subst hy
                have := (S.tm t _ hx).1
                have e : a.tmps.getD t undef = .pointer (some (adr bs i o)) := by simp [Array.getD_eq_getD_getElem?, this, den]
                simp only [resOp, e, asAddr, Sem.run_bind, Sem.run_pure, Result.andThen_ok]
                exact Qeo hv (S.bx i k hK)
          | _ => simp at hy
  rw [results_op, Sem.run_bind, hm]
  simp only [Result.andThen_ok, Sem.run_pure]
  congr 1
  match ys with
  | [] => rfl
  | [x] => rfl
  | x :: y :: l => simp [retV]
def atEnd : List It → Bool
  | [] => true
  | .code .ret :: _ => true
  | _ => false
theorem Qap {c : Cfg} (S : Sy w0 r bs c.s F a w) {fn : Func} {R : Ending → World → Prop} {v : Value} (he : atEnd c.k = true)
    (hr : (Qdg P c.s fn.results.toList).map (retV bs) = some v) (hR : w0.grownBy w r → R (.returned v) w) : post P c.k (bodyPost P fn R) .normal a w := by
  obtain ⟨k, s⟩ := c
  cases hy : Qdg P s fn.results.toList with
  | none => simp only at hr; rw [hy] at hr; cases hr
  | some ys =>
    simp only at hr
    rw [hy] at hr; simp only [Option.map_some, Option.some.injEq] at hr; subst hr
    have h1 : a.defers = [] ∧ ∃ v, (results fn a.tmps).run P w = .ok v w ∧ R (.returned v) w := ⟨S.df, _, Qg_ S hy, hR S.gr⟩
    match k, he with
    | [], _ => exact h1
    | .code .ret :: k, _ => exact wp_ret (ret_sound h1 k)
theorem Qea (w : World) (r : Option Nat) : w.grownBy w r := ⟨rfl, rfl, rfl, Nat.le_refl _, fun _ _ _ => rfl⟩
def T0 (l : List SV) : List (Nat × SV) := l.zipIdx.map fun q => (q.2, q.1)
theorem QcP : ∀ (l : List SV) (i t : Nat) {x : SV}, ((l.zipIdx i).map fun q => (q.2, q.1)).lookup t = some x → i ≤ t ∧ l[t - i]? = some x
  | [], _, _, _, h => by simp at h
  | y :: l, i, t, x, h => by
    simp only [List.zipIdx_cons, List.map_cons, List.lookup_cons] at h
    cases ht : (t == i) with
    | true =>
      rw [ht] at h; simp at ht h; subst ht h
      simp
    | false =>
      rw [ht] at h; simp at ht
      obtain ⟨h1, h2⟩ := QcP l (i + 1) t h
      refine ⟨by omega, ?_⟩
      rw [show t - i = (t - (i + 1)) + 1 by omega]
      simpa using h2
def QaQ (fn : Func) : Code := fn.body.getD .skip
def Qjv (fn : Func) (args : Array Value) : Cfg := ⟨[.code (QaQ fn)], ⟨args.size + (fn.ntmps - args.size), T0 (args.toList.map .v), []⟩⟩
theorem Qan {c : Cfg} (O : Opt) (n : Nat) (S : Sy w0 r bs c.s F a w) {Q : Exit → Act → World → Prop}
    (h : ∀ bs' a' w', Sy w0 r (bs ++ bs') (Qe4 P O n c).s F a' w' → post P (Qe4 P O n c).k Q .normal a' w') : post P c.k Q .normal a w := QcJ n S h
section
variable (S : Sy w0 r bs s F a w)
include S
theorem Sy.fact {f : RF} (hf : f ∈ F) : f.P w := (S.fs f hf).1
theorem Sy.add (f : RF) (hP : f.P w) (ha : ∀ i, i < bs.length → ¬f.bl (bs.getD i 0)) : Sy w0 r bs s (f :: F) a w :=
  ⟨S.df, S.sz, S.tm, S.bl, S.bx, S.nd, S.lo, fun g hg => by
    rcases List.mem_cons.1 hg with rfl | hg
    · exact ⟨hP, ha⟩
    · exact S.fs g hg, S.gr⟩
theorem Sy.sub {F' : List RF} (h : ∀ f ∈ F', f ∈ F) : Sy w0 r bs s F' a w :=
  ⟨S.df, S.sz, S.tm, S.bl, S.bx, S.nd, S.lo, fun g hg => S.fs g (h g hg), S.gr⟩
theorem Sy.cast (t : Nat) (v : Value) {v' : Value} (hg : s.get t = some (.v v')) (he : v' = v) : Sy w0 r bs (s.put (some t) (.v v)) F a w := by
  have h := S.tm t _ hg
  have h2 := S.put (some t) (x := .v v) trivial
  have e : a.put (some t) (den bs (.v v)) = a := by
    unfold Act.put
    simp only [den]
    obtain ⟨tmps, d⟩ := a
    simp only at h ⊢
    congr 1
    subst he
    have h3 := h.1
    simp only [den] at h3
    apply Array.ext_getElem?
    intro i
    by_cases hi : t = i
    · subst hi
      rw [Array.getElem?_setIfInBounds_self, h3]
      have := (Array.getElem?_eq_some_iff.1 h3).1
      simp [this]
    · rw [Array.getElem?_setIfInBounds_ne hi]
  rw [e] at h2
  exact h2
end
theorem Sy.grown {g : Nat} (S : Sy w0 r bs s F a w) {w' : World} (hg : w.grownBy w' (some g)) (h0 : r = some g ∨ w0.heap.size ≤ g) {F' : List RF} (hF : ∀ f ∈ F', f ∈ F ∧ ¬f.bl g) (hn : ∀ i, i < bs.length → bs.getD i 0 ≠ g) : Sy w0 r bs s F' a w' := by
  refine ⟨S.df, S.sz, S.tm, S.bl, fun i k h => ?_, S.nd, S.lo, fun f hf => ?_, ?_⟩
  · have hi : i < bs.length := by rw [S.bl]; exact (List.getElem?_eq_some_iff.1 h).1
    rw [hg.block _ (S.lt hi) (by simp; exact hn i hi)]; exact S.bx i k h
  · obtain ⟨h1, h2⟩ := hF f hf
    obtain ⟨h3, h4⟩ := S.fs f h1
    exact ⟨f.st w w' h3 (fun b hb => hg.block b (f.lt w h3 b hb) (by simp; intro e; exact h2 (e ▸ hb))), h4⟩
  · have G := S.gr
    exact ⟨hg.os.trans G.os, hg.tape.trans G.tape, hg.output.trans G.output, Nat.le_trans G.size hg.size, fun k hk hne => (hg.block k (Nat.lt_of_lt_of_le hk G.size) (by
      rcases h0 with h0 | h0
      · rw [← h0]; exact hne
      · simp; omega)).trans (G.block k hk hne)⟩
theorem Qb_ {Q : Exit → Act → World → Prop} {ch : List PanicEntry} : ∀ k : List It, post P k Q (.panic ch) a w = Q (.panic ch) a w
  | [] => rfl
  | .blk j :: k => Qb_ k
  | .code c :: k => Qb_ k
  | .ops _ _ :: k => Qb_ k
  | .rnd _ _ :: k => Qb_ k
def SV.inL (π : List Nat) : SV → Bool
  | .v _ => true
  | .p i _ => π.contains i
  | .s i _ _ _ => π.contains i
  | .f _ caps => caps.all fun q => π.contains q.1
def SV.ren (f : Nat → Nat) : SV → SV
  | .v x => .v x
  | .p i o => .p (f i) o
  | .s i o l c => .s (f i) o l c
  | .f fn caps => .f fn (caps.map fun q => (f q.1, q.2))
def Qjf (π : List Nat) (n : Nat) : Bool := π.all (· < n) && (List.range π.length).all fun j => π.idxOf (π.getD j 0) == j
theorem QcO : ∀ (T : List (Nat × SV)) {t : Nat} {x : SV}, T.lookup t = some x → (t, x) ∈ T
  | [], t, x, h => by simp at h
  | q :: T, t, x, h => by
    rw [List.lookup_cons] at h
    cases ht : (t == q.1) with
    | true => rw [ht] at h; simp at ht h; subst ht h; simp
    | false => rw [ht] at h; exact List.mem_cons_of_mem _ (QcO T h)
theorem Sy.to (S : Sy w0 r bs s F a w) (π : List Nat) (s' : SS) (hp : Qjf π s.K.length = true) (hn : s'.n = s.n) (hK : s'.K.map some = π.map fun i => s.K[i]?)
    (hI : (s'.T.all fun q => match s.get q.1 with
      | some x => x.inL π
      | none => false) = true)
    (hT : (s'.T.map fun q => (s.get q.1).map (SV.ren fun i => π.idxOf i)) = s'.T.map fun q => some q.2) : Sy w0 r (π.map fun i => bs.getD i 0) s' F a w := by
  unfold Qjf at hp
  simp only [Bool.and_eq_true, List.all_eq_true, decide_eq_true_eq, beq_iff_eq, List.mem_range] at hp
  obtain ⟨h3, h5⟩ := hp
  have hl : bs.length = s.K.length := S.bl
  have hget : ∀ j, j < π.length → (π.map fun i => bs.getD i 0).getD j 0 = bs.getD (π.getD j 0) 0 := fun j hj => by
    simp [List.getD, List.getElem?_map, List.getElem?_eq_getElem hj]
  have hidx : ∀ i, i ∈ π → π.idxOf i < π.length ∧ π.getD (π.idxOf i) 0 = i := fun i hm => by
    have hlt := List.idxOf_lt_length_of_mem hm
    exact ⟨hlt, by simp [List.getD, List.getElem?_eq_getElem hlt]⟩
  have hadr : ∀ i o, i ∈ π → adr (π.map fun i => bs.getD i 0) (π.idxOf i) o = adr bs i o := fun i o hi => by
    unfold adr
    rw [hget _ (hidx i hi).1, (hidx i hi).2]
  have hKl : s'.K.length = π.length := by have := congrArg List.length hK; simpa using this
  refine ⟨S.df, by rw [hn]; exact S.sz, fun t x h => ?_, by simp [hKl], fun j k hk => ?_, fun i j hi hj he => ?_, fun i hi => ?_, fun f hf => ?_, S.gr⟩
  · have hm := QcO s'.T h
    have h1 := List.map_inj_left.1 hT (t, x) hm
    have h2 := List.all_eq_true.1 hI (t, x) hm
    simp only at h1 h2
    cases hg : s.get t with
    | none => rw [hg] at h1; cases h1
    | some y =>
      rw [hg] at h1 h2
      simp only [Option.map_some, Option.some.injEq] at h1
      subst h1
      obtain ⟨g1, g2⟩ := S.tm t y hg
      cases y with
      | v v => exact ⟨g1, trivial⟩
      | p i o =>
        have hi : i ∈ π := by simpa [SV.inL] using h2
        exact ⟨by rw [g1]; simp only [den, SV.ren]; rw [hadr i o hi], by simpa [SV.ok, SV.ren] using (hidx i hi).1⟩
      | s i o l c =>
        have hi : i ∈ π := by simpa [SV.inL] using h2
        exact ⟨by rw [g1]; simp only [den, SV.ren]; rw [hadr i o hi], by simpa [SV.ok, SV.ren] using (hidx i hi).1⟩
      | f fn caps =>
        have hi : ∀ q ∈ caps, q.1 ∈ π := fun q hq => by have := List.all_eq_true.1 (show caps.all (fun q => π.contains q.1) = true from h2) q hq; simpa using this
        refine ⟨?_, ?_⟩
        · rw [g1]
          simp only [den, SV.ren, List.map_map]
          congr 3
          exact (List.map_congr_left fun q hq => by simp only [Function.comp]; rw [hadr q.1 q.2 (hi q hq)]).symm
        · intro q hq
          simp only [List.mem_map] at hq
          obtain ⟨q', hq', rfl⟩ := hq
          simpa using (hidx q'.1 (hi q' hq')).1
  · have hj : j < π.length := by rw [← hKl]; exact (List.getElem?_eq_some_iff.1 hk).1
    have e : (s'.K.map some)[j]? = some (some k) := by simp [hk]
    rw [hK] at e
    simp only [List.getElem?_map, List.getElem?_eq_getElem hj, Option.map_some, Option.some.injEq] at e
    rw [hget j hj, show π.getD j 0 = π[j] by simp [List.getD, List.getElem?_eq_getElem hj]]
    exact S.bx _ k e
  · simp only [List.length_map] at hi hj
    rw [hget i hi, hget j hj] at he
    have e1 : π.getD i 0 = π[i] := by simp [List.getD, List.getElem?_eq_getElem hi]
    have e2 : π.getD j 0 = π[j] := by simp [List.getD, List.getElem?_eq_getElem hj]
    rw [e1, e2] at he
    have := S.nd _ _ (by rw [hl]; exact h3 _ (List.getElem_mem hi)) (by rw [hl]; exact h3 _ (List.getElem_mem hj)) he
    have k1 := h5 i hi
    have k2 := h5 j hj
    rw [e1] at k1
    rw [e2] at k2
    rw [this] at k1
    omega
  · simp only [List.length_map] at hi
    rw [hget i hi]
    exact S.lo _ (by rw [hl]; have : π.getD i 0 = π[i] := by simp [List.getD, List.getElem?_eq_getElem hi]
                     rw [this]; exact h3 _ (List.getElem_mem hi))
  · obtain ⟨g1, g2⟩ := S.fs f hf
    refine ⟨g1, fun i hi => ?_⟩
    simp only [List.length_map] at hi
    rw [hget i hi]
    exact g2 _ (by rw [hl]; have : π.getD i 0 = π[i] := by simp [List.getD, List.getElem?_eq_getElem hi]
                   rw [this]; exact h3 _ (List.getElem_mem hi))
def Qa_ (c : Cfg) : Code :=
  match c.k with
  | .code (.loop b) :: _ => b
  | _ => .skip
def isL (c : Cfg) : Bool :=
  match c.k with
  | .code (.loop _) :: _ => true
  | _ => false
theorem QaS {c : Cfg} (n : Nat) (hl : isL c = true) {Q : Exit → Act → World → Prop} (h : post P (.rnd n (Qa_ c) :: c.k.tail) Q .normal a w) : post P c.k Q .normal a w := by
  obtain ⟨k, s⟩ := c
  match k, hl with
  | .code (.loop b) :: k, _ => exact wp_loop_rounds n h
theorem Qat {f : FuncId} {fn : Func} {args : Array Value} {w : World} {R : Ending → World → Prop} (r : Option Nat) (F : List RF) (hF : ∀ f ∈ F, f.P w) (hf : P.funcs[f]? = some fn) (hb : fn.body.isSome = true)
    (h : ∀ a, Sy w r [] (Qjv fn args).s F a w → post P (Qjv fn args).k (bodyPost P fn R) .normal a w) : Calls P f args w R := by
  obtain ⟨c, hc⟩ := Option.isSome_iff_exists.1 hb
  have hbo : QaQ fn = c := by unfold QaQ; rw [hc]; rfl
  have hpost : ∀ Q a w, post P (Qjv fn args).k Q .normal a w = c.wp P Q a w := fun Q a w => by show (QaQ fn).wp P _ a w = _; rw [hbo]; rfl
  refine calls_of_wp hf hc ((hpost _ _ _).symm ▸ h _ ⟨rfl, by simp [Qjv], fun t x hx => ?_, rfl, fun i k hk => by simp [Qjv] at hk, fun i j hi => by simp at hi, fun i hi => by simp at hi, fun f hf => ⟨hF f hf, fun i hi => by simp at hi⟩, Qea _ _⟩)
  simp only [SS.get, Qjv, T0] at hx
  obtain ⟨h1, h2⟩ := QcP _ 0 t hx
  rw [Nat.sub_zero, List.getElem?_map] at h2
  cases ha : args.toList[t]? with
  | none => rw [ha] at h2; cases h2
  | some y =>
    rw [ha] at h2
    simp only [Option.map_some, Option.some.injEq] at h2; subst h2
    have hl : t < args.size := by have := (List.getElem?_eq_some_iff.1 ha).1; simpa using this
    refine ⟨?_, trivial⟩
    simp only [den]
    rw [Array.getElem?_append_left hl]
    rw [← Array.getElem?_toList]; exact ha
theorem Sy.lo0 (S : Sy w0 none bs s F a w) : ∀ i, i < bs.length → w0.heap.size ≤ bs.getD i 0 := fun i hi => (S.lo i hi).elim id (fun h => by cases h)
def regC (c : Cfg) : Cfg :=
  match c with
  | ⟨.code (.region _ ops false) :: k, s⟩ => ⟨.ops ops ops.toList :: k, s⟩
  | c => c
def QgP (P : Program) : Nat → Cfg → Cfg
  | 0, c => c
  | n + 1, ⟨.ops all (o :: l) :: k, s⟩ => match QaM s all o with
    | some false => QgP P n ⟨.ops all l :: k, s.put o.dst (.v undef)⟩
    | some true => match sop P s o with
      | some s' => QgP P n ⟨.ops all l :: k, s'⟩
      | none => ⟨.ops all (o :: l) :: k, s⟩
    | none => ⟨.ops all (o :: l) :: k, s⟩
  | _ + 1, ⟨.ops all [] :: k, s⟩ => ⟨k, s⟩
  | _ + 1, c => c
theorem Qcy {c : Cfg} (S : Sy w0 r bs c.s F a w) {Q : Exit → Act → World → Prop} (h : Sy w0 r bs (regC c).s F a w → post P (regC c).k Q .normal a w) : post P c.k Q .normal a w := by
  obtain ⟨k, s⟩ := c
  match k with
  | .code (.region id ops false) :: k => exact wp_region_list (h S)
  | [] => exact h S
  | .ops _ _ :: _ => exact h S
  | .blk _ :: _ => exact h S
  | .rnd _ _ :: _ => exact h S
  | .code (.region id ops true) :: k => exact h S
  | .code .skip :: _ => exact h S
  | .code (.seq _ _) :: _ => exact h S
  | .code (.cond _ _ _) :: _ => exact h S
  | .code (.block _ _) :: _ => exact h S
  | .code (.loop _) :: _ => exact h S
  | .code (.rangeFunc _ _ _ _) :: _ => exact h S
  | .code (.exit _) :: _ => exact h S
  | .code (.scope _) :: _ => exact h S
  | .code (.label _) :: _ => exact h S
  | .code (.goto _) :: _ => exact h S
  | .code .ret :: _ => exact h S
  | .code (.refuse _) :: _ => exact h S
theorem QbS {Q : Exit → Act → World → Prop} : ∀ (n : Nat) {c : Cfg} {bs : List Nat} {a : Act} {w : World}, Sy w0 r bs c.s F a w →
    (∀ bs' a' w', Sy w0 r (bs ++ bs') (QgP P n c).s F a' w' → post P (QgP P n c).k Q .normal a' w') → post P c.k Q .normal a w
  | 0, c, bs, a, w, S, h => h [] a w (by rw [List.append_nil]; exact S)
  | n + 1, ⟨.ops all (o :: l) :: k, s⟩, bs, a, w, S, h => by
    unfold QgP at h
    cases hw : QaM s all o with
    | none => rw [hw] at h; exact h [] a w (by rw [List.append_nil]; exact S)
    | some b =>
      rw [hw] at h
      have hw' := Qae S hw
      show wpList P all (post P k Q) (o :: l) a w
      cases b with
      | false =>
        simp only at h
        refine wpList_step fun K hK => ?_
        rw [hw']
        simp only [Bool.false_eq_true, if_false]
        refine hK _ _ ?_
        exact QbS n (c := ⟨.ops all l :: k, s.put o.dst (.v undef)⟩) (S.put o.dst (x := .v undef) trivial) h
      | true =>
        simp only at h
        cases hs : sop P s o with
        | none => rw [hs] at h; exact h [] a w (by rw [List.append_nil]; exact S)
        | some s' =>
          rw [hs] at h
          simp only at h
          refine wpList_step fun K hK => ?_
          rw [hw', if_pos rfl]
          refine QcI S hs fun bs1 a1 w1 S1 => hK _ _ ?_
          exact QbS n (c := ⟨.ops all l :: k, s'⟩) S1 fun bs2 a2 w2 S2 => h (bs1 ++ bs2) a2 w2 (by rw [← List.append_assoc]; exact S2)
  | n + 1, ⟨.ops all [] :: k, s⟩, bs, a, w, S, h => h [] a w (by rw [List.append_nil]; exact S)
  | n + 1, ⟨[], s⟩, bs, a, w, S, h => h [] a w (by rw [List.append_nil]; exact S)
  | n + 1, ⟨.code _ :: _, s⟩, bs, a, w, S, h => h [] a w (by rw [List.append_nil]; exact S)
  | n + 1, ⟨.blk _ :: _, s⟩, bs, a, w, S, h => h [] a w (by rw [List.append_nil]; exact S)
  | n + 1, ⟨.rnd _ _ :: _, s⟩, bs, a, w, S, h => h [] a w (by rw [List.append_nil]; exact S)
theorem Qao {c : Cfg} (n : Nat) (S : Sy w0 r bs c.s F a w) {Q : Exit → Act → World → Prop}
    (h : ∀ bs' a' w', Sy w0 r (bs ++ bs') (QgP P n c).s F a' w' → post P (QgP P n c).k Q .normal a' w') : post P c.k Q .normal a w := QbS n S h
def Qgr (c : Cfg) (t : Nat) (v : Value) : Cfg := ⟨c.k, c.s.put (some t) (.v v)⟩
theorem Qb7 {c : Cfg} (t : Nat) {v v' : Value} (S : Sy w0 r bs c.s F a w) (he : v' = v) (hg : c.s.get t = some (.v v')) {Q : Exit → Act → World → Prop}
    (h : Sy w0 r bs (Qgr c t v).s F a w → post P (Qgr c t v).k Q .normal a w) : post P c.k Q .normal a w := h (S.cast t v hg he)
end
end Go.Proofs.Ytfhmdlihnidjoaa.SX
namespace Go.Proofs.Ytfhmdlihnidjoaa.EX
set_option linter.unusedVariables false
set_option linter.unusedSimpArgs false
set_option linter.unusedSectionVars false
set_option maxRecDepth 100000
open Go Go.RowKit
section
inductive Tr (α : Type) where
  | leaf
  | node (v : Option α) (l r : Tr α)
namespace Tr
variable {α : Type}
def getN (g : Nat) : Tr α → Nat → Option α :=
  Nat.rec (motive := fun _ => Tr α → Nat → Option α) (fun _ _ => none)
    (fun _ ih t n => Tr.casesOn (motive := fun _ => Option α) t none
      (fun v l r => Nat.casesOn (motive := fun _ => Option α) n v (fun m => Nat.casesOn (motive := fun _ => Option α) (Nat.mod m 2) (ih l (Nat.div m 2)) (fun _ => ih r (Nat.div m 2))))) g
def get (t : Tr α) (n : Nat) : Option α := getN 40 t n
def put (f : Nat) : Tr α → Nat → Option α → Tr α :=
  Nat.rec (motive := fun _ => Tr α → Nat → Option α → Tr α) (fun t _ _ => t)
    (fun _ ih t n x => Tr.casesOn (motive := fun _ => Tr α) t
      (Nat.casesOn (motive := fun _ => Tr α) n (node x leaf leaf) (fun m => Nat.casesOn (motive := fun _ => Tr α) (Nat.mod m 2) (node none (ih leaf (Nat.div m 2) x) leaf) (fun _ => node none leaf (ih leaf (Nat.div m 2) x))))
      (fun v l r => Nat.casesOn (motive := fun _ => Tr α) n (node x l r) (fun m => Nat.casesOn (motive := fun _ => Tr α) (Nat.mod m 2) (node v (ih l (Nat.div m 2) x) r) (fun _ => node v l (ih r (Nat.div m 2) x))))) f
theorem Qby (g n : Nat) : getN g (leaf : Tr α) n = none := by cases g <;> rfl
theorem get_leaf (n : Nat) : (leaf : Tr α).get n = none := Qby 40 n
theorem QcS (g : Nat) (v : Option α) (l r : Tr α) : getN (g + 1) (node v l r) 0 = v := rfl
theorem QbK (g : Nat) (v : Option α) (l r : Tr α) (m : Nat) : getN (g + 1) (node v l r) (m + 1) = if m % 2 = 0 then getN g l (m / 2) else getN g r (m / 2) := by
  show Nat.casesOn (motive := fun _ => Option α) (m % 2) (getN g l (m / 2)) (fun _ => getN g r (m / 2)) = _
  cases m % 2 with
  | zero => rfl
  | succ k => rfl
theorem Qkx (f : Nat) (v : Option α) (l r : Tr α) (x : Option α) : put (f + 1) (node v l r) 0 x = node x l r := rfl
theorem Qkz (f : Nat) (x : Option α) : put (f + 1) leaf 0 x = node x leaf leaf := rfl
theorem Qkw (f : Nat) (v : Option α) (l r : Tr α) (m : Nat) (x : Option α) : put (f + 1) (node v l r) (m + 1) x = if m % 2 = 0 then node v (put f l (m / 2) x) r else node v l (put f r (m / 2) x) := by
  show Nat.casesOn (motive := fun _ => Tr α) (m % 2) (node v (put f l (m / 2) x) r) (fun _ => node v l (put f r (m / 2) x)) = _
  cases m % 2 with
  | zero => rfl
  | succ k => rfl
theorem Qky (f : Nat) (m : Nat) (x : Option α) : put (f + 1) leaf (m + 1) x = if m % 2 = 0 then node none (put f leaf (m / 2) x) leaf else node none leaf (put f leaf (m / 2) x) := by
  show Nat.casesOn (motive := fun _ => Tr α) (m % 2) (node none (put f leaf (m / 2) x) leaf) (fun _ => node none leaf (put f leaf (m / 2) x)) = _
  cases m % 2 with
  | zero => rfl
  | succ k => rfl
theorem Qe_ : ∀ (f g : Nat) (t : Tr α) (n k : Nat) (x : Option α), n + 1 < 2 ^ f → n + 1 < 2 ^ g → getN g (put f t n x) k = if k = n then x else getN g t k
  | 0, g, t, n, k, x, h, h' => by simp at h
  | f + 1, 0, t, n, k, x, h, h' => by simp at h'
  | f + 1, g + 1, leaf, 0, k, x, h, h' => by
    rw [Qkz]
    cases k with
    | zero => simp [QcS]
    | succ k => rw [QbK]; split <;> simp [Qby]
  | f + 1, g + 1, leaf, m + 1, k, x, h, h' => by
    have hm : m / 2 + 1 < 2 ^ f := by rw [Nat.pow_succ] at h; omega
    have hg : m / 2 + 1 < 2 ^ g := by rw [Nat.pow_succ] at h'; omega
    rw [Qky]
    split
    · rename_i h0
      cases k with
      | zero => simp [QcS, Qby]
      | succ k =>
        rw [QbK, Qby, Qby]
        split
        · rename_i h1
          rw [Qe_ f g leaf (m / 2) (k / 2) x hm hg, Qby]
          by_cases e : k = m
          · subst e; simp
          · have e2 : ¬ (k / 2 = m / 2) := by omega
            have e3 : ¬ (k + 1 = m + 1) := by omega
            rw [if_neg e2, if_neg e3]
        · rename_i h1; rw [if_neg (by intro e; apply h1; omega)]
    · rename_i h0
      cases k with
      | zero => simp [QcS, Qby]
      | succ k =>
        rw [QbK, Qby, Qby]
        split
        · rename_i h1; rw [if_neg (by intro e; apply h0; omega)]
        · rename_i h1
          rw [Qe_ f g leaf (m / 2) (k / 2) x hm hg, Qby]
          by_cases e : k = m
          · subst e; simp
          · have e2 : ¬ (k / 2 = m / 2) := by omega
            have e3 : ¬ (k + 1 = m + 1) := by omega
            rw [if_neg e2, if_neg e3]
  | f + 1, g + 1, node v l r, 0, k, x, h, h' => by
    rw [Qkx]
    cases k with
    | zero => simp [QcS]
    | succ k => rw [QbK, QbK, if_neg (Nat.succ_ne_zero k)]
  | f + 1, g + 1, node v l r, m + 1, k, x, h, h' => by
    have hm : m / 2 + 1 < 2 ^ f := by rw [Nat.pow_succ] at h; omega
    have hg : m / 2 + 1 < 2 ^ g := by rw [Nat.pow_succ] at h'; omega
    rw [Qkw]
    split
    · rename_i h0
      cases k with
      | zero => simp [QcS]
      | succ k =>
        rw [QbK, QbK]
        split
        · rename_i h1
          rw [Qe_ f g l (m / 2) (k / 2) x hm hg]
          by_cases e : k = m
          · subst e; simp
          · have e2 : ¬ (k / 2 = m / 2) := by omega
            have e3 : ¬ (k + 1 = m + 1) := by omega
            rw [if_neg e2, if_neg e3]
        · rename_i h1; rw [if_neg (by intro e; apply h1; omega)]
    · rename_i h0
      cases k with
      | zero => simp [QcS]
      | succ k =>
        rw [QbK, QbK]
        split
        · rename_i h1; rw [if_neg (by intro e; apply h0; omega)]
        · rename_i h1
          rw [Qe_ f g r (m / 2) (k / 2) x hm hg]
          by_cases e : k = m
          · subst e; simp
          · have e2 : ¬ (k / 2 = m / 2) := by omega
            have e3 : ¬ (k + 1 = m + 1) := by omega
            rw [if_neg e2, if_neg e3]
theorem get_put (t : Tr α) (n k : Nat) (x : Option α) (h : n + 1 < 2 ^ 40) : (put 40 t n x).get k = if k = n then x else t.get k := Qe_ 40 40 t n k x h h
def set (t : Tr α) (n : Nat) (x : Option α) : Tr α := put 40 t n x
end Tr
inductive SV where
  | v (x : Value)
  | y (x : Value)
  | p (i o : Nat)
  | s (i o l c : Nat)
  | r (i o l c : Nat)
  | z (i o q : Nat)
  | m (i : Nat)
  | g (cs : List SV)
  | t (cs : List SV)
  | f (fn : FuncId) (first caps : List SV)
  | e (ty : TypeId) (x : SV)
  | q (i o l c : Nat)
  | a (i o : Nat)
class FC where
  b : Nat → Nat
  o : Nat → Nat
  cs : Nat → List SV
  ok : World → Prop
  mono : ∀ w w' : World, ok w → w.grownBy w' none → ok w'
instance noFC : FC := ⟨fun _ => 0, fun _ => 0, fun _ => [], fun _ => True, fun _ _ _ _ => trivial⟩
variable [FC]
abbrev Pl := Nat → Nat × Nat
mutual
def den (B : Pl) : SV → Value
  | .v x => x
  | .y x => x
  | .p i o => .pointer (some ⟨(B i).1, o, none⟩)
  | .s i o l c => .slice (some ⟨(B i).1, o, none⟩) l c
  | .r i o l c => .slice (some ⟨(B i).1, o, none⟩) l ((B i).2 + c)
  | .z i o q => .slice (some ⟨(B i).1, if (B i).2 = 0 then o else q, none⟩) 0 (B i).2
  | .m i => .map (some (B i).1)
  | .g cs => .agg (Qaj B cs).toArray
  | .t cs => .tuple (Qaj B cs).toArray
  | .f fn first caps => .func (.func fn) (Qaj B first).toArray (Qaj B caps).toArray
  | .e ty x => .iface ty (den B x)
  | .q i o l c => .slice (some ⟨FC.b i, FC.o i + o, none⟩) l c
  | .a i o => .pointer (some ⟨FC.b i, FC.o i + o, none⟩)
def Qaj (B : Pl) : List SV → List Value
  | [] => []
  | x :: l => den B x :: Qaj B l
end
mutual
def bd (S : Nat → Prop) : SV → Prop
  | .v _ => True
  | .y _ => True
  | .p i _ => S i
  | .s i _ _ _ => S i
  | .r i _ _ _ => S i
  | .z i _ _ => S i
  | .m i => S i
  | .g cs => bdL S cs
  | .t cs => bdL S cs
  | .f _ first caps => bdL S first ∧ bdL S caps
  | .e _ x => bd S x
  | .q _ _ _ _ => True
  | .a _ _ => True
def bdL (S : Nat → Prop) : List SV → Prop
  | [] => True
  | x :: l => bd S x ∧ bdL S l
end
theorem QaA (B : Pl) : ∀ l : List SV, Qaj B l = l.map (den B)
  | [] => by simp [Qaj]
  | x :: l => by simp [Qaj, QaA B l]
theorem QaC {S : Nat → Prop} : ∀ {l : List SV}, bdL S l ↔ ∀ x ∈ l, bd S x
  | [] => by simp [bdL]
  | x :: l => by simp [bdL, QaC (l := l)]
def Ag (n n' : Nat) (B B' : Pl) : Prop := ∀ i, i < n ∨ n' ≤ i → B' i = B i
theorem Ag.refl (n n' : Nat) (B : Pl) : Ag n n' B B := fun _ _ => rfl
theorem Ag.trans {n m k : Nat} {B C D : Pl} (h : Ag n m B C) (g : Ag m k C D) (hnm : n ≤ m) (hmk : m ≤ k) : Ag n k B D := fun i hi => (g i (by omega)).trans (h i (by omega))
theorem Ag.on {n n' : Nat} {B B' : Pl} {S : Nat → Prop} (h : Ag n n' B B') (hS : ∀ j, S j → j < n) : ∀ i, S i → B' i = B i := fun i hi => h i (Or.inl (hS i hi))
def ext (S : Nat → Prop) (n n' : Nat) : Nat → Prop := fun j => S j ∨ (n ≤ j ∧ j < n')
theorem Qai (S : Nat → Prop) (n : Nat) : ext S n n = S := by funext j; apply propext; unfold ext; exact ⟨fun h => h.elim id (fun h => by omega), Or.inl⟩
theorem QdS {S : Nat → Prop} {n m k : Nat} (h : n ≤ m) (g : m ≤ k) : ext (ext S n m) m k = ext S n k := by
  funext j; apply propext; unfold ext
  exact ⟨fun h => h.elim (fun h => h.elim Or.inl (fun h => Or.inr (by omega))) (fun h => Or.inr (by omega)), fun h => h.elim (fun h => Or.inl (Or.inl h)) (fun h => if hj : j < m then Or.inl (Or.inr ⟨h.1, hj⟩) else Or.inr (by omega))⟩
theorem QfU {S : Nat → Prop} {n n' : Nat} (hS : ∀ j, S j → j < n) (h : n ≤ n') : ∀ j, ext S n n' j → j < n' := fun j hj => hj.elim (fun h' => by have := hS j h'; omega) (fun h' => h'.2)
theorem QbL {S : Nat → Prop} {n n' : Nat} : ∀ j, S j → ext S n n' j := fun _ h => Or.inl h
mutual
theorem QfX {S : Nat → Prop} {B B' : Pl} (h : ∀ i, S i → B' i = B i) : ∀ {x : SV}, bd S x → den B' x = den B x
  | .v _, _ => by simp [den]
  | .y _, _ => by simp [den]
  | .p i _, hb => by simp only [bd] at hb; simp [den, h i hb]
  | .s i _ _ _, hb => by simp only [bd] at hb; simp [den, h i hb]
  | .r i _ _ _, hb => by simp only [bd] at hb; simp [den, h i hb]
  | .z i _ _, hb => by simp only [bd] at hb; simp [den, h i hb]
  | .m i, hb => by simp only [bd] at hb; simp [den, h i hb]
  | .g cs, hb => by simp only [bd] at hb; simp [den, QcG h hb]
  | .t cs, hb => by simp only [bd] at hb; simp [den, QcG h hb]
  | .f _ a b, hb => by simp only [bd] at hb; simp [den, QcG h hb.1, QcG h hb.2]
  | .e _ x, hb => by simp only [bd] at hb; simp [den, QfX h hb]
  | .q _ _ _ _, _ => by simp [den]
  | .a _ _, _ => by simp [den]
theorem QcG {S : Nat → Prop} {B B' : Pl} (h : ∀ i, S i → B' i = B i) : ∀ {l : List SV}, bdL S l → Qaj B' l = Qaj B l
  | [], _ => by simp [Qaj]
  | x :: l, hb => by simp only [bdL] at hb; simp [Qaj, QfX h hb.1, QcG h hb.2]
end
mutual
theorem QbU {S S' : Nat → Prop} (h : ∀ j, S j → S' j) : ∀ {x : SV}, bd S x → bd S' x
  | .v _, _ => by simp [bd]
  | .y _, _ => by simp [bd]
  | .p i _, hb => by simp only [bd] at hb ⊢; exact h _ hb
  | .s i _ _ _, hb => by simp only [bd] at hb ⊢; exact h _ hb
  | .r i _ _ _, hb => by simp only [bd] at hb ⊢; exact h _ hb
  | .z i _ _, hb => by simp only [bd] at hb ⊢; exact h _ hb
  | .m i, hb => by simp only [bd] at hb ⊢; exact h _ hb
  | .g cs, hb => by simp only [bd] at hb ⊢; exact Qbt h hb
  | .t cs, hb => by simp only [bd] at hb ⊢; exact Qbt h hb
  | .f _ a b, hb => by simp only [bd] at hb ⊢; exact ⟨Qbt h hb.1, Qbt h hb.2⟩
  | .e _ x, hb => by simp only [bd] at hb ⊢; exact QbU h hb
  | .q _ _ _ _, _ => by simp [bd]
  | .a _ _, _ => by simp [bd]
theorem Qbt {S S' : Nat → Prop} (h : ∀ j, S j → S' j) : ∀ {l : List SV}, bdL S l → bdL S' l
  | [], _ => by simp [bdL]
  | x :: l, hb => by simp only [bdL] at hb ⊢; exact ⟨QbU h hb.1, Qbt h hb.2⟩
end
structure Bx where
  ty : TypeId
  cs : List SV
  sz : Nat := 0
  mp : Bool := false
  es : List SV := []
def Qfq : Nat → List Value → List MapEntry
  | n, k :: v :: l => { key := k, val := v, born := n } :: Qfq (n + 1) l
  | _, _ => []
def fzOf : List SV → Nat → Nat × Nat
  | [], _ => (0, 0)
  | _ :: _, n => (n, n + 1)
def itO : List SV → Option (ByteArray × Nat)
  | [.v (.string s), .v (.int .i64 (.ofNat p))] => some (s, p)
  | _ => none
def objM (B : Pl) (es : List SV) : Obj :=
  match itO es with
  | some (s, p) => .stringIter s p
  | none => .map (Qfq 0 (Qaj B es)).toArray (Qfq 0 (Qaj B es)).length
def Qcb (B : Pl) (k : Bx) (rest : List Value) : Obj :=
  match k.mp with
  | false => .cells (Qaj B k.cs ++ rest).toArray k.ty (fzOf k.es (Qaj B k.cs ++ rest).length)
  | true => objM B k.es
def bdK (S : Nat → Prop) (k : Bx) : Prop := bdL S k.cs ∧ (k.mp = true → k.cs = [] ∧ k.sz = 0 ∧ bdL S k.es)
theorem Qcd {S S' : Nat → Prop} {k : Bx} (h : ∀ j, S j → S' j) (g : bdK S k) : bdK S' k :=
  ⟨Qbt h g.1, fun e => ⟨(g.2 e).1, (g.2 e).2.1, Qbt h (g.2 e).2.2⟩⟩
theorem Qd3 {S : Nat → Prop} {B B' : Pl} {k : Bx} (h : ∀ i, S i → B' i = B i) (g : bdK S k) (rest : List Value) : Qcb B' k rest = Qcb B k rest := by
  unfold Qcb
  cases e : k.mp with
  | false => simp only; rw [QcG h g.1]
  | true => simp only [objM]; rw [QcG h (g.2 e).2.2]
theorem bdK.cell {S : Nat → Prop} {k : Bx} (g : bdK S k) {o : Nat} (h : o < k.cs.length) : k.mp = false := by
  cases e : k.mp with
  | false => rfl
  | true => rw [(g.2 e).1] at h; exact absurd h (Nat.not_lt_zero _)
theorem Qcn {B : Pl} {k : Bx} (h : k.mp = false) (rest : List Value) : Qcb B k rest = .cells (Qaj B k.cs ++ rest).toArray k.ty (fzOf k.es (Qaj B k.cs ++ rest).length) := by
  unfold Qcb; rw [h]
theorem QdO {B : Pl} {k : Bx} (h : k.mp = false) (he : k.es = []) (rest : List Value) : Qcb B k rest = .cells (Qaj B k.cs ++ rest).toArray k.ty (0, 0) := by
  rw [Qcn h, he]; rfl
def nilB : List SV → Bool
  | [] => true
  | _ => false
theorem QkP {l : List SV} (h : nilB l = true) : l = [] := by
  cases l with
  | nil => rfl
  | cons a b => cases h
abbrev RF := SX.RF
def Qe5 (c : Nat) (k : Bx) (rest : List Value) : Prop := rest.length = c * k.sz ∧ (k.sz = 0 ∨ c * k.sz + k.cs.length ≤ maxLen * k.sz)
def FcAt (w : World) : Prop := FC.ok w ∧ ∀ i j x, (FC.cs i)[j]? = some x → w.cell? ⟨FC.b i, FC.o i + j, none⟩ = some (den (fun _ => (0, 0)) x) ∧ bd (fun _ => False) x
theorem FcAt.grown {w w' : World} (h : FcAt w) (g : w.grownBy w' none) : FcAt w' := by
  refine ⟨FC.mono w w' h.1 g, fun i j x hx => ?_⟩
  obtain ⟨h1, h2⟩ := h.2 i j x hx
  refine ⟨?_, h2⟩
  simp only [World.cell?] at h1 ⊢
  have hlt : FC.b i < w.heap.size := by
    cases hh : w.heap[FC.b i]? with
    | none => rw [hh] at h1; cases h1
    | some ob => exact (Array.getElem?_eq_some_iff.1 hh).1
  rw [g.block _ hlt (by simp)]
  exact h1
theorem QaN (w : World) : @FcAt noFC w := ⟨trivial, fun i j x hx => by cases hx⟩
structure Re (w0 : World) (F : List RF) (B : Pl) (K : Nat → Option Bx) (S : Nat → Prop) (w : World) : Prop where
  bx : ∀ i k, K i = some k → S i ∧ bdK S k ∧ ∃ rest, Qe5 (B i).2 k rest ∧ w.heap[(B i).1]? = some (Qcb B k rest)
  nd : ∀ i j ki kj, K i = some ki → K j = some kj → (B i).1 = (B j).1 → i = j
  lo : ∀ i k, K i = some k → w0.heap.size ≤ (B i).1
  fs : ∀ f ∈ F, f.P w ∧ ∀ i k, K i = some k → ¬f.bl (B i).1
  gr : w0.grownBy w none ∧ FcAt w0
structure Ra (B : Pl) (T : Nat → Option SV) (n : Nat) (S : Nat → Prop) (a : Act) : Prop where
  sz : a.tmps.size = n
  tm : ∀ t x, T t = some x → a.tmps[t]? = some (den B x) ∧ bd S x
section
variable {P : Program} {w0 : World} {F : List RF} {B : Pl} {K : Nat → Option Bx} {T : Nat → Option SV} {n nx : Nat} {S : Nat → Prop} {a : Act} {w : World}
theorem Re.lt (R : Re w0 F B K S w) {i : Nat} {k : Bx} (h : K i = some k) : (B i).1 < w.heap.size := by
  obtain ⟨_, _, rest, _, h2⟩ := R.bx i k h
  exact (Array.getElem?_eq_some_iff.1 h2).1
theorem QiE {w0 w w' : World} (g : w0.grownBy w none) (hb : Below w.heap.size w w') : w0.grownBy w' none :=
  ⟨hb.os.trans g.os, hb.tape.trans g.tape, hb.output.trans g.output, Nat.le_trans g.size hb.size, fun k hk hne => (hb.block k (Nat.lt_of_lt_of_le hk g.size)).trans (g.block k hk hne)⟩
theorem Re.below (R : Re w0 F B K S w) {w' : World} (hb : Below w.heap.size w w') : Re w0 F B K S w' := by
  refine ⟨fun i k h => ?_, R.nd, R.lo, fun f hf => ?_, QiE R.gr.1 hb, R.gr.2⟩
  · obtain ⟨h1, h2, rest, h4, h3⟩ := R.bx i k h
    exact ⟨h1, h2, rest, h4, by rw [hb.block _ (R.lt h)]; exact h3⟩
  · obtain ⟨h1, h2⟩ := R.fs f hf
    exact ⟨f.st w w' h1 (fun b hb' => hb.block b (f.lt w h1 b hb')), h2⟩
theorem Ra.ag {B' : Pl} {S' : Nat → Prop} (A : Ra B T n S a) (h : ∀ i, S i → B' i = B i) (hn : ∀ j, S j → S' j) : Ra B' T n S' a :=
  ⟨A.sz, fun t x hx => by
    obtain ⟨h1, h2⟩ := A.tm t x hx
    exact ⟨by rw [QfX h h2]; exact h1, QbU hn h2⟩⟩
def QbO {α : Type} (T : Nat → Option α) (d : Nat) (x : Option α) : Nat → Option α := fun t => if t = d then x else T t
theorem Ra.put {d : Nat} {x : SV} (A : Ra B T n S a) (hd : d < n) (hx : bd S x) : Ra B (QbO T d (some x)) n S (a.put (some d) (den B x)) := by
  refine ⟨by simp [Act.put, A.sz], fun t y h => ?_⟩
  unfold QbO at h
  by_cases e : t = d
  · subst e; simp at h; subst h
    exact ⟨by simp [Act.put, A.sz, hd], hx⟩
  · rw [if_neg e] at h
    obtain ⟨h1, h2⟩ := A.tm t y h
    exact ⟨by simp only [Act.put]; rw [Array.getElem?_setIfInBounds_ne (by omega)]; exact h1, h2⟩
def QbD (B : Pl) (n : Nat) (x : Nat × Nat) : Pl := fun i => if i = n then x else B i
theorem Re.new (R : Re w0 F B K S w) (k : Bx) (rest : List Value) (c : Nat) (hk : bdK S k) (hr : Qe5 c k rest) (hS : ∀ j, S j → j < nx) :
    Re w0 F (QbD B nx (w.heap.size, c)) (QbO K nx (some k)) (ext S nx (nx + 1)) (w.alloc (Qcb B k rest)) ∧ Ag nx (nx + 1) B (QbD B nx (w.heap.size, c)) := by
  have hag' : Ag nx (nx + 1) B (QbD B nx (w.heap.size, c)) := fun i hi => by unfold QbD; rw [if_neg (by omega)]
  have hag : ∀ i, S i → QbD B nx (w.heap.size, c) i = B i := hag'.on hS
  have R' := R.below ((Below.refl w.heap.size w).alloc (Nat.le_refl _) (Qcb B k rest))
  have hold : ∀ i k', K i = some k' → S i := fun i k' h => (R.bx i k' h).1
  refine ⟨⟨fun i k' h => ?_, fun i j ki kj hi hj he => ?_, fun i k' h => ?_, fun f hf => ?_, R'.gr⟩, hag'⟩
  · unfold QbO at h
    by_cases e : i = nx
    · subst e; simp at h; subst h
      refine ⟨Or.inr ⟨Nat.le_refl _, by omega⟩, Qcd QbL hk, rest, by simpa [QbD] using hr, ?_⟩
      rw [Qd3 hag hk]
      simp only [QbD, if_true]
      exact heap_alloc_new w _
    · rw [if_neg e] at h
      obtain ⟨h1, h2, rest', h4, h3⟩ := R'.bx i k' h
      refine ⟨Or.inl h1, Qcd QbL h2, rest', by rw [hag i h1]; exact h4, ?_⟩
      rw [Qd3 hag h2, hag i h1]; exact h3
  · unfold QbO at hi hj
    by_cases e1 : i = nx <;> by_cases e2 : j = nx
    · omega
    · rw [if_neg e2] at hj
      subst e1
      rw [hag j (hold _ _ hj)] at he
      simp only [QbD, if_true] at he
      have := R.lt hj
      omega
    · rw [if_neg e1] at hi
      subst e2
      rw [hag i (hold _ _ hi)] at he
      simp only [QbD, if_true] at he
      have := R.lt hi
      omega
    · rw [if_neg e1] at hi; rw [if_neg e2] at hj
      rw [hag i (hold _ _ hi), hag j (hold _ _ hj)] at he
      exact R.nd i j _ _ hi hj he
  · unfold QbO at h
    by_cases e : i = nx
    · subst e; simp only [QbD, if_true]; exact R.gr.1.size
    · rw [if_neg e] at h
      rw [hag i (hold _ _ h)]; exact R.lo i k' h
  · obtain ⟨h1, h2⟩ := R'.fs f hf
    refine ⟨h1, fun i k' h => ?_⟩
    unfold QbO at h
    by_cases e : i = nx
    · subst e; simp only [QbD, if_true]
      intro hb
      have := f.lt w (R.fs f hf).1 _ hb
      omega
    · rw [if_neg e] at h
      rw [hag i (hold _ _ h)]; exact h2 i k' h
end
end
end Go.Proofs.Ytfhmdlihnidjoaa.EX
namespace Go.Proofs.Ytfhmdlihnidjoaa.EX
set_option linter.unusedVariables false
set_option linter.unusedSimpArgs false
set_option linter.unusedSectionVars false
set_option maxRecDepth 100000
open Go Go.RowKit
variable [FC]
theorem QaR (B : Pl) (a b : List SV) : Qaj B (a ++ b) = Qaj B a ++ Qaj B b := by simp [QaA]
theorem Qab (B : Pl) (a : List SV) : (Qaj B a).length = a.length := by simp [QaA]
theorem Qbb {n : Nat → Prop} {a b : List SV} : bdL n (a ++ b) ↔ bdL n a ∧ bdL n b := by
  simp only [QaC, List.mem_append]
  exact ⟨fun h => ⟨fun x hx => h x (Or.inl hx), fun x hx => h x (Or.inr hx)⟩, fun h x hx => hx.elim (h.1 x) (h.2 x)⟩
theorem Qhb (n : Nat → Prop) (l : List Value) : bdL n (l.map .v) := by simp [QaC, bd]
theorem bdL_y (n : Nat → Prop) (l : List Value) : bdL n (l.map .y) := by simp [QaC, bd]
theorem Qfr (B : Pl) (l : List Value) : Qaj B (l.map .v) = l := by simp [QaA, Function.comp_def, den]
theorem denL_y (B : Pl) (l : List Value) : Qaj B (l.map .y) = l := by simp [QaA, Function.comp_def, den]
def rawL : List SV → Option (List Value)
  | [] => some []
  | .v x :: l => match rawL l with
    | some r => some (x :: r)
    | none => none
  | _ :: _ => none
def Qe0 : List SV → Option (List Value)
  | [] => some []
  | .v x :: l => match Qe0 l with
    | some r => some (x :: r)
    | none => none
  | .y x :: l => match Qe0 l with
    | some r => some (x :: r)
    | none => none
  | _ :: _ => none
theorem Qgc (B : Pl) : ∀ {l : List SV} {r : List Value}, rawL l = some r → Qaj B l = r
  | [], r, h => by simp [rawL] at h; subst h; rfl
  | x :: l, r, h => by
    cases x with
    | v x =>
      simp only [rawL] at h
      cases hl : rawL l with
      | none => rw [hl] at h; cases h
      | some r' => rw [hl] at h; simp only [Option.some.injEq] at h; subst h; simp [Qaj, den, Qgc B hl]
    | _ => simp [rawL] at h
theorem QdY (B : Pl) : ∀ {l : List SV} {r : List Value}, Qe0 l = some r → Qaj B l = r
  | [], r, h => by simp [Qe0] at h; subst h; rfl
  | x :: l, r, h => by
    cases x with
    | v x =>
      simp only [Qe0] at h
      cases hl : Qe0 l with
      | none => rw [hl] at h; cases h
      | some r' => rw [hl] at h; simp only [Option.some.injEq] at h; subst h; simp [Qaj, den, QdY B hl]
    | y x =>
      simp only [Qe0] at h
      cases hl : Qe0 l with
      | none => rw [hl] at h; cases h
      | some r' => rw [hl] at h; simp only [Option.some.injEq] at h; subst h; simp [Qaj, den, QdY B hl]
    | _ => simp [Qe0] at h
def Qgk (l : List SV) : SV :=
  match rawL l with
  | some r => .v (.agg r.toArray)
  | none => .g l
theorem Qdh (B : Pl) (l : List SV) : den B (Qgk l) = .agg (Qaj B l).toArray := by
  unfold Qgk
  cases h : rawL l with
  | some r => simp [den, Qgc B h]
  | none => simp [den]
theorem Qd5 {n : Nat → Prop} {l : List SV} (h : bdL n l) : bd n (Qgk l) := by
  unfold Qgk
  split
  · simp [bd]
  · simpa [bd] using h
def QkU (l : List SV) : SV :=
  match rawL l with
  | some r => .v (.tuple r.toArray)
  | none => .t l
theorem QkT (B : Pl) (l : List SV) : den B (QkU l) = .tuple (Qaj B l).toArray := by
  unfold QkU
  cases h : rawL l with
  | some r => simp [den, Qgc B h]
  | none => simp [den]
theorem mkTup_bd {n : Nat → Prop} {l : List SV} (h : bdL n l) : bd n (QkU l) := by
  unfold QkU
  split
  · simp [bd]
  · simpa [bd] using h
def Qbo : SV → List SV
  | .v (.agg cs) => cs.toList.map .v
  | .y (.agg cs) => cs.toList.map .y
  | .g l => l
  | x => [x]
theorem Qet (B : Pl) (x : SV) : Qaj B (Qbo x) = (den B x).cells.toList := by
  unfold Qbo
  split
  · simp [Qfr, den, Value.cells]
  · simp [denL_y, den, Value.cells]
  · simp [den, Value.cells]
  · rename_i h1 h2 h3
    cases x with
    | v x => cases x <;> simp [Qaj, den, Value.cells] ; exact absurd rfl (h1 _)
    | y x => cases x <;> simp [Qaj, den, Value.cells] ; exact absurd rfl (h2 _)
    | g l => exact absurd rfl (h3 l)
    | _ => simp [Qaj, den, Value.cells]
theorem Qfs {n : Nat → Prop} {x : SV} (h : bd n x) : bdL n (Qbo x) := by
  unfold Qbo
  split
  · exact Qhb _ _
  · exact bdL_y _ _
  · simpa [bd] using h
  · simpa [bdL] using h
def Qip : SV → Bool
  | .v x => x.oneCell'
  | .y x => x.oneCell'
  | .g _ => false
  | .t _ => false
  | _ => true
theorem QeN (B : Pl) {x : SV} (h : Qip x = true) : (den B x).oneCell' = true := by
  cases x <;> simp_all [Qip, den, Value.oneCell']
def QeE {α : Type} : List α → Nat → List α → List α
  | cs, _, [] => cs
  | cs, o, v :: r => QeE (cs.set o v) (o + 1) r
theorem QdM {α : Type} : ∀ (vs cs : List α) (o : Nat), (QeE cs o vs).length = cs.length
  | [], _, _ => rfl
  | v :: r, cs, o => by rw [QeE, QdM r]; simp
theorem QgH : ∀ (vs cs : List Value) (o : Nat), QeE cs o vs = SX.setL cs o vs
  | [], _, _ => rfl
  | v :: r, cs, o => by rw [QeE, SX.setL, QgH r]
theorem Qf9 (B : Pl) : ∀ (vs cs : List SV) (o : Nat), Qaj B (QeE cs o vs) = QeE (Qaj B cs) o (Qaj B vs)
  | [], _, _ => by simp [QeE, Qaj]
  | v :: r, cs, o => by simp only [QeE, Qaj, Qf9 B r]; simp [QaA, List.map_set]
theorem Qho {n : Nat → Prop} : ∀ {vs cs : List SV} {o : Nat}, bdL n vs → bdL n cs → bdL n (QeE cs o vs)
  | [], _, _, _, h => h
  | v :: r, cs, o, hv, h => by
    simp only [bdL] at hv
    show bdL n (QeE (cs.set o v) (o + 1) r)
    refine Qho hv.2 ?_
    simp only [QaC] at h ⊢
    intro x hx
    rcases List.mem_or_eq_of_mem_set hx with h1 | h1
    · exact h x h1
    · exact h1 ▸ hv.1
theorem Qe1 {α : Type} : ∀ (vs cs rest : List α) (o : Nat), o + vs.length ≤ cs.length → QeE (cs ++ rest) o vs = QeE cs o vs ++ rest
  | [], _, _, _, _ => rfl
  | v :: r, cs, rest, o, h => by
    simp only [List.length_cons] at h
    simp only [QeE]
    rw [List.set_append_left _ _ (by omega), Qe1 r _ rest (o + 1) (by simp; omega)]
def ldE (P : Program) (ty : TypeId) (cs : List SV) (o : Nat) : Option SV :=
  match P.underlying ty, (P.info? ty).map (·.size) with
  | some d, some n => match d.isRow with
    | true => match Nat.ble (o + n) cs.length with
      | true => some (Qgk ((cs.drop o).take n))
      | false => none
    | false => cs[o]?
  | _, _ => none
def Qay (n : Nat) : Bool := Nat.ble n 1000000000
section
variable {P : Program} {w0 : World} {F : List RF} {B : Pl} {K : Nat → Option Bx} {T : Nat → Option SV} {n : Nat} {nx : Nat → Prop} {a : Act} {w : World}
theorem QhK {b : Nat} {cs : List Value} {ty : TypeId} {o : Nat} {es : List SV} (h : w.heap[b]? = some (.cells cs.toArray ty (fzOf es cs.length))) (ho : o < cs.length) : w.frozen? ⟨b, o, none⟩ = false := by
  cases es with
  | nil => exact SX.frozen_of_heap h
  | cons a l =>
    simp only [fzOf] at h
    simp [World.frozen?, h]
    omega
theorem QdE (b : Nat) (ty : TypeId) (fr : Nat × Nat) : ∀ (vs : List Value) (o : Nat) (w : World) (cs : List Value), w.heap[b]? = some (.cells cs.toArray ty fr) → (w.setCells b o vs).heap[b]? = some (.cells (SX.setL cs o vs).toArray ty fr)
  | [], _, _, _, h => h
  | v :: r, o, w, cs, h => by
    rw [World.setCells, SX.setL]
    refine QdE b ty fr r (o + 1) _ (cs.set o v) ?_
    simp only [World.setCell, Array.getElem?_modify]
    simp [h]
theorem Re.cell (R : Re w0 F B K nx w) {i : Nat} {k : Bx} (h : K i = some k) {o : Nat} {x : SV} (hx : k.cs[o]? = some x) : w.cell? ⟨(B i).1, o, none⟩ = some (den B x) := by
  obtain ⟨_, hbk, rest, _, h2⟩ := R.bx i k h
  rw [Qcn (hbk.cell (List.getElem?_eq_some_iff.1 hx).1)] at h2
  simp only [World.cell?, h2]
  have := (List.getElem?_eq_some_iff.1 hx).1
  have e := (List.getElem?_eq_some_iff.1 hx).2
  simp [QaA, List.getElem?_append_left, this, e]
theorem Re.ld (R : Re w0 F B K nx w) {i : Nat} {k : Bx} (h : K i = some k) {ty : TypeId} {o : Nat} {x : SV} (hx : ldE P ty k.cs o = some x) :
    (loadVar ty ⟨(B i).1, o, none⟩).run P w = .ok (den B x) w ∧ bd nx x := by
  have hb := (R.bx i k h).2.1.1
  unfold ldE at hx
  cases hu : P.underlying ty with
  | none => rw [hu] at hx; simp at hx
  | some d =>
    cases hi : (P.info? ty).map (·.size) with
    | none => rw [hu, hi] at hx; simp at hx
    | some n =>
      rw [hu, hi] at hx
      simp only at hx
      cases hd : d.isRow with
      | true =>
        rw [hd] at hx; simp only at hx
        cases hn : Nat.ble (o + n) k.cs.length with
        | false => rw [hn] at hx; cases hx
        | true =>
          rw [hn] at hx
          simp only [Option.some.injEq] at hx
          subst hx
          have hn' : o + n ≤ k.cs.length := by simpa using hn
          have hbt : bdL nx ((k.cs.drop o).take n) := by
            simp only [QaC] at hb ⊢
            exact fun x hx => hb x (List.mem_of_mem_drop (List.mem_of_mem_take hx))
          refine ⟨?_, Qd5 hbt⟩
          rw [Qdh]
          refine run_loadVar_mid w (B i).1 o ty _ d ?_ hu hd ?_
          · intro j x hj
            rw [QaA, List.getElem?_map] at hj
            cases hq : ((k.cs.drop o).take n)[j]? with
            | none => rw [hq] at hj; cases hj
            | some y =>
              rw [hq] at hj
              simp only [Option.map_some, Option.some.injEq] at hj
              subst hj
              refine R.cell h ?_
              rw [List.getElem?_take] at hq
              split at hq
              · rw [List.getElem?_drop] at hq; exact hq
              · cases hq
          · rw [hi, Qab]; simp; omega
      | false =>
        rw [hd] at hx; simp only at hx
        have hagg : (isAgg ty).run P w = .ok false w := by
          unfold isAgg
          rw [Sem.run_bind, run_underlying hu w]
          cases d <;> simp_all
        refine ⟨?_, QaC.1 hb x (List.mem_of_getElem? hx)⟩
        unfold loadVar
        rw [Sem.run_bind, hagg]
        simp only [Result.andThen_ok, Bool.false_eq_true, if_false]
        simp only [load, Sem.run, R.cell h hx]
theorem Re.store (R : Re w0 F B K nx w) {i o : Nat} {k : Bx} (hk : K i = some k) {vs : List SV} (hv : bdL nx vs) (ho : o + vs.length ≤ k.cs.length) :
    Re w0 F B (QbO K i (some ⟨k.ty, QeE k.cs o vs, k.sz, k.mp, k.es⟩)) nx (w.setCells (B i).1 o (Qaj B vs)) := by
  obtain ⟨h1, h2, h3, h4, h5⟩ := SX.setCells_os (B i).1 (Qaj B vs) o w
  obtain ⟨hi, hkb, rest, hrl, hh⟩ := R.bx i k hk
  cases hm : k.mp with
  | true =>
    have hcs := (hkb.2 hm).1
    have hv0 : vs = [] := by
      rw [hcs] at ho
      cases vs with
      | nil => rfl
      | cons a l => exact absurd ho (by simp)
    subst hv0
    have e : QbO K i (some ⟨k.ty, QeE k.cs o [], k.sz, true, k.es⟩) = K := by
      funext j
      unfold QbO
      by_cases e : j = i
      · rw [if_pos e, e, hk, ← hm]; rfl
      · rw [if_neg e]
    rw [e]
    exact R
  | false =>
  rw [Qcn hm] at hh
  refine ⟨fun j k' h => ?_, fun p q kp kq hp hq he => ?_, fun j k' h => ?_, fun f hf => ?_, ?_⟩
  · unfold QbO at h
    by_cases e : j = i
    · subst e; simp at h; subst h
      refine ⟨hi, ⟨Qho hv hkb.1, fun e => by cases e⟩, rest, by simpa [Qe5, QdM] using hrl, ?_⟩
      have hl : (Qaj B (QeE k.cs o vs) ++ rest).length = (Qaj B k.cs ++ rest).length := by simp [Qab, QdM]
      rw [Qcn rfl]
      simp only []
      rw [hl]
      have := QdE (B j).1 k.ty _ (Qaj B vs) o w _ hh
      rw [this, ← QgH, Qe1 _ _ _ _ (by rw [Qab, Qab]; exact ho), Qf9]
    · rw [if_neg e] at h
      obtain ⟨g1, g2, rest', g4, g3⟩ := R.bx j k' h
      exact ⟨g1, g2, rest', g4, by rw [h5 _ (fun he => e (R.nd j i _ _ h hk he))]; exact g3⟩
  · unfold QbO at hp hq
    have : ∀ j k', QbO K i (some ⟨k.ty, QeE k.cs o vs, k.sz, false, k.es⟩) j = some k' → ∃ k'', K j = some k'' := fun j k' h => by
      unfold QbO at h
      by_cases e : j = i
      · subst e; exact ⟨_, hk⟩
      · rw [if_neg e] at h; exact ⟨_, h⟩
    obtain ⟨_, g1⟩ := this p kp hp
    obtain ⟨_, g2⟩ := this q kq hq
    exact R.nd p q _ _ g1 g2 he
  · unfold QbO at h
    by_cases e : j = i
    · subst e; exact R.lo _ _ hk
    · rw [if_neg e] at h; exact R.lo _ _ h
  · obtain ⟨g1, g2⟩ := R.fs f hf
    refine ⟨f.st w _ g1 (fun b hb => h5 b (fun he => g2 i k hk (he ▸ hb))), fun j k' h => ?_⟩
    unfold QbO at h
    by_cases e : j = i
    · subst e; exact g2 _ _ hk
    · rw [if_neg e] at h; exact g2 _ _ h
  · have g := R.gr.1
    refine ⟨⟨h1.trans g.os, h2.trans g.tape, h3.trans g.output, by rw [h4]; exact g.size, fun b hb hne => ?_⟩, R.gr.2⟩
    rw [h5 b ?_]
    · exact g.block b hb hne
    · intro he
      have := R.lo i k hk
      omega
def stE (P : Program) (ty : TypeId) (cs : List SV) (o : Nat) (x : SV) : Option (List SV) :=
  match (P.info? ty).map (·.size) with
  | some n => match Nat.beq (Qbo x).length n && Nat.ble (o + n) cs.length && (Qbo x).all Qip with
    | true => some (QeE cs o (Qbo x))
    | false => none
  | none => none
theorem Re.st (R : Re w0 F B K nx w) {i o : Nat} {k : Bx} (hk : K i = some k) {ty : TypeId} {x : SV} (hb : bd nx x) {cs' : List SV} (h : stE P ty k.cs o x = some cs') :
    ∃ w', (storeVar ty ⟨(B i).1, o, none⟩ (den B x)).run P w = .ok () w' ∧ Re w0 F B (QbO K i (some ⟨k.ty, cs', k.sz, k.mp, k.es⟩)) nx w' := by
  unfold stE at h
  cases hi : (P.info? ty).map (·.size) with
  | none => rw [hi] at h; cases h
  | some n =>
    rw [hi] at h
    simp only at h
    cases hc : (Nat.beq (Qbo x).length n && Nat.ble (o + n) k.cs.length && (Qbo x).all Qip) with
    | false => rw [hc] at h; cases h
    | true =>
      rw [hc] at h
      simp only [Option.some.injEq] at h
      subst h
      simp only [Bool.and_eq_true, List.all_eq_true] at hc
      obtain ⟨⟨h1, h2⟩, h3⟩ := hc
      replace h1 := Nat.eq_of_beq_eq_true h1
      have h2' : o + n ≤ k.cs.length := by simpa using h2
      have hcd := Qet B x
      have hsz : (den B x).cells.size = n := by rw [← h1, ← Qab B, hcd]; simp
      refine ⟨w.setCells (B i).1 o (Qaj B (Qbo x)), ?_, R.store hk (Qfs hb) (by omega)⟩
      obtain ⟨_, hbk, rest, _, hh⟩ := R.bx i k hk
      have hs := run_storeCells_cells (P := P) (B i).1 o (Qaj B (Qbo x)) 0 w (fun j hj => by
        rw [Qab] at hj
        rw [Nat.add_zero, R.cell hk (List.getElem?_eq_getElem (by omega))]; rfl) (fun j hj => by
          rw [Qab] at hj
          rw [Qcn (hbk.cell (o := o + j) (by omega))] at hh
          exact QhK hh (by rw [List.length_append, Qab]; omega)) (fun y hy => by
          rw [QaA] at hy
          obtain ⟨z, hz, rfl⟩ := List.mem_map.1 hy
          exact QeN B (h3 z hz))
      simp only [Nat.add_zero] at hs
      simp only [storeVar, Sem.run_bind, SX.run_info hi, Result.andThen_ok, hsz, ne_eq, not_true_eq_false, if_false, Sem.run_pure]
      rw [← hcd]
      exact hs
end
structure Mm where
  K : Tr Bx
  nx : Nat
  lg : List Nat
def Mm.new (m : Mm) (k : Bx) : Mm := ⟨m.K.set m.nx (some k), m.nx + 1, m.lg⟩
def Mm.upd (m : Mm) (i : Nat) (k : Bx) : Mm := ⟨m.K.set i (some k), m.nx, i :: m.lg⟩
theorem small {n : Nat} (h : Qay n = true) : n + 1 < 2 ^ 40 := by
  have : n ≤ 1000000000 := by simpa [Qay] using h
  omega
theorem Tr.get_set {α : Type} {t : Tr α} {n : Nat} {x : Option α} (h : Qay n = true) : (t.set n x).get = QbO t.get n x := by
  funext k
  exact Tr.get_put t n k x (small h)
abbrev Rho := Operand → Option SV
def QjE (ρ : Rho) (x : Operand) : Value :=
  match ρ x with
  | some (.v y) => y
  | some (.y y) => y
  | some (.g l) => match Qe0 l with
    | some r => .agg r.toArray
    | none => undef
  | _ => undef
def isVE (ρ : Rho) (x : Operand) : Bool :=
  match ρ x with
  | some (.v _) => true
  | _ => false
def isYE (ρ : Rho) (x : Operand) : Bool :=
  match ρ x with
  | some (.v _) => true
  | some (.y _) => true
  | some (.g l) => (Qe0 l).isSome
  | _ => false
def Qa4 (P : Program) (ρ : Rho) (o : Oper) : Option SV :=
  match SX.notSel o.op with
  | true => match o.op.operands.toList.all (isVE ρ) with
    | true => match SX.pev P (execOp (QjE ρ) o) with
      | some (.value x) => some (.v x)
      | _ => none
    | false => match o.op.operands.toList.all (isYE ρ) with
      | true => match SX.pev P (execOp (QjE ρ) o) with
        | some (.value x) => some (.y x)
        | _ => none
      | false => none
  | false => none
def Qdb (ρ : Rho) : List Operand → Option (List SV)
  | [] => some []
  | x :: r => match ρ x, Qdb ρ r with
    | some v, some l => some (v :: l)
    | _, _ => none
def Qgi : SV → Option Nat
  | .v (.int _ (.ofNat n)) => some n
  | _ => none
def Qfp (place : Nat → Option (Nat × Nat)) : List SV → List (Nat × SV) → Option (List SV)
  | cells, [] => some cells
  | cells, (i, v) :: rest => match place i with
    | none => none
    | some (off, size) => match Nat.beq (Qbo v).length size && Nat.ble (off + (Qbo v).length) cells.length with
      | true => Qfp place (QeE cells off (Qbo v)) rest
      | false => none
theorem QfT (off : Nat) : ∀ (l : List Value) (j : Nat) (cs : Array Value), ((l.zipIdx j).foldl (fun cs (c, j) => cs.setIfInBounds (off + j) c) cs).toList = QeE cs.toList (off + j) l
  | [], _, _ => rfl
  | v :: l, j, cs => by
    simp only [List.zipIdx_cons, List.foldl_cons]
    rw [QfT off l (j + 1)]
    simp only [QeE, Array.toList_setIfInBounds]
    rfl
theorem Qec (B : Pl) {place : Nat → Option (Nat × Nat)} : ∀ (parts : List (Nat × SV)) {cells r : List SV}, Qfp place cells parts = some r →
    Instr.fill place (Qaj B cells).toArray (parts.map fun q => (q.1, den B q.2)) = some (Qaj B r).toArray
  | [], cells, r, h => by simp [Qfp] at h; subst h; rfl
  | (i, v) :: rest, cells, r, h => by
    simp only [Qfp] at h
    simp only [List.map_cons, Instr.fill]
    cases hp : place i with
    | none => rw [hp] at h; cases h
    | some q =>
      obtain ⟨off, size⟩ := q
      rw [hp] at h
      simp only at h
      cases hc : (Nat.beq (Qbo v).length size && Nat.ble (off + (Qbo v).length) cells.length) with
      | false => rw [hc] at h; cases h
      | true =>
        rw [hc] at h
        simp only at h
        simp only [Bool.and_eq_true] at hc
        obtain ⟨h1, h2⟩ := hc
        replace h1 := Nat.eq_of_beq_eq_true h1
        have h2' : off + (Qbo v).length ≤ cells.length := by simpa using h2
        have hcd := Qet B v
        have hsz : (den B v).cells.size = (Qbo v).length := by rw [← Qab B, hcd]; simp
        have hf : ((den B v).cells.zipIdx.foldl (fun cs (c, j) => cs.setIfInBounds (off + j) c) (Qaj B cells).toArray) = (Qaj B (QeE cells off (Qbo v))).toArray := by
          apply Array.ext'
          rw [← Array.foldl_toList]
          have := QfT off (den B v).cells.toList 0 (Qaj B cells).toArray
          simp only [Array.toList_zipIdx]
          rw [this, Qf9, hcd]
          rfl
        simp only [hsz, h1, ne_eq, not_true_eq_false, decide_false, Bool.false_or, List.size_toArray, Qab]
        rw [if_neg (by simp; omega)]
        rw [hf]
        exact Qec B rest h
theorem QeT {n : Nat → Prop} {place : Nat → Option (Nat × Nat)} : ∀ (parts : List (Nat × SV)) {cells r : List SV}, Qfp place cells parts = some r → bdL n cells → (∀ q ∈ parts, bd n q.2) → bdL n r
  | [], cells, r, h, hc, _ => by simp [Qfp] at h; subst h; exact hc
  | (i, v) :: rest, cells, r, h, hcl, hp => by
    simp only [Qfp] at h
    cases hp' : place i with
    | none => rw [hp'] at h; cases h
    | some q =>
      obtain ⟨off, size⟩ := q
      rw [hp'] at h
      simp only at h
      cases hc : (Nat.beq (Qbo v).length size && Nat.ble (off + (Qbo v).length) cells.length) with
      | false => rw [hc] at h; cases h
      | true =>
        rw [hc] at h
        exact QeT rest h (Qho (Qfs (hp (i, v) (by simp))) hcl) (fun q hq => hp q (List.mem_cons_of_mem _ hq))
end Go.Proofs.Ytfhmdlihnidjoaa.EX
