
/-
  Layer 4: tools of the walk, collected from other layers' texts.
-/
import Derived.Test.YtfkmcibglaiakaaDoorRows
import Derived.Test.YtfkmcibglaiakaaDoorBase
import Derived.Test.YtfkmcibglaiakaaDoorAux
import Derived.Test.YtfkmcibglaiakaaDoorZs
import Derived.Test.YtfkmcibglaiakaaDoorZu
import Derived.Deep.Upon
import Derived.Laws.CopyOwn
import Derived.Laws.IdiomStrings
import Derived.Lib.AppendStr
import Derived.WalkKit
namespace Go.Proofs.YtfkmcibglaiakaaDoor.SZ
open Go Go.RowKit
set_option linter.unusedVariables false
set_option linter.unusedSectionVars false
set_option linter.unusedSimpArgs false
set_option maxRecDepth 10000
section
variable [DF]
variable {P : Program} {w0 : World} {r : List Nat} {bs : List Nat} {s : SS} {F : List RF} {a : Act} {w : World}
theorem sy_exB {c : Cfg} {op : Op} {ty : TypeId} {C : Value → World → Prop} (S : Sy w0 r bs c.s F a w) (ho : (headV c).map (fun o => (o.op, o.type)) = some (op, ty))
    (hr : ∀ (o : Oper) (ρ : Operand → Value), o.op = op → o.type = ty → (∀ x y, c.s.val x = some y → ρ x = den bs y) → ∃ v w', (execOp ρ o).run P w = .ok (.value v) w' ∧ C v w' ∧ Below w.heap.size w w') {Q : Exit → Act → World → Prop}
    (h : ∀ v a' w', C v w' → Below w.heap.size w w' → Sy w0 r bs (aftC c (.v v)).s F a' w' → post P (aftC c (.v v)).k Q .normal a' w') : post P c.k Q .normal a w := by
  obtain ⟨k, s⟩ := c
  match k with
  | .ops all (o :: l) :: k =>
    show wpList P all (post P k Q) (o :: l) a w
    refine wpList_step fun K hK => ?_
    unfold headV at ho
    simp only at ho
    cases hw : wantS s all o with
    | none => rw [hw] at ho; simp at ho
    | some b' =>
      rw [hw] at ho
      cases b' with
      | false => simp at ho
      | true =>
        simp only [Option.map_some, Option.some.injEq, Prod.mk.injEq] at ho
        rw [wantS_sound S hw, if_pos rfl]
        unfold Oper.wp
        obtain ⟨v, w', h1, h2, h3⟩ := hr o a.eval ho.1 ho.2 (fun x y hx => (S.val hx).1)
        rw [h1, Oper.upon_value]
        exact hK _ _ (h v _ w' h2 h3 ((S.below h3).put o.dst (x := .v v) trivial))
  | [] => simp [headV] at ho
  | .code _ :: _ => simp [headV] at ho
  | .blk _ :: _ => simp [headV] at ho
  | .rnd _ _ :: _ => simp [headV] at ho
  | .ops _ [] :: _ => simp [headV] at ho
/-- Append to an own row; where the new row lies. -/
theorem sy_appO {c : Cfg} (B0 : Nat) {u y : SV} {v : Value} {ad : Addr} {m cp n size bytes : Nat} {e t : TypeId} {xs news : List Value} {info : TypeInfo} {z : Value} (F' : List RF)
    (S : Sy w0 r bs c.s F a w) (hh : headApp c = some (u, y, t)) (ht : P.underlying t = some (.slice e)) (hi : P.info? e = some info) (hz : info.zero = some z)
    (hsize : info.size = size) (hby : info.bytes = bytes) (hzs : z.cells.size = size) (hsz : 0 < size)
    (hu : den bs u = v) (hy : den bs y = .slice (some ad) m cp) (hown : w.ownsRow B0 e size v n xs) (hB1 : B0 ≤ w.heap.size)
    (hnews : ∀ j x, news[j]? = some x → w.cell? (ad.add j) = some x) (hl : news.length = m * size) (h1 : ∀ u ∈ news, u.oneCell' = true)
    (h63 : n + m ≤ maxLen) (hbytes : (n + m) * bytes ≤ 140737488355328) (h0 : ∀ g, v.ownBlock = some g → g ∈ r ∨ w0.heap.size ≤ g)
    (hF : ∀ f ∈ F', f ∈ F ∧ ∀ g, v.ownBlock = some g → ¬f.bl g) (hn : ∀ i, i < bs.length → v.ownBlock ≠ some (bs.getD i 0)) {Q : Exit → Act → World → Prop}
    (h : ∀ v' a' w', w'.ownsRow B0 e size v' (n + m) (xs ++ news) → w.grownBy w' v.ownBlock → (∀ g, v'.ownBlock = some g → v.ownBlock = some g ∨ w.heap.size ≤ g) → Sy w0 r bs (aftC c (.v v')).s F' a' w' → post P (aftC c (.v v')).k Q .normal a' w') : post P c.k Q .normal a w := by
  obtain ⟨k, s⟩ := c
  match k, hh with
  | .ops all (o :: l) :: k, hh =>
    obtain ⟨hw, x, yy, hop, hx1, hy1⟩ := app_op S hh
    show wpList P all (post P k Q) (o :: l) a w
    refine wpList_step fun K hKk => ?_
    rw [if_pos hw]
    subst hsize
    subst hby
    obtain ⟨v', w', hr, hv', hg, hnn⟩ := app_at (P := P) (ty := o.type) ht hi hz hzs hsz hown (cp := cp) hl hnews h1 h63 hbytes hB1
    have hex : (execOp a.eval o).run P w = .ok (.value v') w' := by
      unfold execOp
      simp only [hop, resolve, invoke, builtin, Sem.run_bind, Sem.run_pure, Result.andThen_ok, List.map_toArray, List.map_cons, List.map_nil, hx1, hy1, hu, hy, hr]
    unfold Oper.wp
    rw [hex, Oper.upon_value]
    exact hKk _ _ (h v' _ w' hv' hg hnn ((S.grownO hg h0 hF hn).put o.dst (x := .v v') trivial))
theorem Sy.setBox (S : Sy w0 r bs s F a w) {i : Nat} {k k' : Bx} (hk : s.K[i]? = some k) {w' : World} (hb : w'.heap[bs.getD i 0]? = some (.cells k'.cs.toArray k'.ty (0, 0))) (hg : Gr w w' [bs.getD i 0]) : Sy w0 r bs (s.setK i k') F a w' := by
  have hi : i < bs.length := by rw [S.bl]; exact (List.getElem?_eq_some_iff.1 hk).1
  refine ⟨S.df, S.sz, S.tm, by simp [SS.setK, S.bl], fun j q hq => ?_, S.nd, S.lo, fun f hf => ?_, ?_⟩
  · have hq' : (s.K.set i k')[j]? = some q := hq
    by_cases hj : i = j
    · subst hj
      rw [List.getElem?_set_self (by rw [← S.bl]; exact hi)] at hq'
      simp only [Option.some.injEq] at hq'
      subst hq'
      exact hb
    · rw [List.getElem?_set_ne hj] at hq'
      have hjl : j < bs.length := by rw [S.bl]; exact (List.getElem?_eq_some_iff.1 hq').1
      rw [hg.block _ (S.lt hjl) (by
        intro hm
        exact hj (S.nd j i hjl hi (List.mem_singleton.1 hm)).symm)]
      exact S.bx j q hq'
  · obtain ⟨h5, h6⟩ := S.fs f hf
    exact ⟨f.st w w' h5 fun b hbl => hg.block b (f.lt w h5 b hbl) (by
      intro hm
      exact h6 i hi ((List.mem_singleton.1 hm) ▸ hbl)), h6⟩
  · have G0 := S.gr
    refine ⟨hg.os.trans G0.os, hg.tape.trans G0.tape, hg.output.trans G0.output, Nat.le_trans G0.size hg.size, fun b hb' hne => (hg.block b (Nat.lt_of_lt_of_le hb' G0.size) ?_).trans (G0.block b hb' hne)⟩
    intro hm
    have e := List.mem_singleton.1 hm
    rcases S.lo i hi with hl | hl
    · omega
    · exact hne (e ▸ hl)
/-- An operation that changes an own variable. -/
theorem sy_exK {c : Cfg} {op : Op} {ty : TypeId} {v : Value} (i : Nat) (k k' : Bx) (hk : c.s.K[i]? = some k) (S : Sy w0 r bs c.s F a w) (ho : (headV c).map (fun o => (o.op, o.type)) = some (op, ty))
    (hr : ∀ (o : Oper) (ρ : Operand → Value), o.op = op → o.type = ty → (∀ x y, c.s.val x = some y → ρ x = den bs y) → ∃ w', (execOp ρ o).run P w = .ok (.value v) w' ∧ w'.heap[bs.getD i 0]? = some (.cells k'.cs.toArray k'.ty (0, 0)) ∧ Gr w w' [bs.getD i 0]) {Q : Exit → Act → World → Prop}
    (h : ∀ a' w', Sy w0 r bs (aftH c i k' (.v v)).s F a' w' → post P (aftH c i k' (.v v)).k Q .normal a' w') : post P c.k Q .normal a w := by
  obtain ⟨k0, s⟩ := c
  match k0 with
  | .ops all (o :: l) :: k0 =>
    show wpList P all (post P k0 Q) (o :: l) a w
    refine wpList_step fun K hK => ?_
    unfold headV at ho
    simp only at ho
    cases hw : wantS s all o with
    | none => rw [hw] at ho; simp at ho
    | some b' =>
      rw [hw] at ho
      cases b' with
      | false => simp at ho
      | true =>
        simp only [Option.map_some, Option.some.injEq, Prod.mk.injEq] at ho
        rw [wantS_sound S hw, if_pos rfl]
        unfold Oper.wp
        obtain ⟨w', h1, h2, h3⟩ := hr o a.eval ho.1 ho.2 (fun x y hx => (S.val hx).1)
        rw [h1, Oper.upon_value]
        exact hK _ _ (h _ w' ((S.setBox hk h2 h3).put o.dst (x := .v v) trivial))
  | [] => simp [headV] at ho
  | .code _ :: _ => simp [headV] at ho
  | .blk _ :: _ => simp [headV] at ho
  | .rnd _ _ :: _ => simp [headV] at ho
  | .ops _ [] :: _ => simp [headV] at ho
/-- A slice expression, its operand whatever. -/
theorem ex_sl2 {s : SS} {bs : List Nat} {x : Operand} {y : SV} {lo hi mx : Option Operand} {t ty : TypeId} {p : Value} {l2 h2 m2 : Option SV} (hx : s.val x = some y) (hp : den bs y = p) (hl : lo.map s.val = l2.map some) (hh : hi.map s.val = h2.map some) (hm : mx.map s.val = m2.map some)
    {v : Value} (hr : ∀ W, (Instr.sliceAt t p (l2.map (den bs)) (h2.map (den bs)) (m2.map (den bs))).run P W = .ok v W) :
    ∀ (o : Oper) (ρ : Operand → Value) (W : World), o.op = .slice t x lo hi mx → o.type = ty → (∀ x y, s.val x = some y → ρ x = den bs y) → (execOp ρ o).run P W = .ok (.value v) W := by
  intro o ρ W h1 h2' h3
  have e1 : ρ x = p := (h3 x _ hx).trans hp
  have e2 : lo.map ρ = l2.map (den bs) := by
    cases lo <;> cases l2 <;> simp_all
  have e3 : hi.map ρ = h2.map (den bs) := by
    cases hi <;> cases h2 <;> simp_all
  have e4 : mx.map ρ = m2.map (den bs) := by
    cases mx <;> cases m2 <;> simp_all
  unfold execOp
  simp only [h1, e1, e2, e3, e4, Sem.run_bind, Sem.run_pure, Result.andThen_ok, hr]
/-- Bytes out of a row, as a string. -/
theorem sy_exW {c : Cfg} {op : Op} {ty : TypeId} {v : Value} (S : Sy w0 r bs c.s F a w) (ho : (headV c).map (fun o => (o.op, o.type)) = some (op, ty))
    (hr : ∀ (o : Oper) (ρ : Operand → Value), o.op = op → o.type = ty → (∀ x y, c.s.val x = some y → ρ x = den bs y) → (execOp ρ o).run P w = .ok (.value v) w) {Q : Exit → Act → World → Prop}
    (h : ∀ a', Sy w0 r bs (aftC c (.v v)).s F a' w → post P (aftC c (.v v)).k Q .normal a' w) : post P c.k Q .normal a w := by
  obtain ⟨k0, s⟩ := c
  match k0 with
  | .ops all (o :: l) :: k0 =>
    show wpList P all (post P k0 Q) (o :: l) a w
    refine wpList_step fun K hK => ?_
    unfold headV at ho
    simp only at ho
    cases hw : wantS s all o with
    | none => rw [hw] at ho; simp at ho
    | some b' =>
      rw [hw] at ho
      cases b' with
      | false => simp at ho
      | true =>
        simp only [Option.map_some, Option.some.injEq, Prod.mk.injEq] at ho
        rw [wantS_sound S hw, if_pos rfl]
        unfold Oper.wp
        rw [hr o a.eval ho.1 ho.2 (fun x y hx => (S.val hx).1), Oper.upon_value]
        exact hK _ _ (h _ (S.put o.dst (x := .v v) trivial))
  | [] => simp [headV] at ho
  | .code _ :: _ => simp [headV] at ho
  | .blk _ :: _ => simp [headV] at ho
  | .rnd _ _ :: _ => simp [headV] at ho
  | .ops _ [] :: _ => simp [headV] at ho
/-- Bytes out of a row, as a string. -/
theorem sy_exE {c : Cfg} {op : Op} {ty : TypeId} {v : Value} (S : Sy w0 r bs c.s F a w) (ho : (headV c).map (fun o => (o.op, o.type)) = some (op, ty))
    (hr : ∀ (o : Oper) (ρ : Operand → Value), o.op = op → o.type = ty → (∀ x y, c.s.val x = some y → ρ x = den bs y) → (∀ g, ρ (.global g) = .pointer (some ⟨g, 0, none⟩)) → (execOp ρ o).run P w = .ok (.value v) w) {Q : Exit → Act → World → Prop}
    (h : ∀ a', Sy w0 r bs (aftC c (.v v)).s F a' w → post P (aftC c (.v v)).k Q .normal a' w) : post P c.k Q .normal a w := by
  obtain ⟨k0, s⟩ := c
  match k0 with
  | .ops all (o :: l) :: k0 =>
    show wpList P all (post P k0 Q) (o :: l) a w
    refine wpList_step fun K hK => ?_
    unfold headV at ho
    simp only at ho
    cases hw : wantS s all o with
    | none => rw [hw] at ho; simp at ho
    | some b' =>
      rw [hw] at ho
      cases b' with
      | false => simp at ho
      | true =>
        simp only [Option.map_some, Option.some.injEq, Prod.mk.injEq] at ho
        rw [wantS_sound S hw, if_pos rfl]
        unfold Oper.wp
        rw [hr o a.eval ho.1 ho.2 (fun x y hx => (S.val hx).1) (fun _ => rfl), Oper.upon_value]
        exact hK _ _ (h _ (S.put o.dst (x := .v v) trivial))
  | [] => simp [headV] at ho
  | .code _ :: _ => simp [headV] at ho
  | .blk _ :: _ => simp [headV] at ho
  | .rnd _ _ :: _ => simp [headV] at ho
  | .ops _ [] :: _ => simp [headV] at ho
/-- An operation whose value is told by a law: a slice of an own variable. -/
theorem sy_exS {c : Cfg} {op : Op} {ty : TypeId} (i o l n : Nat) (S : Sy w0 r bs c.s F a w) (hi : Nat.blt i c.s.K.length = true) (ho : (headV c).map (fun o => (o.op, o.type)) = some (op, ty))
    (hr : ∀ (o' : Oper) (ρ : Operand → Value) (W : World), o'.op = op → o'.type = ty → (∀ x y, c.s.val x = some y → ρ x = den bs y) → (execOp ρ o').run P W = .ok (.value (den bs (.s i o l n))) W) {Q : Exit → Act → World → Prop}
    (h : ∀ a', Sy w0 r bs (aftC c (.s i o l n)).s F a' w → post P (aftC c (.s i o l n)).k Q .normal a' w) : post P c.k Q .normal a w := by
  obtain ⟨k0, s⟩ := c
  match k0 with
  | .ops all (o' :: l') :: k0 =>
    show wpList P all (post P k0 Q) (o' :: l') a w
    refine wpList_step fun K hK => ?_
    unfold headV at ho
    simp only at ho
    cases hw : wantS s all o' with
    | none => rw [hw] at ho; simp at ho
    | some b' =>
      rw [hw] at ho
      cases b' with
      | false => simp at ho
      | true =>
        simp only [Option.map_some, Option.some.injEq, Prod.mk.injEq] at ho
        rw [wantS_sound S hw, if_pos rfl]
        unfold Oper.wp
        rw [hr o' a.eval w ho.1 ho.2 (fun x y hx => (S.val hx).1), Oper.upon_value]
        exact hK _ _ (h _ (S.put o'.dst (x := .s i o l n) (by show i < bs.length; rw [S.bl]; exact Nat.le_of_ble_eq_true hi)))
  | [] => simp [headV] at ho
  | .code _ :: _ => simp [headV] at ho
  | .blk _ :: _ => simp [headV] at ho
  | .rnd _ _ :: _ => simp [headV] at ho
  | .ops _ [] :: _ => simp [headV] at ho
/-- An operation told by a law that makes memory and may write to the row v. -/
theorem sy_exG {c : Cfg} {op : Op} {ty : TypeId} (v : Value) (F' : List RF) {C : Value → World → Prop} (S : Sy w0 r bs c.s F a w) (ho : (headV c).map (fun o => (o.op, o.type)) = some (op, ty))
    (hr : ∀ (o : Oper) (ρ : Operand → Value), o.op = op → o.type = ty → (∀ x y, c.s.val x = some y → ρ x = den bs y) → ∃ v' w', (execOp ρ o).run P w = .ok (.value v') w' ∧ C v' w' ∧ w.grownBy w' v.ownBlock)
    (h0 : ∀ g, v.ownBlock = some g → g ∈ r ∨ w0.heap.size ≤ g) (hF : ∀ f ∈ F', f ∈ F ∧ ∀ g, v.ownBlock = some g → ¬f.bl g) (hn : ∀ i, i < bs.length → v.ownBlock ≠ some (bs.getD i 0)) {Q : Exit → Act → World → Prop}
    (h : ∀ v' a' w', C v' w' → Sy w0 r bs (aftC c (.v v')).s F' a' w' → post P (aftC c (.v v')).k Q .normal a' w') : post P c.k Q .normal a w := by
  obtain ⟨k0, s⟩ := c
  match k0 with
  | .ops all (o :: l) :: k0 =>
    show wpList P all (post P k0 Q) (o :: l) a w
    refine wpList_step fun K hK => ?_
    unfold headV at ho
    simp only at ho
    cases hw : wantS s all o with
    | none => rw [hw] at ho; simp at ho
    | some b' =>
      rw [hw] at ho
      cases b' with
      | false => simp at ho
      | true =>
        simp only [Option.map_some, Option.some.injEq, Prod.mk.injEq] at ho
        rw [wantS_sound S hw, if_pos rfl]
        unfold Oper.wp
        obtain ⟨v', w', h1, h2, h3⟩ := hr o a.eval ho.1 ho.2 (fun x y hx => (S.val hx).1)
        rw [h1, Oper.upon_value]
        exact hK _ _ (h v' _ w' h2 ((S.grownO h3 h0 hF hn).put o.dst (x := .v v') trivial))
  | [] => simp [headV] at ho
  | .code _ :: _ => simp [headV] at ho
  | .blk _ :: _ => simp [headV] at ho
  | .rnd _ _ :: _ => simp [headV] at ho
  | .ops _ [] :: _ => simp [headV] at ho
end
section
variable {P : Program}
/-- An empty row. -/
theorem ex_bs0 {s : SS} {bs : List Nat} {w : World} {t e ty : TypeId} (ht : P.underlying t = some (.slice e)) (hi : (P.info? e).isSome = true) :
    ∀ (o : Oper) (ρ : Operand → Value), o.op = .buildSlice t 0 #[] → o.type = ty → (∀ x y, s.val x = some y → ρ x = den bs y) → ∃ v w', (execOp ρ o).run P w = .ok (.value v) w' ∧ (∃ g, v = .slice (some ⟨g, 0, none⟩) 0 0 ∧ g = w.heap.size ∧ w'.heap[g]? = some (.cells #[] e (0, 0)) ∧ w'.heap.size = w.heap.size + 1) ∧ Below w.heap.size w w' := by
  intro o ρ h1 h2 h3
  obtain ⟨ii, hii⟩ := Option.isSome_iff_exists.1 hi
  have hr : ∀ W, (Instr.buildSlice t 0 #[]).run P W = .ok (.slice (some ⟨W.heap.size, 0, none⟩) 0 0) (W.alloc (.cells #[] e)) := fun W => by
    have hf : ∀ g (f : Nat → Value), Instr.fill g (Array.map f (Array.range 0)) ([] : List (Nat × Value)) = some #[] := fun g f => by simp [Instr.fill]
    simp [Instr.buildSlice, run_underlying ht, sizeOf, typeInfo, hii, newRow, hf, newObj]
    rfl
  refine ⟨_, w.alloc (.cells #[] e), ?_, ⟨_, rfl, rfl, heap_alloc_new w _, by simp⟩, ⟨rfl, rfl, rfl, by simp, fun k hk => heap_alloc_old w _ hk⟩⟩
  unfold execOp
  have em : (#[] : Array (Nat × Operand)).map (fun q => (q.1, ρ q.2)) = #[] := by simp
  simp only [h1, em, Sem.run_bind, Sem.run_pure, Result.andThen_ok, hr]
/-- Append to an empty row: nothing. -/
theorem ex_app0 {s : SS} {bs : List Nat} {x y : Operand} {t e ty : TypeId} {b so : Option Addr} {cp : Nat} (ht : P.underlying t = some (.slice e)) (hi : (P.info? e).isSome = true) (hx : s.val x = some (.v (.slice b 0 0))) (hy : s.val y = some (.v (.slice so 0 cp))) (hso : so = none → cp = 0) :
    ∀ (o : Oper) (ρ : Operand → Value) (W : World), o.op = .call { callee := .builtin .append, args := #[x, y], argTypes := #[t, t] } → o.type = ty → (∀ x y, s.val x = some y → ρ x = den bs y) → (execOp ρ o).run P W = .ok (.value (.slice b 0 0)) W := by
  intro o ρ W h1 h2 h3
  obtain ⟨ii, hii⟩ := Option.isSome_iff_exists.1 hi
  have e1 : ρ x = .slice b 0 0 := h3 x _ hx
  have e2 : ρ y = .slice so 0 cp := h3 y _ hy
  have hr : (Builtin.append_ #[t, t] o.type #[.slice b 0 0, .slice so 0 cp]).run P W = .ok (.slice b 0 0) W := by
    refine run_append_nothing W t t o.type e ii ht hii b 0 0 (Nat.le_refl _) (.slice so 0 cp) ⟨Or.inl ⟨e, ht⟩, fun w' => ?_, ?_, ?_, by simp, by simp⟩
    · simp [Builtin.lenOf]
    · cases so <;> simp [Builtin.firstCells, loadCells, loadCellsFrom]
    · cases so <;> simp [Builtin.firstCells, loadCells, loadCellsFrom]
  unfold execOp
  simp only [h1, resolve, invoke, builtin, Sem.run_bind, Sem.run_pure, Result.andThen_ok, List.map_toArray, List.map_cons, List.map_nil, e1, e2, hr]
/-- Append to an empty row: a new row. -/
theorem ex_appN {s : SS} {bs : List Nat} {w : World} {x y : Operand} {t e ty : TypeId} {b : Option Addr} {ad : Addr} {m cp size bytes : Nat} {news : List Value} {info : TypeInfo} {z : Value} (ht : P.underlying t = some (.slice e)) (hi : P.info? e = some info) (hz : info.zero = some z) (hsize : info.size = size) (hby : info.bytes = bytes) (hzs : z.cells.size = size)
    (hx : s.val x = some (.v (.slice b 0 0))) (hb : b.isSome = true) (hy : s.val y = some (.v (.slice (some ad) m cp))) (hm : 0 < m) (hnews : ∀ j v, news[j]? = some v → w.cell? (ad.add j) = some v) (hl : news.length = m * size) (h63 : m ≤ 100000) (hbytes : m * bytes ≤ 140737488355328) :
    ∀ (o : Oper) (ρ : Operand → Value), o.op = .call { callee := .builtin .append, args := #[x, y], argTypes := #[t, t] } → o.type = ty → (∀ x y, s.val x = some y → ρ x = den bs y) → ∃ v w', (execOp ρ o).run P w = .ok (.value v) w' ∧ w'.ownsRow w.heap.size e size v m news ∧ Below w.heap.size w w' := by
  intro o ρ h1 h2 h3
  subst hsize
  subst hby
  have e1 : ρ x = .slice b 0 0 := h3 x _ hx
  have e2 : ρ y = .slice (some ad) m cp := h3 y _ hy
  obtain ⟨a0, rfl⟩ := Option.isSome_iff_exists.1 hb
  have hr := run_append_grow (P := P) w t o.type e info z ht hi hz a0 0 0 [] (by simp) (fun j v hj => by simp at hj) ad m cp news hl hnews (by omega) (by omega) (growslice_fits (by omega) (by rw [Nat.zero_add]; exact hbytes))
  refine ⟨_, w.drew.alloc (.cells (([] : List Value).toArray ++ news.toArray ++ Builtin.zeroCells z.cells (grownCap w (0 + m) 0 e - (0 + m))) e), ?_, ⟨hl, Or.inr ⟨w.heap.size, grownCap w (0 + m) 0 e, _, rfl, Nat.le_refl _, heap_alloc_new w.drew _, by simpa using grownCap_ge w (0 + m) 0 e, by exact grownCap_le_maxLen w (0 + m) 0 e (by simp only [maxLen]; omega), ?_, ?_⟩⟩, ⟨rfl, rfl, rfl, by simp, fun k hk => heap_alloc_old w.drew _ hk⟩⟩
  · unfold execOp
    simp only [h1, resolve, invoke, builtin, Sem.run_bind, Sem.run_pure, Result.andThen_ok, List.map_toArray, List.map_cons, List.map_nil, e1, e2, hr, Nat.zero_add]
  · have g1 := grownCap_ge w (0 + m) 0 e
    simp only [Array.size_append, List.size_toArray, hl, size_zeroCells, hzs, List.length_nil, Nat.zero_add] at g1 ⊢
    rw [← Nat.add_mul]
    congr 1
    omega
  · simp only [Array.toList_append, List.nil_append, ← hl]
    exact List.take_left
end
end Go.Proofs.YtfkmcibglaiakaaDoor.SZ
namespace Go.Proofs.YtfkmcibglaiakaaDoor
open Go Go.RowKit SZ
set_option linter.unusedVariables false
set_option linter.unusedSectionVars false
set_option linter.unusedSimpArgs false
set_option maxRecDepth 100000
attribute [local irreducible] post GD Nxt NxtAll
theorem sy_nm [DF] {w0 : World} {r bs : List Nat} {s : SS} {F : List RF} {a : Act} {w : World} (S : Sy w0 r bs s F a w) {G : Prop} (h : ∀ bs, Sy w0 r bs s F a w → G) : G := h bs S
theorem getD_mem {α : Type} (l : List α) (j : Nat) (z : α) (h : j < l.length) : l.getD j z ∈ l := by
  have e : l.getD j z = l[j] := by simp [List.getD, List.getElem?_eq_getElem h]
  rw [e]
  exact List.getElem_mem h
/-- What is left to be done at a loop of a text. -/
def goZ : Nat → List Nat → List It → List It
  | n + 1, ch, .code (.seq x y) :: k => goZ n ch (.code x :: .code y :: k)
  | n + 1, ch, .code (.block id c) :: k => goZ n ch (.code c :: .blk id :: k)
  | n + 1, ch, .code (.region _ _ _) :: k => goZ n ch k
  | n + 1, ch, .code .skip :: k => goZ n ch k
  | n + 1, ch, .blk _ :: k => goZ n ch k
  | n + 1, c :: ch, .code (.cond _ x y) :: k => goZ n ch (.code (if c = 1 then x else y) :: k)
  | n + 1, _ :: ch, .code (.loop _) :: k => goZ n ch k
  | _, _, k => k
theorem sy_at2 {P : Program} {k k' : List It} (he : k = k') {Q : Exit → Act → World → Prop} {a : Act} {w : World} (h : post P k' Q .normal a w) : post P k Q .normal a w := by rw [he]; exact h
def goM : Nat → Nat → List Nat → List It → List It
  | n + 1, r, ch, .code (.seq x y) :: k => goM n r ch (.code x :: .code y :: k)
  | n + 1, r, ch, .code (.block id c) :: k => goM n r ch (.code c :: .blk id :: k)
  | n + 1, r + 1, ch, .code (.region _ _ _) :: k => goM n r ch k
  | n + 1, r, ch, .code .skip :: k => goM n r ch k
  | n + 1, r, ch, .blk _ :: k => goM n r ch k
  | n + 1, r, c :: ch, .code (.cond _ x y) :: k => goM n r ch (.code (if c = 1 then x else y) :: k)
  | n + 1, r, _ :: ch, .code (.loop _) :: k => goM n r ch k
  | _, _, _, k => k
theorem bel_gr {w w' : World} (h : Gr w w' []) : Below w.heap.size w w' := ⟨h.os, h.tape, h.output, h.size, fun k hk => h.block k hk (by simp)⟩
theorem cel_of {w : World} {b o : Nat} {cs : List Value} {t : TypeId} {v : Value} (h : w.heap[b]? = some (.cells cs.toArray t (0, 0))) (hv : cs[o]? = some v) : w.cell? ⟨b, o, none⟩ = some v := by simp [World.cell?, h, hv]
def byt (s : ByteArray) (k : Nat) : Nat := (s.data.toList.getD k 0).toNat
theorem byt_ix (s : ByteArray) (k : Nat) (h : k < s.size) : (s[k]'h).toNat = byt s k := by
  have h2 : k < s.data.toList.length := by simpa using h
  unfold byt
  rw [List.getD, List.getElem?_eq_getElem h2]
  rfl
/-- A byte of a string. -/
theorem ex_ix {s : SS} {bs : List Nat} {x y : Operand} {t ty : TypeId} {p : ByteArray} {k : Nat} (ht : Tryd.prog.underlying t = some .string) (hx : s.val x = some (.v (.string p))) (hy : s.val y = some (.v (.int .i64 (k : Int)))) (hk : k < p.size) :
    ∀ (o : Oper) (ρ : Operand → Value) (W : World), o.op = .index t x y → o.type = ty → (∀ x y, s.val x = some y → ρ x = den bs y) → (execOp ρ o).run Tryd.prog W = .ok (.value (.int .u8 ((byt p k : Nat) : Int))) W := by
  intro o ρ W h1 h2 h3
  have e1 : ρ x = .string p := h3 x _ hx
  have e2 : ρ y = .int .i64 (k : Int) := h3 y _ hy
  have hr : ∀ W, (Instr.index t (.string p) (.int .i64 (k : Int))).run Tryd.prog W = .ok (.int .u8 ((byt p k : Nat) : Int)) W := fun W => by
    rw [run_index_string W t p .i64 _ ht, dif_pos ⟨by omega, by omega⟩]
    have e := byt_ix p k hk
    simp only [Int.toNat_natCast]
    rw [e]
  unfold execOp
  simp only [h1, e1, e2, Sem.run_bind, Sem.run_pure, Result.andThen_ok, hr]
theorem ex_eqI {s : SS} {bs : List Nat} {x y : Operand} {t t' ty : TypeId} {ki : IntKind} {p q : Int} {b : Bool} (hx : s.val x = some (.v (.int ki p))) (hy : s.val y = some (.v (.int ki q))) (hb : decide (p = q) = b) :
    ∀ (o : Oper) (ρ : Operand → Value) (W : World), o.op = .binOp .eql t x y t' → o.type = ty → (∀ x y, s.val x = some y → ρ x = den bs y) → (execOp ρ o).run Tryd.prog W = .ok (.value (.bool b)) W := by
  intro o ρ W h1 h2 h3
  have e1 : ρ x = .int ki p := h3 x _ hx
  have e2 : ρ y = .int ki q := h3 y _ hy
  subst hb
  have hb2 : (p == q) = decide (p = q) := rfl
  unfold execOp
  simp only [h1, e1, e2, eqGuard, binOp_eql, hb2, Sem.run_bind, Sem.run_pure, Result.andThen_ok]
  rfl
theorem ex_rem {s : SS} {bs : List Nat} {x y : Operand} {t t' ty : TypeId} {ki : IntKind} {p q r : Int} (hx : s.val x = some (.v (.int ki p))) (hy : s.val y = some (.v (.int ki q))) (hq : q ≠ 0) (hr : Int.tmod p q = r) :
    ∀ (o : Oper) (ρ : Operand → Value) (W : World), o.op = .binOp .rem t x y t' → o.type = ty → (∀ x y, s.val x = some y → ρ x = den bs y) → (execOp ρ o).run Tryd.prog W = .ok (.value (.int ki r)) W := by
  intro o ρ W h1 h2 h3
  have e1 : ρ x = .int ki p := h3 x _ hx
  have e2 : ρ y = .int ki q := h3 y _ hy
  subst hr
  unfold execOp
  simp only [h1, e1, e2, eqGuard, binOp_rem, Op.intDiv, if_neg hq, Sem.run_bind, Sem.run_pure, Result.andThen_ok]
  rfl
theorem ex_gtI {s : SS} {bs : List Nat} {x y : Operand} {t t' ty : TypeId} {ki : IntKind} {p q : Int} {b : Bool} (hx : s.val x = some (.v (.int ki p))) (hy : s.val y = some (.v (.int ki q))) (hb : decide (p > q) = b) :
    ∀ (o : Oper) (ρ : Operand → Value) (W : World), o.op = .binOp .gtr t x y t' → o.type = ty → (∀ x y, s.val x = some y → ρ x = den bs y) → (execOp ρ o).run Tryd.prog W = .ok (.value (.bool b)) W := by
  intro o ρ W h1 h2 h3
  have e1 : ρ x = .int ki p := h3 x _ hx
  have e2 : ρ y = .int ki q := h3 y _ hy
  subst hb
  unfold execOp
  simp only [h1, e1, e2, eqGuard, binOp_gtr, Sem.run_bind, Sem.run_pure, Result.andThen_ok]
  rfl
theorem ex_neI {s : SS} {bs : List Nat} {x y : Operand} {t t' ty : TypeId} {ki : IntKind} {p q : Int} {b : Bool} (hx : s.val x = some (.v (.int ki p))) (hy : s.val y = some (.v (.int ki q))) (hb : (!decide (p = q)) = b) :
    ∀ (o : Oper) (ρ : Operand → Value) (W : World), o.op = .binOp .neq t x y t' → o.type = ty → (∀ x y, s.val x = some y → ρ x = den bs y) → (execOp ρ o).run Tryd.prog W = .ok (.value (.bool b)) W := by
  intro o ρ W h1 h2 h3
  have e1 : ρ x = .int ki p := h3 x _ hx
  have e2 : ρ y = .int ki q := h3 y _ hy
  subst hb
  have hb2 : (p != q) = !decide (p = q) := rfl
  unfold execOp
  simp only [h1, e1, e2, eqGuard, binOp_neq, hb2, Sem.run_bind, Sem.run_pure, Result.andThen_ok]
  rfl
theorem ex_ltI {s : SS} {bs : List Nat} {x y : Operand} {t t' ty : TypeId} {ki : IntKind} {p q : Int} {b : Bool} (hx : s.val x = some (.v (.int ki p))) (hy : s.val y = some (.v (.int ki q))) (hb : decide (p < q) = b) :
    ∀ (o : Oper) (ρ : Operand → Value) (W : World), o.op = .binOp .lss t x y t' → o.type = ty → (∀ x y, s.val x = some y → ρ x = den bs y) → (execOp ρ o).run Tryd.prog W = .ok (.value (.bool b)) W := by
  intro o ρ W h1 h2 h3
  have e1 : ρ x = .int ki p := h3 x _ hx
  have e2 : ρ y = .int ki q := h3 y _ hy
  subst hb
  unfold execOp
  simp only [h1, e1, e2, eqGuard, binOp_lss, Sem.run_bind, Sem.run_pure, Result.andThen_ok]
  rfl
theorem ex_geI {s : SS} {bs : List Nat} {x y : Operand} {t t' ty : TypeId} {ki : IntKind} {p q : Int} {b : Bool} (hx : s.val x = some (.v (.int ki p))) (hy : s.val y = some (.v (.int ki q))) (hb : decide (p ≥ q) = b) :
    ∀ (o : Oper) (ρ : Operand → Value) (W : World), o.op = .binOp .geq t x y t' → o.type = ty → (∀ x y, s.val x = some y → ρ x = den bs y) → (execOp ρ o).run Tryd.prog W = .ok (.value (.bool b)) W := by
  intro o ρ W h1 h2 h3
  have e1 : ρ x = .int ki p := h3 x _ hx
  have e2 : ρ y = .int ki q := h3 y _ hy
  subst hb
  unfold execOp
  simp only [h1, e1, e2, eqGuard, binOp_geq, Sem.run_bind, Sem.run_pure, Result.andThen_ok]
  rfl
/-- A row of the walk's own, given away. -/
theorem owns_row {w : World} {B e g n : Nat} {xs : List Value} (h : w.heap[g]? = some (.cells xs.toArray e (0, 0))) (hn : xs.length = n) (hB : B ≤ g) (hm : n ≤ maxLen) : w.ownsRow B e 1 (.slice (some ⟨g, 0, none⟩) n n) n xs :=
  ⟨by omega, Or.inr ⟨g, n, _, rfl, hB, h, Nat.le_refl _, hm, by simp [hn], by simp [← hn]⟩⟩
theorem parts3 {t : TypeId} {z : Value} {n b : Nat} (h : (Tryd.prog.info? t).map (fun i => (i.zero, i.size, i.bytes)) = some (some z, n, b)) : ∃ ii, Tryd.prog.info? t = some ii ∧ ii.zero = some z ∧ ii.size = n ∧ ii.bytes = b := by
  cases hi : Tryd.prog.info? t with
  | none => rw [hi] at h; cases h
  | some i =>
    rw [hi] at h
    simp only [Option.map_some, Option.some.injEq, Prod.mk.injEq] at h
    exact ⟨i, rfl, h.1, h.2.1, h.2.2⟩
theorem own3 {P : Program} {w0 w : World} {r bs : List Nat} {s : SS} {F : List RF} {a : Act} {ty : TypeId} {cs : List Value} (S : Sy w0 r bs s F a w) (i : Nat) (hK : s.K[i]? = some ⟨ty, cs⟩) : ∀ k x, cs[k]? = some x → w.cell? ((adr bs i 0).add k) = some x := fun k x hx => by
  have ea : (adr bs i 0).add k = ⟨bs.getD i 0, 0 + k, none⟩ := by unfold Addr.add adr; split <;> simp_all
  rw [ea, Nat.zero_add]
  exact cel_of (S.bx i _ hK) hx
/-- The bytes of a string. -/
def bytesOf (s : ByteArray) : List Nat := s.data.toList.map fun b => b.toNat
theorem bytesOf_length (s : ByteArray) : (bytesOf s).length = s.size := by simp [bytesOf]
/-- The string of these bytes. -/
def strOf (l : List Nat) : ByteArray := ⟨(l.map UInt8.ofNat).toArray⟩
theorem bytesOf_strOf (l : List Nat) (hl : ∀ b ∈ l, b < 256) : bytesOf (strOf l) = l := by
  unfold bytesOf strOf
  simp only [List.map_map]
  have : ∀ b ∈ l, ((fun b : UInt8 => b.toNat) ∘ UInt8.ofNat) b = b := fun b hb => by
    simp only [Function.comp]
    exact UInt8.toNat_ofNat_of_lt' (by have := hl b hb; simpa using this)
  rw [List.map_congr_left this]; simp
theorem strOf_inj {l m : List Nat} (hl : ∀ b ∈ l, b < 256) (hm : ∀ b ∈ m, b < 256) (h : strOf l = strOf m) : l = m := by
  rw [← bytesOf_strOf l hl, ← bytesOf_strOf m hm, h]
theorem strOf_bytesOf (s : ByteArray) : strOf (bytesOf s) = s := by
  unfold strOf bytesOf
  simp only [List.map_map]
  have : ∀ b ∈ s.data.toList, (UInt8.ofNat ∘ fun b : UInt8 => b.toNat) b = b := fun b _ => by simp [Function.comp]
  rw [List.map_congr_left this]; simp
theorem strOf_app (a b : List Nat) : strOf a ++ strOf b = strOf (a ++ b) := by
  apply ByteArray.ext
  rw [ByteArray.data_append]
  simp [strOf]
end Go.Proofs.YtfkmcibglaiakaaDoor
