/-
  Merged: DkC, Dk5, Dk6, DkR, WlD
-/
import Derived.Test.YtfhmdlihnidjoaaRows
import Derived.Test.YtfhmdlihnidjoaaPd2
import Derived.Test.YtfhmdlihnidjoaaPd9
import Derived.WalkKit
import Derived.WalkLawsBesides
import Derived.Test.YtfhmdlihnidjoaaPd3
import Derived.Deep.Upon
import Derived.Laws.CopyOwn
import Derived.Laws.IdiomStrings
import Derived.Lib.AppendStr
namespace Go.Proofs.Ytfhmdlihnidjoaa
set_option linter.unusedVariables false
set_option linter.unusedSectionVars false
set_option linter.unusedSimpArgs false
set_option maxRecDepth 100000
set_option maxHeartbeats 4000000
open Go.ChangeShapes Go.WideShapes Go.ChangeAt Go.RowKit

end Go.Proofs.Ytfhmdlihnidjoaa
namespace Go.Proofs.Ytfhmdlihnidjoaa
set_option linter.unusedVariables false
set_option linter.unusedSectionVars false
set_option linter.unusedSimpArgs false
set_option maxRecDepth 100000
open Go Go.RowKit SZ
attribute [local irreducible] post GD Nxt Qaq
theorem Qlu {w : World} {b o : Nat} {cs : List Value} {t : TypeId} {v : Value} (h : w.heap[b]? = some (.cells cs.toArray t (0, 0))) (hv : cs[o]? = some v) : w.cell? ⟨b, o, none⟩ = some v := by simp [World.cell?, h, hv]
def wstep (n : Nat) (x : List ByteArray × List (Int × ByteArray) × List (Int × ByteArray)) (c : Nat) : List ByteArray × List (Int × ByteArray) × List (Int × ByteArray) :=
  if c = 255 then (x.1, [], x.2.2) else (x.1.set (c % n) (Qju (c : Int)), x.2.1 ++ [(((c % n : Nat) : Int), x.1.getD (c % n) ByteArray.empty)], x.2.2 ++ [(((c % n : Nat) : Int), Qju (c : Int))])
def wall (n : Nat) (l : List Nat) : List ByteArray × List (Int × ByteArray) × List (Int × ByteArray) := l.foldl (wstep n) (List.replicate n z32, [], [])
theorem own3 {P : Program} {w0 w : World} {r bs : List Nat} {s : SS} {F : List RF} {a : Act} {ty : TypeId} {cs : List Value} (S : Sy w0 r bs s F a w) (i : Nat) (hK : s.K[i]? = some ⟨ty, cs⟩) : ∀ k x, cs[k]? = some x → w.cell? ((adr bs i 0).add k) = some x := fun k x hx => by
  have ea : (adr bs i 0).add k = ⟨bs.getD i 0, 0 + k, none⟩ := by unfold Addr.add adr; split <;> simp_all
  rw [ea, Nat.zero_add]
  exact Qlu (S.bx i _ hK) hx
structure WI (w0 : World) (k : Nat) (l : List Nat) (i : Nat) (d : Dk) (D : List (Int × ByteArray)) : Prop where
  ok : d.ok
  sl : d.sl = k + 1
  tc : d.tc ≤ 9223372036854775807
  eq : wall (k + 1) (l.take i) = (d.S, d.W, D)
  tl : d.tl ≤ i
  dl : D.length ≤ i
  hb : w0.heap.size ≤ d.b ∧ (d.W.length = 0 ∨ w0.heap.size ≤ d.c)
end Go.Proofs.Ytfhmdlihnidjoaa
namespace Go.Proofs.Ytfhmdlihnidjoaa.SZ
set_option linter.unusedVariables false
set_option linter.unusedSectionVars false
set_option linter.unusedSimpArgs false
set_option maxRecDepth 100000
open Go Go.RowKit
section
variable [DF]
variable {P : Program} {w0 : World} {r : List Nat} {bs : List Nat} {s : SS} {F : List RF} {a : Act} {w : World}
theorem QjT {c : Cfg} {op : Op} {ty : TypeId} {C : Value → World → Prop} (S : Sy w0 r bs c.s F a w) (ho : (Qa3 c).map (fun o => (o.op, o.type)) = some (op, ty))
    (hr : ∀ (o : Oper) (ρ : Operand → Value), o.op = op → o.type = ty → (∀ x y, c.s.val x = some y → ρ x = den bs y) → ∃ v w', (execOp ρ o).run P w = .ok (.value v) w' ∧ C v w' ∧ Below w.heap.size w w') {Q : Exit → Act → World → Prop}
    (h : ∀ v a' w', C v w' → Below w.heap.size w w' → Sy w0 r bs (QdU c (.v v)).s F a' w' → post P (QdU c (.v v)).k Q .normal a' w') : post P c.k Q .normal a w := by
  obtain ⟨k, s⟩ := c
  match k with
  | .ops all (o :: l) :: k =>
    show wpList P all (post P k Q) (o :: l) a w
    refine wpList_step fun K hK => ?_
    unfold Qa3 at ho
    simp only at ho
    cases hw : QaR s all o with
    | none => rw [hw] at ho; simp at ho
    | some b' =>
      rw [hw] at ho
      cases b' with
      | false => simp at ho
      | true =>
        simp only [Option.map_some, Option.some.injEq, Prod.mk.injEq] at ho
        rw [Qaj S hw, if_pos rfl]
        unfold Oper.wp
        obtain ⟨v, w', h1, h2, h3⟩ := hr o a.eval ho.1 ho.2 (fun x y hx => (S.val hx).1)
        rw [h1, Oper.upon_value]
        exact hK _ _ (h v _ w' h2 h3 ((S.below h3).put o.dst (x := .v v) trivial))
  | [] => simp [Qa3] at ho
  | .code _ :: _ => simp [Qa3] at ho
  | .blk _ :: _ => simp [Qa3] at ho
  | .rnd _ _ :: _ => simp [Qa3] at ho
  | .ops _ [] :: _ => simp [Qa3] at ho
end
section
variable [DF] [KP] [HF]
variable {P : Program} {w0 : World} {r : List Nat} {B : List Nat} {ro bs : List Nat} {QQ : Exit → Act → World → Prop} [PInv QQ] {c : Cfg} {d : DC} {F : List RF} {a : Act} {w : World}
theorem QfV (i : Nat) {op : Op} {ty : TypeId} {C : Value → World → Prop} (D : Sd w0 r B c.s.K ro bs d.s F a w) (hs : Region.noSelect (QaS c) = true)
    (ho : (((QaS c)[i]?).bind fun o => Qa3 ⟨[.ops (QaS c) [o]], d.s⟩).map (fun o => (o.op, o.type)) = some (op, ty))
    (hr : ∀ (o : Oper) (ρ : Operand → Value), o.op = op → o.type = ty → (∀ x y, d.s.val x = some y → ρ x = den bs y) → ∃ v w', (execOp ρ o).run P w = .ok (.value v) w' ∧ C v w' ∧ Below w.heap.size w w')
    (h : ∀ v a' w', C v w' → Below w.heap.size w w' → (∀ j, j < bs.length → bs.getD j 0 < w.heap.size) → Sd w0 r B c.s.K ro bs (dV P c ro d i (.v v)).s F a' w' → GD P c QQ B ro (dV P c ro d i (.v v)) a' w') : Nxt P (QaS c) (PQ P (kD c) QQ) (Qcg B c.s.K ro) d.pred d.lst a w i := by
  cases ho2 : (QaS c)[i]? with
  | none => rw [ho2] at ho; cases ho
  | some o =>
    rw [ho2] at ho
    simp only [Option.bind_some, Qa3] at ho
    cases hw : QaR d.s (QaS c) o with
    | none => rw [hw] at ho; simp at ho
    | some b' =>
      rw [hw] at ho
      cases b' with
      | false => simp at ho
      | true =>
        simp only [Option.map_some, Option.some.injEq, Prod.mk.injEq] at ho
        obtain ⟨v, w', h1, h2, h3⟩ := hr o a.eval ho.1 ho.2 (fun x y hx => (D.S.val hx).1)
        exact nx_runB i D hs ho2 (Qaj D.S hw) (C := C) ⟨v, w', h1, h2, h3⟩ h
end
section
variable [DF]
variable {P : Program} {w0 : World} {r : List Nat} {bs : List Nat} {s : SS} {F : List RF} {a : Act} {w : World}
theorem QeT {c : Cfg} (B0 : Nat) {u y : SV} {v : Value} {ad : Addr} {m cp n size bytes : Nat} {e t : TypeId} {xs news : List Value} {info : TypeInfo} {z : Value} (F' : List RF)
    (S : Sy w0 r bs c.s F a w) (hh : Qet c = some (u, y, t)) (ht : P.underlying t = some (.slice e)) (hi : P.info? e = some info) (hz : info.zero = some z)
    (hsize : info.size = size) (hby : info.bytes = bytes) (hzs : z.cells.size = size) (hsz : 0 < size)
    (hu : den bs u = v) (hy : den bs y = .slice (some ad) m cp) (hown : w.ownsRow B0 e size v n xs) (hB1 : B0 ≤ w.heap.size)
    (hnews : ∀ j x, news[j]? = some x → w.cell? (ad.add j) = some x) (hl : news.length = m * size) (h1 : ∀ u ∈ news, u.oneCell' = true)
    (h63 : n + m ≤ maxLen) (hbytes : (n + m) * bytes ≤ 140737488355328) (h0 : ∀ g, v.ownBlock = some g → g ∈ r ∨ w0.heap.size ≤ g)
    (hF : ∀ f ∈ F', f ∈ F ∧ ∀ g, v.ownBlock = some g → ¬f.bl g) (hn : ∀ i, i < bs.length → v.ownBlock ≠ some (bs.getD i 0)) {Q : Exit → Act → World → Prop}
    (h : ∀ v' a' w', w'.ownsRow B0 e size v' (n + m) (xs ++ news) → w.grownBy w' v.ownBlock → (∀ g, v'.ownBlock = some g → v.ownBlock = some g ∨ w.heap.size ≤ g) → Sy w0 r bs (QdU c (.v v')).s F' a' w' → post P (QdU c (.v v')).k Q .normal a' w') : post P c.k Q .normal a w := by
  obtain ⟨k, s⟩ := c
  match k, hh with
  | .ops all (o :: l) :: k, hh =>
    obtain ⟨hw, x, yy, hop, hx1, hy1⟩ := app_op S hh
    show wpList P all (post P k Q) (o :: l) a w
    refine wpList_step fun K hKk => ?_
    rw [if_pos hw]
    subst hsize
    subst hby
    obtain ⟨v', w', hr, hv', hg, hnn⟩ := app_at (P := P) (ty := o.type) ht hi hz hzs hsz hown (cp := cp) hl hnews h1 h63 hbytes hB1
    have hex : (execOp a.eval o).run P w = .ok (.value v') w' := by
      unfold execOp
      simp only [hop, resolve, invoke, builtin, Sem.run_bind, Sem.run_pure, Result.andThen_ok, List.map_toArray, List.map_cons, List.map_nil, hx1, hy1, hu, hy, hr]
    unfold Oper.wp
    rw [hex, Oper.upon_value]
    exact hKk _ _ (h v' _ w' hv' hg hnn ((S.grownO hg h0 hF hn).put o.dst (x := .v v') trivial))
end
section
variable {P : Program}
end
section
variable [DF]
variable {P : Program} {w0 : World} {r : List Nat} {bs : List Nat} {s : SS} {F : List RF} {a : Act} {w : World}
theorem Sy.setBox (S : Sy w0 r bs s F a w) {i : Nat} {k k' : Bx} (hk : s.K[i]? = some k) {w' : World} (hb : w'.heap[bs.getD i 0]? = some (.cells k'.cs.toArray k'.ty (0, 0))) (hg : Gr w w' [bs.getD i 0]) : Sy w0 r bs (s.setK i k') F a w' := by
  have hi : i < bs.length := by rw [S.bl]; exact (List.getElem?_eq_some_iff.1 hk).1
  refine ⟨S.df, S.sz, S.tm, by simp [SS.setK, S.bl], fun j q hq => ?_, S.nd, S.lo, fun f hf => ?_, ?_⟩
  · have hq' : (s.K.set i k')[j]? = some q := hq
    by_cases hj : i = j
    · subst hj
      rw [List.getElem?_set_self (by rw [← S.bl]; exact hi)] at hq'
      simp only [Option.some.injEq] at hq'
      subst hq'
      exact hb
    · rw [List.getElem?_set_ne hj] at hq'
      have hjl : j < bs.length := by rw [S.bl]; exact (List.getElem?_eq_some_iff.1 hq').1
      rw [hg.block _ (S.lt hjl) (by
        intro hm
        exact hj (S.nd j i hjl hi (List.mem_singleton.1 hm)).symm)]
      exact S.bx j q hq'
  · obtain ⟨h5, h6⟩ := S.fs f hf
    exact ⟨f.st w w' h5 fun b hbl => hg.block b (f.lt w h5 b hbl) (by
      intro hm
      exact h6 i hi ((List.mem_singleton.1 hm) ▸ hbl)), h6⟩
  · have G0 := S.gr
    refine ⟨hg.os.trans G0.os, hg.tape.trans G0.tape, hg.output.trans G0.output, Nat.le_trans G0.size hg.size, fun b hb' hne => (hg.block b (Nat.lt_of_lt_of_le hb' G0.size) ?_).trans (G0.block b hb' hne)⟩
    intro hm
    have e := List.mem_singleton.1 hm
    rcases S.lo i hi with hl | hl
    · omega
    · exact hne (e ▸ hl)
theorem sy_exK {c : Cfg} {op : Op} {ty : TypeId} {v : Value} (i : Nat) (k k' : Bx) (hk : c.s.K[i]? = some k) (S : Sy w0 r bs c.s F a w) (ho : (Qa3 c).map (fun o => (o.op, o.type)) = some (op, ty))
    (hr : ∀ (o : Oper) (ρ : Operand → Value), o.op = op → o.type = ty → (∀ x y, c.s.val x = some y → ρ x = den bs y) → ∃ w', (execOp ρ o).run P w = .ok (.value v) w' ∧ w'.heap[bs.getD i 0]? = some (.cells k'.cs.toArray k'.ty (0, 0)) ∧ Gr w w' [bs.getD i 0]) {Q : Exit → Act → World → Prop}
    (h : ∀ a' w', Sy w0 r bs (aftH c i k' (.v v)).s F a' w' → post P (aftH c i k' (.v v)).k Q .normal a' w') : post P c.k Q .normal a w := by
  obtain ⟨k0, s⟩ := c
  match k0 with
  | .ops all (o :: l) :: k0 =>
    show wpList P all (post P k0 Q) (o :: l) a w
    refine wpList_step fun K hK => ?_
    unfold Qa3 at ho
    simp only at ho
    cases hw : QaR s all o with
    | none => rw [hw] at ho; simp at ho
    | some b' =>
      rw [hw] at ho
      cases b' with
      | false => simp at ho
      | true =>
        simp only [Option.map_some, Option.some.injEq, Prod.mk.injEq] at ho
        rw [Qaj S hw, if_pos rfl]
        unfold Oper.wp
        obtain ⟨w', h1, h2, h3⟩ := hr o a.eval ho.1 ho.2 (fun x y hx => (S.val hx).1)
        rw [h1, Oper.upon_value]
        exact hK _ _ (h _ w' ((S.setBox hk h2 h3).put o.dst (x := .v v) trivial))
  | [] => simp [Qa3] at ho
  | .code _ :: _ => simp [Qa3] at ho
  | .blk _ :: _ => simp [Qa3] at ho
  | .rnd _ _ :: _ => simp [Qa3] at ho
  | .ops _ [] :: _ => simp [Qa3] at ho
theorem QiF {s : SS} {bs : List Nat} {x : Operand} {y : SV} {lo hi mx : Option Operand} {t ty : TypeId} {p : Value} {l2 h2 m2 : Option SV} (hx : s.val x = some y) (hp : den bs y = p) (hl : lo.map s.val = l2.map some) (hh : hi.map s.val = h2.map some) (hm : mx.map s.val = m2.map some)
    {v : Value} (hr : ∀ W, (Instr.sliceAt t p (l2.map (den bs)) (h2.map (den bs)) (m2.map (den bs))).run P W = .ok v W) :
    ∀ (o : Oper) (ρ : Operand → Value) (W : World), o.op = .slice t x lo hi mx → o.type = ty → (∀ x y, s.val x = some y → ρ x = den bs y) → (execOp ρ o).run P W = .ok (.value v) W := by
  intro o ρ W h1 h2' h3
  have e1 : ρ x = p := (h3 x _ hx).trans hp
  have e2 : lo.map ρ = l2.map (den bs) := by
    cases lo <;> cases l2 <;> simp_all
  have e3 : hi.map ρ = h2.map (den bs) := by
    cases hi <;> cases h2 <;> simp_all
  have e4 : mx.map ρ = m2.map (den bs) := by
    cases mx <;> cases m2 <;> simp_all
  unfold execOp
  simp only [h1, e1, e2, e3, e4, Sem.run_bind, Sem.run_pure, Result.andThen_ok, hr]
theorem QgK {c : Cfg} {op : Op} {ty : TypeId} {v : Value} (S : Sy w0 r bs c.s F a w) (ho : (Qa3 c).map (fun o => (o.op, o.type)) = some (op, ty))
    (hr : ∀ (o : Oper) (ρ : Operand → Value), o.op = op → o.type = ty → (∀ x y, c.s.val x = some y → ρ x = den bs y) → (execOp ρ o).run P w = .ok (.value v) w) {Q : Exit → Act → World → Prop}
    (h : ∀ a', Sy w0 r bs (QdU c (.v v)).s F a' w → post P (QdU c (.v v)).k Q .normal a' w) : post P c.k Q .normal a w := by
  obtain ⟨k0, s⟩ := c
  match k0 with
  | .ops all (o :: l) :: k0 =>
    show wpList P all (post P k0 Q) (o :: l) a w
    refine wpList_step fun K hK => ?_
    unfold Qa3 at ho
    simp only at ho
    cases hw : QaR s all o with
    | none => rw [hw] at ho; simp at ho
    | some b' =>
      rw [hw] at ho
      cases b' with
      | false => simp at ho
      | true =>
        simp only [Option.map_some, Option.some.injEq, Prod.mk.injEq] at ho
        rw [Qaj S hw, if_pos rfl]
        unfold Oper.wp
        rw [hr o a.eval ho.1 ho.2 (fun x y hx => (S.val hx).1), Oper.upon_value]
        exact hK _ _ (h _ (S.put o.dst (x := .v v) trivial))
  | [] => simp [Qa3] at ho
  | .code _ :: _ => simp [Qa3] at ho
  | .blk _ :: _ => simp [Qa3] at ho
  | .rnd _ _ :: _ => simp [Qa3] at ho
  | .ops _ [] :: _ => simp [Qa3] at ho
theorem Qh4 {c : Cfg} {op : Op} {ty : TypeId} (i o l n : Nat) (S : Sy w0 r bs c.s F a w) (hi : Nat.blt i c.s.K.length = true) (ho : (Qa3 c).map (fun o => (o.op, o.type)) = some (op, ty))
    (hr : ∀ (o' : Oper) (ρ : Operand → Value) (W : World), o'.op = op → o'.type = ty → (∀ x y, c.s.val x = some y → ρ x = den bs y) → (execOp ρ o').run P W = .ok (.value (den bs (.s i o l n))) W) {Q : Exit → Act → World → Prop}
    (h : ∀ a', Sy w0 r bs (QdU c (.s i o l n)).s F a' w → post P (QdU c (.s i o l n)).k Q .normal a' w) : post P c.k Q .normal a w := by
  obtain ⟨k0, s⟩ := c
  match k0 with
  | .ops all (o' :: l') :: k0 =>
    show wpList P all (post P k0 Q) (o' :: l') a w
    refine wpList_step fun K hK => ?_
    unfold Qa3 at ho
    simp only at ho
    cases hw : QaR s all o' with
    | none => rw [hw] at ho; simp at ho
    | some b' =>
      rw [hw] at ho
      cases b' with
      | false => simp at ho
      | true =>
        simp only [Option.map_some, Option.some.injEq, Prod.mk.injEq] at ho
        rw [Qaj S hw, if_pos rfl]
        unfold Oper.wp
        rw [hr o' a.eval w ho.1 ho.2 (fun x y hx => (S.val hx).1), Oper.upon_value]
        exact hK _ _ (h _ (S.put o'.dst (x := .s i o l n) (by show i < bs.length; rw [S.bl]; exact Nat.le_of_ble_eq_true hi)))
  | [] => simp [Qa3] at ho
  | .code _ :: _ => simp [Qa3] at ho
  | .blk _ :: _ => simp [Qa3] at ho
  | .rnd _ _ :: _ => simp [Qa3] at ho
  | .ops _ [] :: _ => simp [Qa3] at ho
theorem sy_exG {c : Cfg} {op : Op} {ty : TypeId} (v : Value) (F' : List RF) {C : Value → World → Prop} (S : Sy w0 r bs c.s F a w) (ho : (Qa3 c).map (fun o => (o.op, o.type)) = some (op, ty))
    (hr : ∀ (o : Oper) (ρ : Operand → Value), o.op = op → o.type = ty → (∀ x y, c.s.val x = some y → ρ x = den bs y) → ∃ v' w', (execOp ρ o).run P w = .ok (.value v') w' ∧ C v' w' ∧ w.grownBy w' v.ownBlock)
    (h0 : ∀ g, v.ownBlock = some g → g ∈ r ∨ w0.heap.size ≤ g) (hF : ∀ f ∈ F', f ∈ F ∧ ∀ g, v.ownBlock = some g → ¬f.bl g) (hn : ∀ i, i < bs.length → v.ownBlock ≠ some (bs.getD i 0)) {Q : Exit → Act → World → Prop}
    (h : ∀ v' a' w', C v' w' → Sy w0 r bs (QdU c (.v v')).s F' a' w' → post P (QdU c (.v v')).k Q .normal a' w') : post P c.k Q .normal a w := by
  obtain ⟨k0, s⟩ := c
  match k0 with
  | .ops all (o :: l) :: k0 =>
    show wpList P all (post P k0 Q) (o :: l) a w
    refine wpList_step fun K hK => ?_
    unfold Qa3 at ho
    simp only at ho
    cases hw : QaR s all o with
    | none => rw [hw] at ho; simp at ho
    | some b' =>
      rw [hw] at ho
      cases b' with
      | false => simp at ho
      | true =>
        simp only [Option.map_some, Option.some.injEq, Prod.mk.injEq] at ho
        rw [Qaj S hw, if_pos rfl]
        unfold Oper.wp
        obtain ⟨v', w', h1, h2, h3⟩ := hr o a.eval ho.1 ho.2 (fun x y hx => (S.val hx).1)
        rw [h1, Oper.upon_value]
        exact hK _ _ (h v' _ w' h2 ((S.grownO h3 h0 hF hn).put o.dst (x := .v v') trivial))
  | [] => simp [Qa3] at ho
  | .code _ :: _ => simp [Qa3] at ho
  | .blk _ :: _ => simp [Qa3] at ho
  | .rnd _ _ :: _ => simp [Qa3] at ho
  | .ops _ [] :: _ => simp [Qa3] at ho
end
section
variable {P : Program}
theorem app_st {w : World} {B0 : Nat} {e t u ty : TypeId} {info : TypeInfo} (ht : P.underlying t = some (.slice e)) (hu : P.underlying u = some .string) (hi : P.info? e = some info) (hz : info.zero = some (.int .u8 0)) (hs : info.size = 1) (hb : info.bytes = 1)
    {v : Value} {n : Nat} {xs : List Value} (hown : w.ownsRow B0 e 1 v n xs) (p : ByteArray) (hp : 0 < p.size) (hbytes : n + p.size ≤ 140737488355328) (hB1 : B0 ≤ w.heap.size) :
    ∃ v' w', (Builtin.append_ #[t, u] ty #[v, .string p]).run P w = .ok v' w' ∧ w'.ownsRow B0 e 1 v' (n + p.size) (xs ++ Lib.strCells p) ∧ w.grownBy w' v.ownBlock ∧ ∀ g, v'.ownBlock = some g → v.ownBlock = some g ∨ w.heap.size ≤ g := by
  obtain ⟨v', w', hr, h2, h3, _⟩ := Lib.run_append_own_string (P := P) w B0 t u ty e info ht hu hi hz hs hb v n xs hown p (by simp only [maxLen]; omega) hbytes hB1
  refine ⟨v', w', hr, h2, h3, fun g' hg' => ?_⟩
  rcases hown.2 with ⟨rfl, rfl⟩ | ⟨g, cap, cur, rfl, hbg, hg, hnc, hcm, hcs, htake⟩
  · have hx : xs = [] := List.eq_nil_of_length_eq_zero (by simpa using hown.1)
    subst hx
    obtain ⟨v2, w2, hr2, q2, _, _⟩ := Lib.run_append_own_string (P := P) w w.heap.size t u ty e info ht hu hi hz hs hb _ 0 [] (World.ownsRow_nil w w.heap.size e 1) p (by simp only [maxLen]; omega) (by omega) (Nat.le_refl _)
    rw [hr] at hr2
    simp only [Result.ok.injEq] at hr2
    obtain ⟨rfl, rfl⟩ := hr2
    exact Or.inr (q2.lt g' hg').1
  · by_cases hroom : n + p.size ≤ cap
    · have hr2 := Lib.run_append_room_string (P := P) w t u ty e info ht hu hi hs g n cap cur hg p hroom (by omega)
      rw [hr] at hr2
      simp only [Result.ok.injEq] at hr2
      obtain ⟨rfl, _⟩ := hr2
      exact Or.inl (by simpa [Value.ownBlock] using hg')
    · have hl1 : xs.length = n := by simpa using hown.1
      have hr2 := Lib.run_append_grow_string (P := P) w t u ty e info (.int .u8 0) ht hu hi hz ⟨g, 0, none⟩ n cap xs (by rw [hs]; simpa using hl1) (hown.cells (g := g) rfl) p (by omega) (by omega) (by rw [hb]; exact growslice_fits (by omega) (by omega))
      rw [hr] at hr2
      simp only [Result.ok.injEq] at hr2
      obtain ⟨rfl, _⟩ := hr2
      simp [Value.ownBlock] at hg'
      exact Or.inr (by omega)
end
section
variable [DF] [KP] [HF]
variable {P : Program} {w0 : World} {r : List Nat} {B : List Nat} {ro bs : List Nat} {QQ : Exit → Act → World → Prop} [PInv QQ] {c : Cfg} {d : DC} {F : List RF} {a : Act} {w : World}
theorem Qfd (i : Nat) (B0 : Nat) (F' : List RF) (D : Sd w0 r B c.s.K ro bs d.s F a w) (hs : Region.noSelect (QaS c) = true) {u y : SV} {t e : TypeId} {v : Value} {n : Nat} {ad : Addr} {m cp size bytes : Nat} {xs news : List Value} {info : TypeInfo} {z : Value}
    (hh : (((QaS c)[i]?).bind fun o => Qet ⟨[.ops (QaS c) [o]], d.s⟩) = some (u, y, t)) (ht : P.underlying t = some (.slice e)) (hi : P.info? e = some info) (hz : info.zero = some z)
    (hsize : info.size = size) (hby : info.bytes = bytes) (hzs : z.cells.size = size) (hsz : 0 < size) (hu : den bs u = v) (hy : den bs y = .slice (some ad) m cp)
    (hown : w.ownsRow B0 e size v n xs) (hB1 : B0 ≤ w.heap.size)
    (hnews : ∀ j x, news[j]? = some x → w.cell? (ad.add j) = some x) (hl : news.length = m * size) (h1 : ∀ u ∈ news, u.oneCell' = true) (h63 : n + m ≤ maxLen) (hbytes : (n + m) * bytes ≤ 140737488355328)
    (h0 : ∀ g, v.ownBlock = some g → g ∈ r ∨ w0.heap.size ≤ g) (hF : ∀ f ∈ F', f ∈ F ∧ ∀ g, v.ownBlock = some g → ¬f.bl g) (hff : ∀ f ∈ HF.fs, f ∈ F') (hn : ∀ i, i < bs.length → v.ownBlock ≠ some (bs.getD i 0))
    (h : ∀ va vc a' w', w'.ownsRow B0 e size (.slice va (n + m) vc) (n + m) (xs ++ news) → w.grownBy w' v.ownBlock → (∀ g, Value.ownBlock (.slice va (n + m) vc) = some g → v.ownBlock = some g ∨ w.heap.size ≤ g) → (∀ j, j < bs.length → bs.getD j 0 < w.heap.size) → Sd w0 r B c.s.K ro bs (dV P c ro d i (.v (.slice va (n + m) vc))).s F' a' w' → GD P c QQ B ro (dV P c ro d i (.v (.slice va (n + m) vc))) a' w') : Nxt P (QaS c) (PQ P (kD c) QQ) (Qcg B c.s.K ro) d.pred d.lst a w i := by
  exact nx_appO i B0 F' D hs hh ht hi hz hsize hby hzs hsz hu hy hown hB1 hnews hl h1 h63 hbytes h0 hF hff hn fun v' a' w' hO hg hnn hlt D => by
    obtain ⟨va, vc, rfl⟩ := Qci hO
    exact h va vc a' w' hO hg hnn hlt D
end
end Go.Proofs.Ytfhmdlihnidjoaa.SZ
