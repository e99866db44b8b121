
/-
  A walk by computation: operations whose value is told by a law (slices, strings, min), straight and in regions that draw their order.
-/
import Derived.Test.YtfkmcibglaiakaaDoorRows
import Derived.Test.YtfkmcibglaiakaaDoorBase
import Derived.Test.YtfkmcibglaiakaaDoorZu
import Derived.WalkKit
import Derived.Laws.Slices
import Derived.Laws.Small
import Derived.Laws.Concat
import Derived.Laws.Entries
namespace Go.Proofs.YtfkmcibglaiakaaDoor.SZ
open Go Go.RowKit
set_option linter.unusedVariables false
set_option linter.unusedSectionVars false
set_option linter.unusedSimpArgs false
set_option maxRecDepth 10000
/-- The operation that comes next, where it is wanted. -/
def headV (c : Cfg) : Option Oper :=
  match c with
  | ⟨.ops all (o :: l) :: k, s⟩ => match wantS s all o with
    | some true => some o
    | _ => none
  | _ => none
section
variable [DF]
variable {P : Program} {w0 : World} {r : List Nat} {bs : List Nat} {s : SS} {F : List RF} {a : Act} {w : World}
theorem sy_ex {c : Cfg} {op : Op} {ty : TypeId} {v : Value} (S : Sy w0 r bs c.s F a w) (ho : (headV c).map (fun o => (o.op, o.type)) = some (op, ty))
    (hr : ∀ (o : Oper) (ρ : Operand → Value) (W : World), o.op = op → o.type = ty → (∀ x y, c.s.val x = some y → ρ x = den bs y) → (execOp ρ o).run P W = .ok (.value v) W) {Q : Exit → Act → World → Prop}
    (h : ∀ a', Sy w0 r bs (aftC c (.v v)).s F a' w → post P (aftC c (.v v)).k Q .normal a' w) : post P c.k Q .normal a w := by
  obtain ⟨k, s⟩ := c
  match k with
  | .ops all (o :: l) :: k =>
    show wpList P all (post P k Q) (o :: l) a w
    refine wpList_step fun K hK => ?_
    unfold headV at ho
    simp only at ho
    cases hw : wantS s all o with
    | none => rw [hw] at ho; simp at ho
    | some b' =>
      rw [hw] at ho
      cases b' with
      | false => simp at ho
      | true =>
        simp only [Option.map_some, Option.some.injEq, Prod.mk.injEq] at ho
        rw [wantS_sound S hw, if_pos rfl]
        unfold Oper.wp
        rw [hr o a.eval w ho.1 ho.2 (fun x y hx => (S.val hx).1), Oper.upon_value]
        exact hK _ _ (h _ (S.put o.dst (x := .v v) trivial))
  | [] => simp [headV] at ho
  | .code _ :: _ => simp [headV] at ho
  | .blk _ :: _ => simp [headV] at ho
  | .rnd _ _ :: _ => simp [headV] at ho
  | .ops _ [] :: _ => simp [headV] at ho
end
section
variable [DF] [KP] [HF]
variable {P : Program} {w0 : World} {r : List Nat} {B : List Nat} {ro bs : List Nat} {QQ : Exit → Act → World → Prop} [PInv QQ] {c : Cfg} {d : DC} {F : List RF} {a : Act} {w : World}
theorem dr_ex (i : Nat) {op : Op} {ty : TypeId} {v : Value} (D : Sd w0 r B c.s.K ro bs d.s F a w) (hs : Region.noSelect (opsD c) = true) (hn : (d.m != 0) = true) (hf : (Region.free .any (opsD c) d.lst i && (Region.ready .any (opsD c) d.lst).contains i && KP.keep.all fun t => ((opsD c)[i]?).bind (·.dst) != some t) = true)
    (ho : (((opsD c)[i]?).bind fun o => headV ⟨[.ops (opsD c) [o]], d.s⟩).map (fun o => (o.op, o.type)) = some (op, ty))
    (hr : ∀ (o : Oper) (ρ : Operand → Value) (W : World), o.op = op → o.type = ty → (∀ x y, d.s.val x = some y → ρ x = den bs y) → (execOp ρ o).run P W = .ok (.value v) W)
    (h : ∀ a', Sd w0 r B c.s.K ro bs (dV P c ro d i (.v v)).s F a' w → GD P c QQ B ro (dV P c ro d i (.v v)) a' w) : GD P c QQ B ro d a w := by
  cases ho2 : (opsD c)[i]? with
  | none => rw [ho2] at ho; cases ho
  | some o =>
    rw [ho2] at ho
    simp only [Option.bind_some, headV] at ho
    cases hw : wantS d.s (opsD c) o with
    | none => rw [hw] at ho; simp at ho
    | some b' =>
      rw [hw] at ho
      cases b' with
      | false => simp at ho
      | true =>
        simp only [Option.map_some, Option.some.injEq, Prod.mk.injEq] at ho
        exact dr_tk i D hs hn hf ho2 (x := .v v) trivial hw (fun W _ => hr o a.eval W ho.1 ho.2 (fun x y hx => (D.S.val hx).1)) h
end
section
variable [DF] [KP] [HF]
variable {P : Program} {w0 : World} {r : List Nat} {B : List Nat} {ro bs : List Nat} {QQ : Exit → Act → World → Prop} [PInv QQ] {c : Cfg} {d : DC} {F : List RF} {a : Act} {w : World}
/-- What only reads, by hand, also where a slot is kept: where a panic's post does not look at slots at all. -/
theorem dr_ex2 (hp : ∀ (d : Option Nat) (v : Value) (c : List PanicEntry) (a : Act) (w : World), QQ (.panic c) (a.put d v) w → QQ (.panic c) a w) (i : Nat) {op : Op} {ty : TypeId} {v : Value} (D : Sd w0 r B c.s.K ro bs d.s F a w) (hs : Region.noSelect (opsD c) = true) (hn : (d.m != 0) = true) (hf : (Region.free .any (opsD c) d.lst i && (Region.ready .any (opsD c) d.lst).contains i) = true)
    (ho : (((opsD c)[i]?).bind fun o => headV ⟨[.ops (opsD c) [o]], d.s⟩).map (fun o => (o.op, o.type)) = some (op, ty))
    (hr : ∀ (o : Oper) (ρ : Operand → Value) (W : World), o.op = op → o.type = ty → (∀ x y, d.s.val x = some y → ρ x = den bs y) → (execOp ρ o).run P W = .ok (.value v) W)
    (h : ∀ a', Sd w0 r B c.s.K ro bs (dV P c ro d i (.v v)).s F a' w → GD P c QQ B ro (dV P c ro d i (.v v)) a' w) : GD P c QQ B ro d a w := by
  cases ho2 : (opsD c)[i]? with
  | none => rw [ho2] at ho; cases ho
  | some o =>
    rw [ho2] at ho
    simp only [Option.bind_some, headV] at ho
    cases hw : wantS d.s (opsD c) o with
    | none => rw [hw] at ho; simp at ho
    | some b' =>
      rw [hw] at ho
      cases b' with
      | false => simp at ho
      | true =>
        simp only [Option.map_some, Option.some.injEq, Prod.mk.injEq] at ho
        have hn' : d.m = (d.m - 1) + 1 := by simp at hn; omega
        simp only [Bool.and_eq_true] at hf
        obtain ⟨h1, h2⟩ := hf
        have e : ((opsD c)[i]?).bind (·.dst) = o.dst := by rw [ho2]; rfl
        show wpAnyH P .any (opsD c) (PQ P (kD c) QQ) (HoldS B c.s.K ro) d.m d.lst a w
        rw [hn']
        refine wpAnyH_take ho2 hs h1 h2 (fun c' a w h => by
          have h' : post P (kD c) QQ (.panic c') (a.put o.dst v) w := h
          show post P (kD c) QQ (.panic c') a w
          rw [post_panic] at h' ⊢
          exact hp _ _ _ _ _ h') (Or.inl ⟨wantS_sound D.S hw, fun W _ => hr o a.eval W ho.1 ho.2 (fun x y hx => (D.S.val hx).1)⟩) D.hold ?_
        exact drq_sound (d := ⟨d.m - 1, d.lst.setIfInBounds i true, d.s.put (((opsD c)[i]?).bind (·.dst)) (.v v)⟩) hs (by rw [e]; exact D.put o.dst (x := .v v) trivial) h
theorem nx_ex (i : Nat) {op : Op} {ty : TypeId} {v : Value} (D : Sd w0 r B c.s.K ro bs d.s F a w) (hs : Region.noSelect (opsD c) = true)
    (ho : (((opsD c)[i]?).bind fun o => headV ⟨[.ops (opsD c) [o]], d.s⟩).map (fun o => (o.op, o.type)) = some (op, ty))
    (hr : ∀ (o : Oper) (ρ : Operand → Value) (W : World), o.op = op → o.type = ty → (∀ x y, d.s.val x = some y → ρ x = den bs y) → (execOp ρ o).run P W = .ok (.value v) W)
    (h : ∀ a', Sd w0 r B c.s.K ro bs (dV P c ro d i (.v v)).s F a' w → GD P c QQ B ro (dV P c ro d i (.v v)) a' w) : Nxt P (opsD c) (PQ P (kD c) QQ) (HoldS B c.s.K ro) d.pred d.lst a w i := by
  cases ho2 : (opsD c)[i]? with
  | none => rw [ho2] at ho; cases ho
  | some o =>
    rw [ho2] at ho
    simp only [Option.bind_some, headV] at ho
    cases hw : wantS d.s (opsD c) o with
    | none => rw [hw] at ho; simp at ho
    | some b' =>
      rw [hw] at ho
      cases b' with
      | false => simp at ho
      | true =>
        simp only [Option.map_some, Option.some.injEq, Prod.mk.injEq] at ho
        exact nx_runB i D hs ho2 (wantS_sound D.S hw) (C := fun v' w' => v' = v ∧ w' = w) ⟨v, w, hr o a.eval w ho.1 ho.2 (fun x y hx => (D.S.val hx).1), ⟨rfl, rfl⟩, Below.refl _ _⟩ fun v' a' w' hC _ _ D' => by
          obtain ⟨rfl, rfl⟩ := hC
          exact h a' D'
/-- A store into a variable that is not the walk's own, in a region that draws its order. -/
theorem nx_sto (i : Nat) (F' : List RF) (D : Sd w0 r B c.s.K ro bs d.s F a w) (hs : Region.noSelect (opsD c) = true) {ty : TypeId} {ad : Addr} {x : SV} {v : Value} {w' : World}
    (hh : (((opsD c)[i]?).bind fun o => headSt ⟨[.ops (opsD c) [o]], d.s⟩) = some (ty, ad, x)) (hv : den bs x = v) (hr : (storeVar ty ad v).run P w = .ok () w') (hg : w.grownBy w' (some ad.block))
    (h0 : ad.block ∈ r ∨ w0.heap.size ≤ ad.block) (hF : ∀ f ∈ F', f ∈ F ∧ ¬f.bl ad.block) (hff : ∀ f ∈ HF.fs, f ∈ F') (hn : ∀ i, i < bs.length → bs.getD i 0 ≠ ad.block)
    (h : ∀ a', Sd w0 r B c.s.K ro bs (dV P c ro d i (.v undef)).s F' a' w' → GD P c QQ B ro (dV P c ro d i (.v undef)) a' w') : Nxt P (opsD c) (PQ P (kD c) QQ) (HoldS B c.s.K ro) d.pred d.lst a w i := by
  cases ho : (opsD c)[i]? with
  | none => rw [ho] at hh; cases hh
  | some o =>
    rw [ho] at hh
    simp only [Option.bind_some, headSt] at hh
    cases hw : wantS d.s (opsD c) o with
    | none => rw [hw] at hh; simp at hh
    | some b' =>
      rw [hw] at hh
      cases b' with
      | false => simp at hh
      | true =>
        cases hop : o.op <;> rw [hop] at hh <;> simp only [reduceCtorEq] at hh
        case store ty' p y =>
          cases hp : d.s.val p with
          | none => rw [hp] at hh; simp at hh
          | some q =>
            rw [hp] at hh
            cases q with
            | v q =>
              cases q with
              | pointer pa =>
                cases pa with
                | none => simp at hh
                | some ad' =>
                  cases hy : d.s.val y with
                  | none => rw [hy] at hh; simp at hh
                  | some z =>
                    rw [hy] at hh
                    simp only [Option.some.injEq, Prod.mk.injEq] at hh
                    obtain ⟨rfl, rfl, rfl⟩ := hh
                    have h1 : a.eval p = .pointer (some ad') := (D.S.val hp).1
                    have h2 : a.eval y = v := (D.S.val hy).1.trans hv
                    unfold Nxt wpOp
                    rw [ho]
                    simp only
                    rw [wantS_sound D.S hw, if_pos rfl]
                    refine Or.inl ?_
                    unfold Oper.wp execOp
                    simp only [hop, h1, h2, Instr.storeAt, Instr.sureAddr, Sem.run_bind, Sem.run_pure, Result.andThen_ok, hr]
                    have D1 : Sd w0 r B c.s.K ro bs d.s F' a w' := ⟨D.S.grown hg h0 hF hn, D.pre, D.bl, hff, D.hro⟩
                    have D2 := D1.put o.dst (x := .v undef) trivial
                    have e : ((opsD c)[i]?).bind (·.dst) = o.dst := by rw [ho]; rfl
                    refine ⟨D2.hold, ?_⟩
                    exact drq_sound (d := ⟨d.m - 1, d.lst.setIfInBounds i true, d.s.put (((opsD c)[i]?).bind (·.dst)) (.v undef)⟩) hs (by rw [e]; exact D2) fun a'' D'' => h a'' D''
              | _ => simp at hh
            | _ => simp at hh
end
section
variable {P : Program}
/-- The least of two numbers. -/
theorem ex_min {s : SS} {bs : List Nat} {x y : Operand} {ts : Array TypeId} {ty : TypeId} {p q : Int} (hx : s.val x = some (.v (.int .i64 p))) (hy : s.val y = some (.v (.int .i64 q))) {z : Int} (hz : (if q < p then q else p) = z) :
    ∀ (o : Oper) (ρ : Operand → Value) (W : World), o.op = .call { callee := .builtin .min, args := #[x, y], argTypes := ts } → o.type = ty → (∀ x y, s.val x = some y → ρ x = den bs y) → (execOp ρ o).run P W = .ok (.value (.int .i64 z)) W := by
  intro o ρ W h1 h2 h3
  have hr := run_min_int2 (P := P) W ts o.type .i64 .i64 p q
  have e1 : ρ x = .int .i64 p := h3 x _ hx
  have e2 : ρ y = .int .i64 q := h3 y _ hy
  unfold execOp
  subst hz
  simp only [h1, resolve, invoke, builtin, Sem.run_bind, Sem.run_pure, Result.andThen_ok, List.map_toArray, List.map_cons, List.map_nil, e1, e2, hr]
theorem ex_cat {s : SS} {bs : List Nat} {x y : Operand} {t t' ty : TypeId} {p q : ByteArray} (ht : P.underlying t = some .string) (hx : s.val x = some (.v (.string p))) (hy : s.val y = some (.v (.string q))) (hl : p.size + q.size ≤ 9223372036854775807) :
    ∀ (o : Oper) (ρ : Operand → Value) (W : World), o.op = .binOp .add t x y t' → o.type = ty → (∀ x y, s.val x = some y → ρ x = den bs y) → (execOp ρ o).run P W = .ok (.value (.string (p ++ q))) W := by
  intro o ρ W h1 h2 h3
  have e1 : ρ x = .string p := h3 x _ hx
  have e2 : ρ y = .string q := h3 y _ hy
  unfold execOp
  have hr : ∀ W, (binOp .add t (.string p) (.string q)).run P W = .ok (.string (p ++ q)) W := fun W => by rw [binOp_string_add]; exact run_string_add_sum W p q hl
  have hg : eqGuard .add t x y (.string p) (.string q) = pure () := eqGuard_add _ _ _ _ _
  simp only [h1, e1, e2, hg, Sem.run_bind, Sem.run_pure, Result.andThen_ok, hr]
theorem ex_slS {s : SS} {bs : List Nat} {x : Operand} {lo hi : Option Operand} {t ty : TypeId} {p : ByteArray} {l2 h2 : Option SV} (ht : P.underlying t = some .string) (hx : s.val x = some (.v (.string p))) (hl : lo.map s.val = l2.map some) (hh : hi.map s.val = h2.map some)
    {v : Value} (hr : ∀ W, (Instr.sliceAt t (.string p) (l2.map (den bs)) (h2.map (den bs)) none).run P W = .ok v W) :
    ∀ (o : Oper) (ρ : Operand → Value) (W : World), o.op = .slice t x lo hi none → o.type = ty → (∀ x y, s.val x = some y → ρ x = den bs y) → (execOp ρ o).run P W = .ok (.value v) W := by
  intro o ρ W h1 h2' h3
  have e1 : ρ x = .string p := h3 x _ hx
  have e2 : lo.map ρ = l2.map (den bs) := by
    cases lo <;> cases l2 <;> simp_all
  have e3 : hi.map ρ = h2.map (den bs) := by
    cases hi <;> cases h2 <;> simp_all
  unfold execOp
  simp only [h1, e1, e2, e3, Option.map_none, Sem.run_bind, Sem.run_pure, Result.andThen_ok, hr]
theorem ex_sl {s : SS} {bs : List Nat} {x : Operand} {lo hi mx : Option Operand} {t ty : TypeId} {p : Value} {l2 h2 m2 : Option SV} (hx : s.val x = some (.v p)) (hl : lo.map s.val = l2.map some) (hh : hi.map s.val = h2.map some) (hm : mx.map s.val = m2.map some)
    {v : Value} (hr : ∀ W, (Instr.sliceAt t p (l2.map (den bs)) (h2.map (den bs)) (m2.map (den bs))).run P W = .ok v W) :
    ∀ (o : Oper) (ρ : Operand → Value) (W : World), o.op = .slice t x lo hi mx → o.type = ty → (∀ x y, s.val x = some y → ρ x = den bs y) → (execOp ρ o).run P W = .ok (.value v) W := by
  intro o ρ W h1 h2' h3
  have e1 : ρ x = p := h3 x _ hx
  have e2 : lo.map ρ = l2.map (den bs) := by
    cases lo <;> cases l2 <;> simp_all
  have e3 : hi.map ρ = h2.map (den bs) := by
    cases hi <;> cases h2 <;> simp_all
  have e4 : mx.map ρ = m2.map (den bs) := by
    cases mx <;> cases m2 <;> simp_all
  unfold execOp
  simp only [h1, e1, e2, e3, e4, Sem.run_bind, Sem.run_pure, Result.andThen_ok, hr]
end
end Go.Proofs.YtfkmcibglaiakaaDoor.SZ
