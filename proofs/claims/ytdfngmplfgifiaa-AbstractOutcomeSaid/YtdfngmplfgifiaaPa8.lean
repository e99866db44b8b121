/-
  Merged: SxR, AbsS, VisA, VisB
-/
import Derived.Test.YtdfngmplfgifiaaRows
import Derived.Test.YtdfngmplfgifiaaPa1
import Derived.Test.YtdfngmplfgifiaaPa2
import Derived.Test.YtdfngmplfgifiaaPa3
import Derived.Test.YtdfngmplfgifiaaPa6
import Derived.Test.YtdfngmplfgifiaaPa7
import Derived.Scope
import Derived.Control
import Derived.WalkKit

/-
  A walk by computation: runs of operations over a log as facts: the program's Run, the reference's Cur.
-/
namespace Go.Proofs.Ytdfngmplfgifiaa.SX
open Go Go.RowKit
set_option linter.unusedVariables false
set_option maxRecDepth 10000

theorem runAt_le {w w' : World} {g : Nat} {l : List (Int × Bool)} (h : RunAt w g l) (hb : ∀ b, b ≤ g → w'.heap[b]? = w.heap[b]?) : RunAt w' g l := by
  obtain ⟨a, c, h1, h2, h3, h4, h5⟩ := h
  refine ⟨a, c, (World.cell?_of_block (a := ⟨g, 0, none⟩) (hb g (Nat.le_refl _))).trans h1, (World.frozen?_of_block (a := ⟨g, 0, none⟩) (hb g (Nat.le_refl _))).trans h2, h3, h4, ?_⟩
  rcases h5 with h5 | ⟨b, o, rfl, h5, h6⟩
  · exact Or.inl h5
  · exact Or.inr ⟨b, o, rfl, h5, fun j hj => ⟨(World.cell?_of_block (a := ⟨b, o + j * 2, none⟩) (hb b (by omega))).trans (h6 j hj).1, (World.cell?_of_block (a := ⟨b, o + j * 2 + 1, none⟩) (hb b (by omega))).trans (h6 j hj).2⟩⟩
/-- The run at the block g has these results before it. -/
def rfRun (g : Nat) (l : List (Int × Bool)) : RF := ⟨fun b => b ≤ g, fun w => RunAt w g l, fun w h b hb => Nat.lt_of_le_of_lt hb (runAt_lt h), fun w w' h hb => runAt_le h hb⟩
theorem curAt_le {w w' : World} {g : Nat} {s : CSt} (h : CurAt w g s) (hb : ∀ b, b ≤ g → w'.heap[b]? = w.heap[b]?) : CurAt w' g s := by
  obtain ⟨a, c, at_, all, h0, h1, h2, h3, h4, h5, h6, h7, h8, h9, h10, h11, h12⟩ := h
  have k : ∀ o v, w.cell? ⟨g, o, none⟩ = some v → w'.cell? ⟨g, o, none⟩ = some v := fun o v h => (World.cell?_of_block (a := ⟨g, o, none⟩) (hb g (Nat.le_refl _))).trans h
  refine ⟨a, c, at_, all, k _ _ h0, k _ _ h1, k _ _ h2, k _ _ h3, k _ _ h4, k _ _ h5, k _ _ h6, k _ _ h7, fun o => (World.frozen?_of_block (a := ⟨g, o, none⟩) (hb g (Nat.le_refl _))).trans (h8 o), h9, h10, h11, ?_⟩
  rcases h12 with h12 | ⟨b, o, rfl, h13, h14⟩
  · exact Or.inl h12
  · exact Or.inr ⟨b, o, rfl, h13, fun j hj => ⟨(World.cell?_of_block (a := ⟨b, o + j * 2, none⟩) (hb b (by omega))).trans (h14 j hj).1, (World.cell?_of_block (a := ⟨b, o + j * 2 + 1, none⟩) (hb b (by omega))).trans (h14 j hj).2⟩⟩
/-- The reference's run at the block g. -/
def rfCur (g : Nat) (x : CSt) : RF := ⟨fun b => b ≤ g, fun w => CurAt w g x, fun w h b hb => Nat.lt_of_le_of_lt hb (curAt_lt h), fun w w' h hb => curAt_le h hb⟩
theorem logOf_st {w w' : World} {v : Value} {l : List (Int × Bool)} (h : LogOf w v l) (hb : ∀ b, v.ownBlock = some b → w'.heap[b]? = w.heap[b]?) : LogOf w' v l := by
  obtain ⟨a, c, rfl, h1, h2, h3⟩ := h
  refine ⟨a, c, rfl, h1, h2, ?_⟩
  rcases h3 with h3 | ⟨b, o, rfl, h3⟩
  · exact Or.inl h3
  · have hb' := hb b rfl
    exact Or.inr ⟨b, o, rfl, fun j hj => ⟨(World.cell?_of_block (a := ⟨b, o + j * 2, none⟩) hb').trans (h3 j hj).1, (World.cell?_of_block (a := ⟨b, o + j * 2 + 1, none⟩) hb').trans (h3 j hj).2⟩⟩
/-- The slice v holds these results. -/
def rfLog (v : Value) (l : List (Int × Bool)) : RF := ⟨fun b => v.ownBlock = some b ∧ l.length ≠ 0, fun w => LogOf w v l, fun w h b hb => by
  obtain ⟨a, c, rfl, h1, h2, h3⟩ := h
  rcases h3 with h3 | ⟨b', o, rfl, h3⟩
  · exact absurd h3 hb.2
  · have := World.block_lt_of_cell? w _ (h3 0 (by omega)).1
    have e : some b' = some b := hb.1
    cases e
    exact this, fun w w' h hb => by
  by_cases h0 : l.length = 0
  · obtain ⟨a, c, rfl, h1, h2, _⟩ := h
    exact ⟨a, c, rfl, h1, h2, Or.inl h0⟩
  · exact logOf_st h (fun b he => hb b ⟨he, h0⟩)⟩

section
variable {P : Program} {w0 : World} {r : Option Nat} {bs : List Nat} {s : SS} {F : List RF} {a : Act} {w : World}
theorem Sy.run {g : Nat} {l : List (Int × Bool)} (S : Sy w0 r bs s (rfRun g l :: F) a w) : RunAt w g l := S.fact (f := rfRun g l) (by simp)
theorem Sy.cur {g : Nat} {x : CSt} (S : Sy w0 r bs s (rfCur g x :: F) a w) : CurAt w g x := S.fact (f := rfCur g x) (by simp)
/-- A call that takes an access of a run. -/
theorem sy_acc {g : Nat} {l l' : List (Int × Bool)} {c : Cfg} (S : Sy w0 r bs c.s (rfRun g l :: F) a w) (h0 : r = some g ∨ w0.heap.size ≤ g) {v : Value} {f : FuncId} {args : Array Value} {Q : Exit → Act → World → Prop}
    (hC : Calls P f args w fun e w' => e = .returned v ∧ RunAt w' g l' ∧ w.grownBy w' (some g))
    (hh : (headC P c).map (fun q => (q.1, q.2.map (den bs))) = some (f, args.toList)) (hF : ∀ f ∈ F, ¬f.bl g)
    (h : ∀ a' w', Sy w0 r bs (aftC c (.v v)).s (rfRun g l' :: F) a' w' → post P (aftC c (.v v)).k Q .normal a' w') : post P c.k Q .normal a w := by
  have hap := (S.fs _ (by simp : rfRun g l ∈ rfRun g l :: F)).2
  refine sy_callG S h0 (X := Unit) (val := fun _ => v) (C := fun _ w' => RunAt w' g l') (hC.mono fun e w' h => ⟨(), h.1, h.2⟩) hh F (fun f hf => ⟨List.mem_cons_of_mem _ hf, hF f hf⟩) (fun i hi he => hap i hi (by show _ ≤ g; rw [he]; exact Nat.le_refl _)) ?_
  intro _ a' w' hR _ S'
  exact h a' w' (S'.add (rfRun g l') hR hap)
theorem sy_cur {g : Nat} {x x' : CSt} {c : Cfg} (S : Sy w0 r bs c.s (rfCur g x :: F) a w) (h0 : r = some g ∨ w0.heap.size ≤ g) {v : Value} {f : FuncId} {args : Array Value} {Q : Exit → Act → World → Prop}
    (hC : Calls P f args w fun e w' => e = .returned v ∧ CurAt w' g x' ∧ w.grownBy w' (some g))
    (hh : (headC P c).map (fun q => (q.1, q.2.map (den bs))) = some (f, args.toList)) (hF : ∀ f ∈ F, ¬f.bl g)
    (h : ∀ a' w', Sy w0 r bs (aftC c (.v v)).s (rfCur g x' :: F) a' w' → post P (aftC c (.v v)).k Q .normal a' w') : post P c.k Q .normal a w := by
  have hap := (S.fs _ (by simp : rfCur g x ∈ rfCur g x :: F)).2
  refine sy_callG S h0 (X := Unit) (val := fun _ => v) (C := fun _ w' => CurAt w' g x') (hC.mono fun e w' h => ⟨(), h.1, h.2⟩) hh F (fun f hf => ⟨List.mem_cons_of_mem _ hf, hF f hf⟩) (fun i hi he => hap i hi (by show _ ≤ g; rw [he]; exact Nat.le_refl _)) ?_
  intro _ a' w' hR _ S'
  exact h a' w' (S'.add (rfCur g x') hR hap)
end
end Go.Proofs.Ytdfngmplfgifiaa.SX


/-
  A walk by computation: a load of a variable that is not the walk's own, whatever its type; variables that others made, as facts.
-/
namespace Go.Proofs.Ytdfngmplfgifiaa.SX
open Go Go.RowKit
set_option linter.unusedVariables false
set_option linter.unusedSimpArgs false
set_option maxRecDepth 10000

/-- The block b is this variable. -/
def rfBox (b : Nat) (ty : TypeId) (cs : List Value) : RF := ⟨fun b' => b' = b, fun w => w.heap[b]? = some (.cells cs.toArray ty (0, 0)), fun w h b' hb => by subst hb; exact (Array.getElem?_eq_some_iff.1 h).1, fun w w' h hb => (hb b rfl).trans h⟩

section
variable {P : Program} {w0 : World} {r : Option Nat} {bs : List Nat} {s : SS} {F : List RF} {a : Act} {w : World}
/-- The load that comes next, of a variable that is not the walk's own. -/
def headO (P : Program) (c : Cfg) : Option (TypeId × Addr) :=
  match c with
  | ⟨.ops all (o :: l) :: k, s⟩ => match wantS s all o, o.op with
    | some true, .load ty x => match s.val x with
      | some (.v (.pointer (some ad))) => some (ty, ad)
      | _ => none
    | _, _ => none
  | _ => none
theorem sy_ldo {c : Cfg} {ty : TypeId} {ad : Addr} {v : Value} (S : Sy w0 r bs c.s F a w) (hl : (loadVar ty ad).run P w = .ok v w) (hh : headO P c = some (ty, ad)) {Q : Exit → Act → World → Prop}
    (h : ∀ a', Sy w0 r bs (aftC c (.v v)).s F a' w → post P (aftC c (.v v)).k Q .normal a' w) : post P c.k Q .normal a w := by
  obtain ⟨k, s⟩ := c
  match k with
  | .ops all (o :: l) :: k =>
    show wpList P all (post P k Q) (o :: l) a w
    refine wpList_step fun K hK => ?_
    unfold headO at hh
    simp only at hh
    cases hw : wantS s all o with
    | none => rw [hw] at hh; simp at hh
    | some b =>
      rw [hw] at hh
      cases b with
      | false => simp at hh
      | true =>
        cases ho : o.op <;> rw [ho] at hh <;> simp only [reduceCtorEq] at hh
        case load ty' x =>
          cases hx : s.val x with
          | none => rw [hx] at hh; simp at hh
          | some y =>
            rw [hx] at hh
            cases y with
            | v y =>
              cases y with
              | pointer pa =>
                cases pa with
                | none => simp at hh
                | some ad' =>
                  simp only [Option.some.injEq, Prod.mk.injEq] at hh
                  obtain ⟨h1, h2⟩ := hh
                  subst h1; subst h2
                  have h1 := (S.val hx).1
                  rw [wantS_sound S hw, if_pos rfl]
                  unfold Oper.wp execOp
                  simp only [ho, h1, den, Instr.loadAt, Instr.sureAddr, Sem.run_bind, Sem.run_pure, Result.andThen_ok, hl]
                  exact hK _ _ (h _ (S.put o.dst (x := .v v) trivial))
              | _ => simp at hh
            | _ => simp at hh
  | [] => simp [headO] at hh
  | .code _ :: _ => simp [headO] at hh
  | .blk _ :: _ => simp [headO] at hh
  | .rnd _ _ :: _ => simp [headO] at hh
  | .ops _ [] :: _ => simp [headO] at hh
theorem Sy.ldBox {b o : Nat} {ty ty' : TypeId} {cs : List Value} {v : Value} (S : Sy w0 r bs s F a w) (hf : rfBox b ty' cs ∈ F) (h : ldS P ty cs o = some v) : (loadVar ty ⟨b, o, none⟩).run P w = .ok v w :=
  ldS_run h (S.fact hf)
theorem noGoto_body {fn : Func} {R : Ending → World → Prop} : Exit.noGoto (bodyPost P fn R) = bodyPost P fn R := by
  funext e a w
  cases e <;> rfl
/-- A body that is one scope. -/
def scoC (c : Cfg) : Cfg := match c with
  | ⟨[.code (.scope x)], s⟩ => ⟨[.code x], s⟩
  | c => c
theorem sy_scope {c : Cfg} {fn : Func} {R : Ending → World → Prop} (S : Sy w0 r bs c.s F a w) (h : Sy w0 r bs (scoC c).s F a w → post P (scoC c).k (bodyPost P fn R) .normal a w) : post P c.k (bodyPost P fn R) .normal a w := by
  unfold scoC at h
  split at h
  · rename_i x s
    have h1 : x.wp P (bodyPost P fn R) a w := h S
    have h2 : (Code.scope x).wp P (bodyPost P fn R) a w := wp_scope_straight (by rw [noGoto_body]; exact h1)
    exact h2
  · exact h S
/-- A label is passed. -/
def labC (c : Cfg) : Cfg := match c with
  | ⟨.code (.label _) :: k, s⟩ => ⟨k, s⟩
  | c => c
theorem sy_label {c : Cfg} {Q : Exit → Act → World → Prop} (S : Sy w0 r bs c.s F a w) (h : Sy w0 r bs (labC c).s F a w → post P (labC c).k Q .normal a w) : post P c.k Q .normal a w := by
  unfold labC at h
  split at h
  · rename_i l k s
    have h1 : (Code.label l).wp P (post P k Q) a w := wp_label (h S)
    exact h1
  · exact h S
def aidxS (P : Program) (t : TypeId) (n : Nat) : Option Nat :=
  match P.underlying t with
  | some (.array len elem) => match Nat.blt n len, (P.info? elem).map (·.size) with
    | true, some size => some (n * size)
    | _, _ => none
  | _ => none
/-- The address of an array's element, of the walk's own array, at a known index. -/
def idxC (P : Program) (c : Cfg) : Option Cfg :=
  match c with
  | ⟨.ops all (o :: l) :: k, s⟩ => match wantS s all o, o.op with
    | some true, .indexAddr t x ix => match s.val x, s.val ix with
      | some (.p i off), some (.v (.int _ (.ofNat n))) => (aidxS P t n).map fun q => ⟨.ops all l :: k, s.put o.dst (.p i (off + q))⟩
      | _, _ => none
    | _, _ => none
  | _ => none
theorem addr_addS (b o k : Nat) : (⟨b, o, none⟩ : Addr).add k = ⟨b, o + k, none⟩ := by unfold Addr.add; split <;> simp_all
theorem idxC_sound {c c' : Cfg} (S : Sy w0 r bs c.s F a w) (hh : idxC P c = some c') {Q : Exit → Act → World → Prop}
    (h : ∀ a', Sy w0 r bs c'.s F a' w → post P c'.k Q .normal a' w) : post P c.k Q .normal a w := by
  obtain ⟨k, s⟩ := c
  match k with
  | .ops all (o :: l) :: k =>
    show wpList P all (post P k Q) (o :: l) a w
    refine wpList_step fun K hK => ?_
    unfold idxC at hh
    simp only at hh
    cases hw : wantS s all o with
    | none => rw [hw] at hh; simp at hh
    | some b =>
      rw [hw] at hh
      cases b with
      | false => simp at hh
      | true =>
        cases ho : o.op <;> rw [ho] at hh <;> simp only [reduceCtorEq] at hh
        case indexAddr t x ix =>
          cases hx : s.val x with
          | none => rw [hx] at hh; simp at hh
          | some y =>
            rw [hx] at hh
            cases y with
            | p i off =>
              cases hi : s.val ix with
              | none => rw [hi] at hh; simp at hh
              | some z =>
                rw [hi] at hh
                cases z with
                | v z =>
                  cases z with
                  | int kk m =>
                    cases m with
                    | ofNat n =>
                      simp only at hh
                      cases hq : aidxS P t n with
                      | none => rw [hq] at hh; cases hh
                      | some q =>
                        rw [hq] at hh
                        simp only [Option.map_some, Option.some.injEq] at hh
                        subst hh
                        obtain ⟨h1, h1'⟩ := S.val hx
                        have h2 := (S.val hi).1
                        rw [wantS_sound S hw, if_pos rfl]
                        unfold aidxS at hq
                        cases hu : P.underlying t with
                        | none => rw [hu] at hq; cases hq
                        | some d =>
                          rw [hu] at hq
                          cases d <;> (try (cases hq; done))
                          rename_i len elem
                          simp only at hq
                          cases hnl : Nat.blt n len with
                          | false => rw [hnl] at hq; cases hq
                          | true =>
                            cases hs : (P.info? elem).map (·.size) with
                            | none => rw [hnl, hs] at hq; cases hq
                            | some size =>
                              rw [hnl, hs] at hq
                              simp only [Option.some.injEq] at hq
                              subst hq
                              have hlt : n < len := by rw [Nat.blt, Nat.ble_eq] at hnl; exact hnl
                              unfold Oper.wp execOp
                              simp only [ho, h1, h2, den, adr, Instr.indexAt, Instr.sureAddr, asIntOf, Sem.run_bind, Sem.run_pure, Result.andThen_ok, run_underlying hu w]
                              rw [if_pos ⟨by simp, by simpa using hlt⟩]
                              simp only [Sem.run_bind, run_info hs, Result.andThen_ok, Sem.run_pure, addr_addS]
                              exact hK _ _ (h _ (S.put o.dst (x := .p i (off + n * size)) h1'))
                    | negSucc n => simp at hh
                  | _ => simp at hh
                | _ => simp at hh
            | _ => simp at hh
  | [] => simp [idxC] at hh
  | .code _ :: _ => simp [idxC] at hh
  | .blk _ :: _ => simp [idxC] at hh
  | .rnd _ _ :: _ => simp [idxC] at hh
  | .ops _ [] :: _ => simp [idxC] at hh
def idxD (P : Program) (c : Cfg) : Cfg := (idxC P c).getD c
theorem sy_idx {c : Cfg} (S : Sy w0 r bs c.s F a w) {Q : Exit → Act → World → Prop}
    (h : ∀ a', Sy w0 r bs (idxD P c).s F a' w → post P (idxD P c).k Q .normal a' w) : post P c.k Q .normal a w := by
  unfold idxD at h
  cases e : idxC P c with
  | none => rw [e] at h; exact h a S
  | some c' => rw [e] at h; exact idxC_sound S e h
end
end Go.Proofs.Ytdfngmplfgifiaa.SX


/-
  Layer 18: the change of a mask over a log.
-/
namespace Go.Proofs.Ytdfngmplfgifiaa
open Go Go.RowKit SX
set_option linter.unusedVariables false
set_option maxRecDepth 100000
attribute [local irreducible] post

theorem toBelow {P : Program} {f : FuncId} {args : Array Value} {w : World} {v : Value} (h : Calls P f args w fun e w' => e = .returned v ∧ w = w') : Calls P f args w fun e w' => e = .returned v ∧ Below w.heap.size w w' :=
  h.mono fun e w' ⟨h1, h2⟩ => ⟨h1, h2 ▸ Below.refl _ _⟩
theorem join_any (t m : Int) (hm : I64 m) (w : World) : Calls Try.prog 68 #[.agg #[.int .i64 t], .int .i64 m] w fun e w' => e = .returned (.int .i64 (withT m t)) ∧ Below w.heap.size w w' := by
  refine sy_enter Try.func68 rfl fun a S => ?_
  refine sy_run ⟨0, []⟩ 100 S fun bs a w1 S => ?_
  refine sy_call1 S (toBelow (wwith_any m t hm w1)) (by kernel_rfl) fun a w2 hb S => ?_
  refine sy_run ⟨0, []⟩ 100 S fun bs a w3 S => ?_
  exact sy_ret S (by kernel_rfl) (by kernel_rfl) fun g => ⟨rfl, below_of_gr g⟩
theorem quit_any (t m : Int) (hm : I64 m) (w : World) : Calls Try.prog 69 #[.agg #[.int .i64 t], .int .i64 m] w fun e w' => e = .returned (.int .i64 (sansT m t)) ∧ Below w.heap.size w w' := by
  refine sy_enter Try.func69 rfl fun a S => ?_
  refine sy_run ⟨0, []⟩ 100 S fun bs a w1 S => ?_
  refine sy_call1 S (toBelow (wwithout_any m t hm w1)) (by kernel_rfl) fun a w2 hb S => ?_
  refine sy_run ⟨0, []⟩ 100 S fun bs a w3 S => ?_
  exact sy_ret S (by kernel_rfl) (by kernel_rfl) fun g => ⟨rfl, below_of_gr g⟩
/-- A mask's change over a log. -/
def runV (ap : Int → Int) (cell : Int) : List (Int × Bool) → Ask ⊕ OutD
  | [] => .inl ⟨1, cell, 0, 0⟩
  | r :: l => if ap r.1 = r.1 then .inr {} else match l with
    | [] => .inl ⟨3, cell, r.1, ap r.1⟩
    | (_, true) :: _ => .inr { ok := true }
    | (_, false) :: l => runV ap cell l

noncomputable def vc_join (cell t : Int) (g : Nat) : Cfg := runC Try.prog ⟨0, []⟩ 50 (cfg0 Try.f45 #[.agg #[.int .i64 cell, .func (.func 68) #[.agg #[.int .i64 t]] #[]], .pointer (some ⟨g, 0, none⟩)])
noncomputable def vs_join (cell t : Int) (g : Nat) : SS := ⟨26, [(1, .v (.pointer (some ⟨g, 0, none⟩))), (2, .p 0 0), (4, .p 1 0)], [⟨97, [.int .i64 cell, .func (.func 68) #[.agg #[.int .i64 t]] #[]]⟩, ⟨42, [.int .i64 0, .int .i64 0, .int .i64 0, .int .i64 0, .bool false, .bool false, .int .i64 0]⟩]⟩
set_option maxHeartbeats 8000000 in
theorem vk_join (w0 : World) (cell t : Int) (g : Nat) (N : Nat) : ∀ (l : List (Int × Bool)) (n : Nat) (bs : List Nat) (a : Act) (w : World), l.length < N → l.length < n → (∀ x ∈ l, I64 x.1) → Sy w0 (some g) bs (vs_join cell t g) [rfRun g l] a w →
    post Try.prog (.rnd n (bodyL (vc_join cell t g)) :: (vc_join cell t g).k.tail) (bodyPost Try.prog Try.f45 (OpPost (runV (fun m => withT m t) cell l) g w0)) .normal a w := by
  induction N with
  | zero => intro l n bs a w h; omega
  | succ N ih =>
    intro l n bs a w hN hn hI S
    obtain ⟨n, rfl⟩ : ∃ m, n = m + 1 := ⟨n - 1, by omega⟩
    rcases l with _ | ⟨r, l⟩
    · refine sy_run (c := ⟨.rnd (n + 1) (bodyL (vc_join cell t g)) :: (vc_join cell t g).k.tail, vs_join cell t g⟩) ⟨0, []⟩ 50 S fun bs a w S => ?_
      exact sy_panic S ((load_none w g cell S.run).mono fun e w' h => ⟨h.1, gb_of_below _ h.2⟩) (by kernel_rfl) fun w' hg => ⟨rfl, hg⟩
    · rcases Decidable.em ((fun m => withT m t) r.1 = r.1) with hr | hr
      · have e : runV (fun m => withT m t) cell (r :: l) = .inr {} := by unfold runV; rw [if_pos hr]
        refine sy_run (c := ⟨.rnd (n + 1) (bodyL (vc_join cell t g)) :: (vc_join cell t g).k.tail, vs_join cell t g⟩) ⟨0, []⟩ 50 S fun bs a w S => ?_
        refine sy_acc S (Or.inl rfl) (load_some w g r l cell S.run) (by kernel_rfl) (by simp) fun a w S => ?_
        refine sy_run ⟨0, []⟩ 50 S fun bs a w S => ?_
        refine sy_call1 S (join_any t r.1 (hI r (by simp)) w) (by kernel_rfl) fun a w hb S => ?_
        refine sy_run ⟨0, [3]⟩ 50 S fun bs a w S => ?_
        refine sy_reg S fun S => ?_
        refine sy_ops 4 S fun bs a w S => ?_
        refine sy_cond true S (by simpa using hr : decide ((fun m => withT m t) r.1 = r.1) = true) (by kernel_rfl) fun S => ?_
        refine sy_run ⟨0, []⟩ 50 S fun bs a w S => ?_
        exact sy_ret S (by kernel_rfl) (by kernel_rfl) fun hg => by rw [e]; exact ⟨rfl, hg⟩
      · rcases l with _ | ⟨⟨y, b⟩, l⟩
        · have e : runV (fun m => withT m t) cell [r] = .inl ⟨3, cell, r.1, (fun m => withT m t) r.1⟩ := by unfold runV; rw [if_neg hr]
          refine sy_run (c := ⟨.rnd (n + 1) (bodyL (vc_join cell t g)) :: (vc_join cell t g).k.tail, vs_join cell t g⟩) ⟨0, []⟩ 50 S fun bs a w S => ?_
          refine sy_acc S (Or.inl rfl) (load_some w g r [] cell S.run) (by kernel_rfl) (by simp) fun a w S => ?_
          refine sy_run ⟨0, []⟩ 50 S fun bs a w S => ?_
          refine sy_call1 S (join_any t r.1 (hI r (by simp)) w) (by kernel_rfl) fun a w hb S => ?_
          refine sy_run ⟨0, [3]⟩ 50 S fun bs a w S => ?_
          refine sy_reg S fun S => ?_
          refine sy_ops 4 S fun bs a w S => ?_
          refine sy_cond false S (by simpa using hr : decide ((fun m => withT m t) r.1 = r.1) = false) (by kernel_rfl) fun S => ?_
          refine sy_run ⟨0, []⟩ 50 S fun bs a w S => ?_
          exact sy_panic S ((swap_none w g cell r.1 ((fun m => withT m t) r.1) S.run).mono fun e w' h => ⟨h.1, gb_of_below _ h.2⟩) (by kernel_rfl) fun w' hg => by rw [e]; exact ⟨rfl, hg⟩
        · cases b with
          | true =>
            have e : runV (fun m => withT m t) cell (r :: (y, true) :: l) = .inr { ok := true } := by unfold runV; rw [if_neg hr]
            refine sy_run (c := ⟨.rnd (n + 1) (bodyL (vc_join cell t g)) :: (vc_join cell t g).k.tail, vs_join cell t g⟩) ⟨0, []⟩ 50 S fun bs a w S => ?_
            refine sy_acc S (Or.inl rfl) (load_some w g r ((y, true) :: l) cell S.run) (by kernel_rfl) (by simp) fun a w S => ?_
            refine sy_run ⟨0, []⟩ 50 S fun bs a w S => ?_
            refine sy_call1 S (join_any t r.1 (hI r (by simp)) w) (by kernel_rfl) fun a w hb S => ?_
            refine sy_run ⟨0, [3]⟩ 50 S fun bs a w S => ?_
            refine sy_reg S fun S => ?_
            refine sy_ops 4 S fun bs a w S => ?_
            refine sy_cond false S (by simpa using hr : decide ((fun m => withT m t) r.1 = r.1) = false) (by kernel_rfl) fun S => ?_
            refine sy_run ⟨0, []⟩ 50 S fun bs a w S => ?_
            refine sy_acc S (Or.inl rfl) (swap_some w g (y, true) l cell r.1 ((fun m => withT m t) r.1) S.run) (by kernel_rfl) (by simp) fun a w S => ?_
            refine sy_run ⟨0, []⟩ 50 S fun bs a w S => ?_
            exact sy_ret S (by kernel_rfl) (by kernel_rfl) fun hg => by rw [e]; exact ⟨rfl, hg⟩
          | false =>
            have e : runV (fun m => withT m t) cell (r :: (y, false) :: l) = runV (fun m => withT m t) cell l := by rw [runV, if_neg hr]
            rw [e]
            refine sy_run (c := ⟨.rnd (n + 1) (bodyL (vc_join cell t g)) :: (vc_join cell t g).k.tail, vs_join cell t g⟩) ⟨0, []⟩ 50 S fun bs a w S => ?_
            refine sy_acc S (Or.inl rfl) (load_some w g r ((y, false) :: l) cell S.run) (by kernel_rfl) (by simp) fun a w S => ?_
            refine sy_run ⟨0, []⟩ 50 S fun bs a w S => ?_
            refine sy_call1 S (join_any t r.1 (hI r (by simp)) w) (by kernel_rfl) fun a w hb S => ?_
            refine sy_run ⟨0, [3]⟩ 50 S fun bs a w S => ?_
            refine sy_reg S fun S => ?_
            refine sy_ops 4 S fun bs a w S => ?_
            refine sy_cond false S (by simpa using hr : decide ((fun m => withT m t) r.1 = r.1) = false) (by kernel_rfl) fun S => ?_
            refine sy_run ⟨0, []⟩ 50 S fun bs a w S => ?_
            refine sy_acc S (Or.inl rfl) (swap_some w g (y, false) l cell r.1 ((fun m => withT m t) r.1) S.run) (by kernel_rfl) (by simp) fun a w S => ?_
            refine sy_run ⟨0, [999]⟩ 50 S fun bs a w S => ?_
            have S' := S.to [0, 1] (vs_join cell t g) (by kernel_rfl) (by kernel_rfl) (by kernel_rfl) (by kernel_rfl) (by kernel_rfl)
            refine sy_at (k := .rnd n (bodyL (vc_join cell t g)) :: (vc_join cell t g).k.tail) (by kernel_rfl) ?_
            exact ih l n _ a w (by simp at hN; omega) (by simp at hn; omega) (fun x hx => hI x (by simp [hx])) S'
theorem crun_join (cell t : Int) (g : Nat) (l : List (Int × Bool)) (hI : ∀ x ∈ l, I64 x.1) (w : World) (hR : RunAt w g l) : Calls Try.prog 45 #[.agg #[.int .i64 cell, .func (.func 68) #[.agg #[.int .i64 t]] #[]], .pointer (some ⟨g, 0, none⟩)] w (OpPost (runV (fun m => withT m t) cell l) g w) := by
  refine sy_enterF (some g) [rfRun g l] (by intro f hf; simp at hf; subst hf; exact hR) Try.func45 rfl fun a S => ?_
  refine sy_run ⟨0, []⟩ 50 S fun bs a w1 S => ?_
  have S' := S.to [0, 1] (vs_join cell t g) (by kernel_rfl) (by kernel_rfl) (by kernel_rfl) (by kernel_rfl) (by kernel_rfl)
  refine sy_loop (l.length + 1) (by kernel_rfl) ?_
  exact vk_join w cell t g (l.length + 1) l (l.length + 1) _ a w1 (by omega) (by omega) hI S'

noncomputable def vc_quit (cell t : Int) (g : Nat) : Cfg := runC Try.prog ⟨0, []⟩ 50 (cfg0 Try.f45 #[.agg #[.int .i64 cell, .func (.func 69) #[.agg #[.int .i64 t]] #[]], .pointer (some ⟨g, 0, none⟩)])
noncomputable def vs_quit (cell t : Int) (g : Nat) : SS := ⟨26, [(1, .v (.pointer (some ⟨g, 0, none⟩))), (2, .p 0 0), (4, .p 1 0)], [⟨97, [.int .i64 cell, .func (.func 69) #[.agg #[.int .i64 t]] #[]]⟩, ⟨42, [.int .i64 0, .int .i64 0, .int .i64 0, .int .i64 0, .bool false, .bool false, .int .i64 0]⟩]⟩
set_option maxHeartbeats 8000000 in
theorem vk_quit (w0 : World) (cell t : Int) (g : Nat) (N : Nat) : ∀ (l : List (Int × Bool)) (n : Nat) (bs : List Nat) (a : Act) (w : World), l.length < N → l.length < n → (∀ x ∈ l, I64 x.1) → Sy w0 (some g) bs (vs_quit cell t g) [rfRun g l] a w →
    post Try.prog (.rnd n (bodyL (vc_quit cell t g)) :: (vc_quit cell t g).k.tail) (bodyPost Try.prog Try.f45 (OpPost (runV (fun m => sansT m t) cell l) g w0)) .normal a w := by
  induction N with
  | zero => intro l n bs a w h; omega
  | succ N ih =>
    intro l n bs a w hN hn hI S
    obtain ⟨n, rfl⟩ : ∃ m, n = m + 1 := ⟨n - 1, by omega⟩
    rcases l with _ | ⟨r, l⟩
    · refine sy_run (c := ⟨.rnd (n + 1) (bodyL (vc_quit cell t g)) :: (vc_quit cell t g).k.tail, vs_quit cell t g⟩) ⟨0, []⟩ 50 S fun bs a w S => ?_
      exact sy_panic S ((load_none w g cell S.run).mono fun e w' h => ⟨h.1, gb_of_below _ h.2⟩) (by kernel_rfl) fun w' hg => ⟨rfl, hg⟩
    · rcases Decidable.em ((fun m => sansT m t) r.1 = r.1) with hr | hr
      · have e : runV (fun m => sansT m t) cell (r :: l) = .inr {} := by unfold runV; rw [if_pos hr]
        refine sy_run (c := ⟨.rnd (n + 1) (bodyL (vc_quit cell t g)) :: (vc_quit cell t g).k.tail, vs_quit cell t g⟩) ⟨0, []⟩ 50 S fun bs a w S => ?_
        refine sy_acc S (Or.inl rfl) (load_some w g r l cell S.run) (by kernel_rfl) (by simp) fun a w S => ?_
        refine sy_run ⟨0, []⟩ 50 S fun bs a w S => ?_
        refine sy_call1 S (quit_any t r.1 (hI r (by simp)) w) (by kernel_rfl) fun a w hb S => ?_
        refine sy_run ⟨0, [3]⟩ 50 S fun bs a w S => ?_
        refine sy_reg S fun S => ?_
        refine sy_ops 4 S fun bs a w S => ?_
        refine sy_cond true S (by simpa using hr : decide ((fun m => sansT m t) r.1 = r.1) = true) (by kernel_rfl) fun S => ?_
        refine sy_run ⟨0, []⟩ 50 S fun bs a w S => ?_
        exact sy_ret S (by kernel_rfl) (by kernel_rfl) fun hg => by rw [e]; exact ⟨rfl, hg⟩
      · rcases l with _ | ⟨⟨y, b⟩, l⟩
        · have e : runV (fun m => sansT m t) cell [r] = .inl ⟨3, cell, r.1, (fun m => sansT m t) r.1⟩ := by unfold runV; rw [if_neg hr]
          refine sy_run (c := ⟨.rnd (n + 1) (bodyL (vc_quit cell t g)) :: (vc_quit cell t g).k.tail, vs_quit cell t g⟩) ⟨0, []⟩ 50 S fun bs a w S => ?_
          refine sy_acc S (Or.inl rfl) (load_some w g r [] cell S.run) (by kernel_rfl) (by simp) fun a w S => ?_
          refine sy_run ⟨0, []⟩ 50 S fun bs a w S => ?_
          refine sy_call1 S (quit_any t r.1 (hI r (by simp)) w) (by kernel_rfl) fun a w hb S => ?_
          refine sy_run ⟨0, [3]⟩ 50 S fun bs a w S => ?_
          refine sy_reg S fun S => ?_
          refine sy_ops 4 S fun bs a w S => ?_
          refine sy_cond false S (by simpa using hr : decide ((fun m => sansT m t) r.1 = r.1) = false) (by kernel_rfl) fun S => ?_
          refine sy_run ⟨0, []⟩ 50 S fun bs a w S => ?_
          exact sy_panic S ((swap_none w g cell r.1 ((fun m => sansT m t) r.1) S.run).mono fun e w' h => ⟨h.1, gb_of_below _ h.2⟩) (by kernel_rfl) fun w' hg => by rw [e]; exact ⟨rfl, hg⟩
        · cases b with
          | true =>
            have e : runV (fun m => sansT m t) cell (r :: (y, true) :: l) = .inr { ok := true } := by unfold runV; rw [if_neg hr]
            refine sy_run (c := ⟨.rnd (n + 1) (bodyL (vc_quit cell t g)) :: (vc_quit cell t g).k.tail, vs_quit cell t g⟩) ⟨0, []⟩ 50 S fun bs a w S => ?_
            refine sy_acc S (Or.inl rfl) (load_some w g r ((y, true) :: l) cell S.run) (by kernel_rfl) (by simp) fun a w S => ?_
            refine sy_run ⟨0, []⟩ 50 S fun bs a w S => ?_
            refine sy_call1 S (quit_any t r.1 (hI r (by simp)) w) (by kernel_rfl) fun a w hb S => ?_
            refine sy_run ⟨0, [3]⟩ 50 S fun bs a w S => ?_
            refine sy_reg S fun S => ?_
            refine sy_ops 4 S fun bs a w S => ?_
            refine sy_cond false S (by simpa using hr : decide ((fun m => sansT m t) r.1 = r.1) = false) (by kernel_rfl) fun S => ?_
            refine sy_run ⟨0, []⟩ 50 S fun bs a w S => ?_
            refine sy_acc S (Or.inl rfl) (swap_some w g (y, true) l cell r.1 ((fun m => sansT m t) r.1) S.run) (by kernel_rfl) (by simp) fun a w S => ?_
            refine sy_run ⟨0, []⟩ 50 S fun bs a w S => ?_
            exact sy_ret S (by kernel_rfl) (by kernel_rfl) fun hg => by rw [e]; exact ⟨rfl, hg⟩
          | false =>
            have e : runV (fun m => sansT m t) cell (r :: (y, false) :: l) = runV (fun m => sansT m t) cell l := by rw [runV, if_neg hr]
            rw [e]
            refine sy_run (c := ⟨.rnd (n + 1) (bodyL (vc_quit cell t g)) :: (vc_quit cell t g).k.tail, vs_quit cell t g⟩) ⟨0, []⟩ 50 S fun bs a w S => ?_
            refine sy_acc S (Or.inl rfl) (load_some w g r ((y, false) :: l) cell S.run) (by kernel_rfl) (by simp) fun a w S => ?_
            refine sy_run ⟨0, []⟩ 50 S fun bs a w S => ?_
            refine sy_call1 S (quit_any t r.1 (hI r (by simp)) w) (by kernel_rfl) fun a w hb S => ?_
            refine sy_run ⟨0, [3]⟩ 50 S fun bs a w S => ?_
            refine sy_reg S fun S => ?_
            refine sy_ops 4 S fun bs a w S => ?_
            refine sy_cond false S (by simpa using hr : decide ((fun m => sansT m t) r.1 = r.1) = false) (by kernel_rfl) fun S => ?_
            refine sy_run ⟨0, []⟩ 50 S fun bs a w S => ?_
            refine sy_acc S (Or.inl rfl) (swap_some w g (y, false) l cell r.1 ((fun m => sansT m t) r.1) S.run) (by kernel_rfl) (by simp) fun a w S => ?_
            refine sy_run ⟨0, [999]⟩ 50 S fun bs a w S => ?_
            have S' := S.to [0, 1] (vs_quit cell t g) (by kernel_rfl) (by kernel_rfl) (by kernel_rfl) (by kernel_rfl) (by kernel_rfl)
            refine sy_at (k := .rnd n (bodyL (vc_quit cell t g)) :: (vc_quit cell t g).k.tail) (by kernel_rfl) ?_
            exact ih l n _ a w (by simp at hN; omega) (by simp at hn; omega) (fun x hx => hI x (by simp [hx])) S'
theorem crun_quit (cell t : Int) (g : Nat) (l : List (Int × Bool)) (hI : ∀ x ∈ l, I64 x.1) (w : World) (hR : RunAt w g l) : Calls Try.prog 45 #[.agg #[.int .i64 cell, .func (.func 69) #[.agg #[.int .i64 t]] #[]], .pointer (some ⟨g, 0, none⟩)] w (OpPost (runV (fun m => sansT m t) cell l) g w) := by
  refine sy_enterF (some g) [rfRun g l] (by intro f hf; simp at hf; subst hf; exact hR) Try.func45 rfl fun a S => ?_
  refine sy_run ⟨0, []⟩ 50 S fun bs a w1 S => ?_
  have S' := S.to [0, 1] (vs_quit cell t g) (by kernel_rfl) (by kernel_rfl) (by kernel_rfl) (by kernel_rfl) (by kernel_rfl)
  refine sy_loop (l.length + 1) (by kernel_rfl) ?_
  exact vk_quit w cell t g (l.length + 1) l (l.length + 1) _ a w1 (by omega) (by omega) hI S'
end Go.Proofs.Ytdfngmplfgifiaa


/-
  Layer 18: which change an operation makes, and the next access of one.
-/
namespace Go.Proofs.Ytdfngmplfgifiaa
open Go Go.RowKit SX
set_option linter.unusedVariables false
set_option maxRecDepth 100000
attribute [local irreducible] post GD

def kd (k a b ty : Int) (ms mk ma : Int) (sa wa da : Option Addr) (sl sc wl wc dl dc : Nat) : Value := .agg #[.int .i64 k, .int .i64 a, .int .i64 b, .int .i64 ty, .int .i64 ms, .int .i64 mk, .int .i64 ma, .slice sa sl sc, .slice wa wl wc, .slice da dl dc]
def chJ (c t : Int) : Value := .agg #[.int .i64 c, .func (.func 68) #[.agg #[.int .i64 t]] #[]]
def chQ (c t : Int) : Value := .agg #[.int .i64 c, .func (.func 69) #[.agg #[.int .i64 t]] #[]]
set_option maxHeartbeats 4000000 in
theorem chof_1 (w : World) (L : Ly) (hok : L.ok) (t : Int) (a b ty : Int) (ms mk ma : Int) (sa wa da : Option Addr) (sl sc wl wc dl dc : Nat) : Calls Try.prog 42 #[L.v, .agg #[.int .i64 t], (kd 1 a b ty ms mk ma sa wa da sl sc wl wc dl dc)] w fun e w' => e = .returned (.tuple #[chJ (atReaders L a) t, .bool true]) ∧ Below w.heap.size w w' := by
  refine sy_enter Try.func42 rfl fun aa S => ?_
  refine sy_run ⟨0, []⟩ 60 S fun bs aa w1 S => ?_
  refine dr_enter [0, 1, 2] (by kernel_rfl) (by kernel_rfl) S (by kernel_rfl) fun aa w2 D => ?_
  refine dr_call1 3 D (by kernel_rfl) (by kernel_rfl) (by kernel_rfl) (readers_any L a w2 hok) (by kernel_rfl) fun aa w3 hb D => ?_
  refine dr_op 7 D (by kernel_rfl) (by kernel_rfl) (by kernel_rfl) (by simp) (by kernel_rfl) (by kernel_rfl) fun bs2 aa w4 D hl => ?_
  refine dr_end D (by kernel_rfl) fun S => ?_
  refine sy_run ⟨0, []⟩ 60 S fun bs aa w5 S => ?_
  exact sy_ret S (by kernel_rfl) (by kernel_rfl) fun g => ⟨rfl, below_of_gr g⟩
set_option maxHeartbeats 4000000 in
theorem chof_2 (w : World) (L : Ly) (hok : L.ok) (t : Int) (a b ty : Int) (ms mk ma : Int) (sa wa da : Option Addr) (sl sc wl wc dl dc : Nat) : Calls Try.prog 42 #[L.v, .agg #[.int .i64 t], (kd 2 a b ty ms mk ma sa wa da sl sc wl wc dl dc)] w fun e w' => e = .returned (.tuple #[chQ (atReaders L a) t, .bool true]) ∧ Below w.heap.size w w' := by
  refine sy_enter Try.func42 rfl fun aa S => ?_
  refine sy_run ⟨0, []⟩ 60 S fun bs aa w1 S => ?_
  refine dr_enter [0, 1, 2] (by kernel_rfl) (by kernel_rfl) S (by kernel_rfl) fun aa w2 D => ?_
  refine dr_call1 3 D (by kernel_rfl) (by kernel_rfl) (by kernel_rfl) (readers_any L a w2 hok) (by kernel_rfl) fun aa w3 hb D => ?_
  refine dr_op 7 D (by kernel_rfl) (by kernel_rfl) (by kernel_rfl) (by simp) (by kernel_rfl) (by kernel_rfl) fun bs2 aa w4 D hl => ?_
  refine dr_end D (by kernel_rfl) fun S => ?_
  refine sy_run ⟨0, []⟩ 60 S fun bs aa w5 S => ?_
  exact sy_ret S (by kernel_rfl) (by kernel_rfl) fun g => ⟨rfl, below_of_gr g⟩
set_option maxHeartbeats 4000000 in
theorem chof_3 (w : World) (L : Ly) (hok : L.ok) (t : Int) (a b ty : Int) (ms mk ma : Int) (sa wa da : Option Addr) (sl sc wl wc dl dc : Nat) : Calls Try.prog 42 #[L.v, .agg #[.int .i64 t], (kd 3 a b ty ms mk ma sa wa da sl sc wl wc dl dc)] w fun e w' => e = .returned (.tuple #[chJ (atWaiters L a) t, .bool true]) ∧ Below w.heap.size w w' := by
  refine sy_enter Try.func42 rfl fun aa S => ?_
  refine sy_run ⟨0, []⟩ 60 S fun bs aa w1 S => ?_
  refine dr_enter [0, 1, 2] (by kernel_rfl) (by kernel_rfl) S (by kernel_rfl) fun aa w2 D => ?_
  refine dr_call1 3 D (by kernel_rfl) (by kernel_rfl) (by kernel_rfl) (waiters_any L a w2 hok) (by kernel_rfl) fun aa w3 hb D => ?_
  refine dr_op 7 D (by kernel_rfl) (by kernel_rfl) (by kernel_rfl) (by simp) (by kernel_rfl) (by kernel_rfl) fun bs2 aa w4 D hl => ?_
  refine dr_end D (by kernel_rfl) fun S => ?_
  refine sy_run ⟨0, []⟩ 60 S fun bs aa w5 S => ?_
  exact sy_ret S (by kernel_rfl) (by kernel_rfl) fun g => ⟨rfl, below_of_gr g⟩
set_option maxHeartbeats 4000000 in
theorem chof_4 (w : World) (L : Ly) (hok : L.ok) (t : Int) (a b ty : Int) (ms mk ma : Int) (sa wa da : Option Addr) (sl sc wl wc dl dc : Nat) : Calls Try.prog 42 #[L.v, .agg #[.int .i64 t], (kd 4 a b ty ms mk ma sa wa da sl sc wl wc dl dc)] w fun e w' => e = .returned (.tuple #[chQ (atWaiters L a) t, .bool true]) ∧ Below w.heap.size w w' := by
  refine sy_enter Try.func42 rfl fun aa S => ?_
  refine sy_run ⟨0, []⟩ 60 S fun bs aa w1 S => ?_
  refine dr_enter [0, 1, 2] (by kernel_rfl) (by kernel_rfl) S (by kernel_rfl) fun aa w2 D => ?_
  refine dr_call1 3 D (by kernel_rfl) (by kernel_rfl) (by kernel_rfl) (waiters_any L a w2 hok) (by kernel_rfl) fun aa w3 hb D => ?_
  refine dr_op 7 D (by kernel_rfl) (by kernel_rfl) (by kernel_rfl) (by simp) (by kernel_rfl) (by kernel_rfl) fun bs2 aa w4 D hl => ?_
  refine dr_end D (by kernel_rfl) fun S => ?_
  refine sy_run ⟨0, []⟩ 60 S fun bs aa w5 S => ?_
  exact sy_ret S (by kernel_rfl) (by kernel_rfl) fun g => ⟨rfl, below_of_gr g⟩
set_option maxHeartbeats 4000000 in
theorem chof_0 (w : World) (L : Ly) (t k : Int) (a b ty : Int) (ms mk ma : Int) (sa wa da : Option Addr) (sl sc wl wc dl dc : Nat) (h1 : k ≠ 1) (h2 : k ≠ 2) (h3 : k ≠ 3) (h4 : k ≠ 4) : Calls Try.prog 42 #[L.v, .agg #[.int .i64 t], (kd k a b ty ms mk ma sa wa da sl sc wl wc dl dc)] w fun e w' => e = .returned (.tuple #[.agg #[.int .i64 0, .nilFunc], .bool false]) ∧ Below w.heap.size w w' := by
  refine sy_enter Try.func42 rfl fun aa S => ?_
  refine sy_run ⟨0, [2]⟩ 60 S fun bs aa w1 S => ?_
  refine sy_reg S fun S => ?_
  refine sy_ops 3 S fun bs aa w1 S => ?_
  refine sy_cond false S (by simpa using h1 : decide (k = 1) = false) (by kernel_rfl) fun S => ?_
  refine sy_run ⟨0, [4]⟩ 60 S fun bs aa w1 S => ?_
  refine sy_reg S fun S => ?_
  refine sy_ops 3 S fun bs aa w1 S => ?_
  refine sy_cond false S (by simpa using h2 : decide (k = 2) = false) (by kernel_rfl) fun S => ?_
  refine sy_run ⟨0, [6]⟩ 60 S fun bs aa w1 S => ?_
  refine sy_reg S fun S => ?_
  refine sy_ops 3 S fun bs aa w1 S => ?_
  refine sy_cond false S (by simpa using h3 : decide (k = 3) = false) (by kernel_rfl) fun S => ?_
  refine sy_run ⟨0, [8]⟩ 60 S fun bs aa w1 S => ?_
  refine sy_reg S fun S => ?_
  refine sy_ops 3 S fun bs aa w1 S => ?_
  refine sy_cond false S (by simpa using h4 : decide (k = 4) = false) (by kernel_rfl) fun S => ?_
  refine sy_run ⟨0, []⟩ 60 S fun bs aa w1 S => ?_
  exact sy_ret S (by kernel_rfl) (by kernel_rfl) fun g => ⟨rfl, below_of_gr g⟩
set_option maxHeartbeats 4000000 in
theorem nxta_1 (w : World) (L : Ly) (hok : L.ok) (t : Int) (a b ty : Int) (ms mk ma : Int) (sa wa da : Option Addr) (sl sc wl wc dl dc : Nat) (v : Value) (l : List (Int × Bool)) (hv : LogOf w v l) (hc : decide (atReaders L a < 0) = true) : Calls Try.prog 13 #[L.v, .int .i64 t, (kd 1 a b ty ms mk ma sa wa da sl sc wl wc dl dc), v] w fun e w' => e = .returned (nextV (.inr { err := 1 })) ∧ Below w.heap.size w w' := by
  refine sy_enterF none [rfLog v l] (by intro f hf; simp at hf; subst hf; exact hv) Try.func13 rfl fun aa S => ?_
  refine sy_run ⟨0, []⟩ 60 S fun bs aa w1 S => ?_
  refine sy_call1 S (chof_1 w1 L hok t a b ty ms mk ma sa wa da sl sc wl wc dl dc) (by kernel_rfl) fun aa w2 hb S => ?_
  refine sy_run ⟨0, [2]⟩ 60 S fun bs aa w1 S => ?_
  refine sy_reg S fun S => ?_
  refine sy_ops 8 S fun bs aa w1 S => ?_
  refine sy_cast 28 S (congrArg Value.bool hc) (by kernel_rfl) fun S => ?_
  refine sy_run ⟨0, []⟩ 60 S fun bs aa w1 S => ?_
  refine sy_call1 S (refuse_any 1 w1) (by kernel_rfl) fun aa w2 hb S => ?_
  refine sy_run ⟨0, []⟩ 60 S fun bs aa w1 S => ?_
  exact sy_ret S (by kernel_rfl) (by kernel_rfl) fun g => ⟨rfl, below_of_gr g⟩
set_option maxHeartbeats 4000000 in
theorem nxtb_1 (w : World) (L : Ly) (hok : L.ok) (t : Int) (a b ty : Int) (ms mk ma : Int) (sa wa da : Option Addr) (sl sc wl wc dl dc : Nat) (v : Value) (l : List (Int × Bool)) (hv : LogOf w v l) (hc : decide (atReaders L a < 0) = false) (hs : decide (atStatus L t < 0) = true) : Calls Try.prog 13 #[L.v, .int .i64 t, (kd 1 a b ty ms mk ma sa wa da sl sc wl wc dl dc), v] w fun e w' => e = .returned (nextV (.inr { err := 1 })) ∧ Below w.heap.size w w' := by
  refine sy_enterF none [rfLog v l] (by intro f hf; simp at hf; subst hf; exact hv) Try.func13 rfl fun aa S => ?_
  refine sy_run ⟨0, []⟩ 60 S fun bs aa w1 S => ?_
  refine sy_call1 S (chof_1 w1 L hok t a b ty ms mk ma sa wa da sl sc wl wc dl dc) (by kernel_rfl) fun aa w2 hb S => ?_
  refine sy_run ⟨0, [2]⟩ 60 S fun bs aa w1 S => ?_
  refine sy_reg S fun S => ?_
  refine sy_ops 8 S fun bs aa w1 S => ?_
  refine sy_cast 28 S (congrArg Value.bool hc) (by kernel_rfl) fun S => ?_
  refine sy_run ⟨0, []⟩ 60 S fun bs aa w1 S => ?_
  refine sy_call1 S (status_any L t w1 hok) (by kernel_rfl) fun aa w2 hb S => ?_
  refine sy_ops 3 S fun bs aa w1 S => ?_
  refine sy_cond true S hs (by kernel_rfl) fun S => ?_
  refine sy_run ⟨0, []⟩ 60 S fun bs aa w1 S => ?_
  refine sy_call1 S (refuse_any 1 w1) (by kernel_rfl) fun aa w2 hb S => ?_
  refine sy_run ⟨0, []⟩ 60 S fun bs aa w1 S => ?_
  exact sy_ret S (by kernel_rfl) (by kernel_rfl) fun g => ⟨rfl, below_of_gr g⟩
set_option maxHeartbeats 4000000 in
theorem nxtc_1 (w : World) (L : Ly) (hok : L.ok) (t : Int) (a b ty : Int) (ms mk ma : Int) (sa wa da : Option Addr) (sl sc wl wc dl dc : Nat) (v : Value) (l : List (Int × Bool)) (hv : LogOf w v l) (hI : ∀ x ∈ l, I64 x.1) (hc : decide (atReaders L a < 0) = false) (hs : decide (atStatus L t < 0) = false) (x : Ask ⊕ OutD) (hx : runV (fun m => withT m t) (atReaders L a) l = x) : Calls Try.prog 13 #[L.v, .int .i64 t, (kd 1 a b ty ms mk ma sa wa da sl sc wl wc dl dc), v] w fun e w' => e = .returned (nextV x) ∧ Below w.heap.size w w' := by
  refine sy_enterF none [rfLog v l] (by intro f hf; simp at hf; subst hf; exact hv) Try.func13 rfl fun aa S => ?_
  refine sy_run ⟨0, []⟩ 60 S fun bs aa w1 S => ?_
  refine sy_call1 S (chof_1 w1 L hok t a b ty ms mk ma sa wa da sl sc wl wc dl dc) (by kernel_rfl) fun aa w2 hb S => ?_
  refine sy_run ⟨0, [2]⟩ 60 S fun bs aa w1 S => ?_
  refine sy_reg S fun S => ?_
  refine sy_ops 8 S fun bs aa w1 S => ?_
  refine sy_cast 28 S (congrArg Value.bool hc) (by kernel_rfl) fun S => ?_
  refine sy_run ⟨0, []⟩ 60 S fun bs aa w1 S => ?_
  refine sy_call1 S (status_any L t w1 hok) (by kernel_rfl) fun aa w2 hb S => ?_
  refine sy_ops 3 S fun bs aa w1 S => ?_
  refine sy_cond false S hs (by kernel_rfl) fun S => ?_
  refine sy_run ⟨0, []⟩ 60 S fun bs aa w1 S => ?_
  cases x with
  | inl o =>
    refine sy_call1 S (of_m1 w1 v l 45 (by intro args w; rfl) (chJ (atReaders L a) t) (.inl o) (S.fact (f := rfLog v l) (by simp)) (fun w1 g hb hg hR => by rw [← hx]; exact crun_join _ t g l hI w1 hR)) (by kernel_rfl) fun aa w2 hb S => ?_
    refine sy_run ⟨0, []⟩ 60 S fun bs aa w1 S => ?_
    exact sy_ret S (by kernel_rfl) (by kernel_rfl) fun g => ⟨rfl, below_of_gr g⟩
  | inr o =>
    refine sy_call1 S (of_m1 w1 v l 45 (by intro args w; rfl) (chJ (atReaders L a) t) (.inr o) (S.fact (f := rfLog v l) (by simp)) (fun w1 g hb hg hR => by rw [← hx]; exact crun_join _ t g l hI w1 hR)) (by kernel_rfl) fun aa w2 hb S => ?_
    refine sy_run ⟨0, []⟩ 60 S fun bs aa w1 S => ?_
    exact sy_ret S (by kernel_rfl) (by kernel_rfl) fun g => ⟨rfl, below_of_gr g⟩
set_option maxHeartbeats 4000000 in
theorem nxta_2 (w : World) (L : Ly) (hok : L.ok) (t : Int) (a b ty : Int) (ms mk ma : Int) (sa wa da : Option Addr) (sl sc wl wc dl dc : Nat) (v : Value) (l : List (Int × Bool)) (hv : LogOf w v l) (hc : decide (atReaders L a < 0) = true) : Calls Try.prog 13 #[L.v, .int .i64 t, (kd 2 a b ty ms mk ma sa wa da sl sc wl wc dl dc), v] w fun e w' => e = .returned (nextV (.inr { err := 1 })) ∧ Below w.heap.size w w' := by
  refine sy_enterF none [rfLog v l] (by intro f hf; simp at hf; subst hf; exact hv) Try.func13 rfl fun aa S => ?_
  refine sy_run ⟨0, []⟩ 60 S fun bs aa w1 S => ?_
  refine sy_call1 S (chof_2 w1 L hok t a b ty ms mk ma sa wa da sl sc wl wc dl dc) (by kernel_rfl) fun aa w2 hb S => ?_
  refine sy_run ⟨0, [2]⟩ 60 S fun bs aa w1 S => ?_
  refine sy_reg S fun S => ?_
  refine sy_ops 8 S fun bs aa w1 S => ?_
  refine sy_cast 28 S (congrArg Value.bool hc) (by kernel_rfl) fun S => ?_
  refine sy_run ⟨0, []⟩ 60 S fun bs aa w1 S => ?_
  refine sy_call1 S (refuse_any 1 w1) (by kernel_rfl) fun aa w2 hb S => ?_
  refine sy_run ⟨0, []⟩ 60 S fun bs aa w1 S => ?_
  exact sy_ret S (by kernel_rfl) (by kernel_rfl) fun g => ⟨rfl, below_of_gr g⟩
set_option maxHeartbeats 4000000 in
theorem nxtb_2 (w : World) (L : Ly) (hok : L.ok) (t : Int) (a b ty : Int) (ms mk ma : Int) (sa wa da : Option Addr) (sl sc wl wc dl dc : Nat) (v : Value) (l : List (Int × Bool)) (hv : LogOf w v l) (hc : decide (atReaders L a < 0) = false) (hs : decide (atStatus L t < 0) = true) : Calls Try.prog 13 #[L.v, .int .i64 t, (kd 2 a b ty ms mk ma sa wa da sl sc wl wc dl dc), v] w fun e w' => e = .returned (nextV (.inr { err := 1 })) ∧ Below w.heap.size w w' := by
  refine sy_enterF none [rfLog v l] (by intro f hf; simp at hf; subst hf; exact hv) Try.func13 rfl fun aa S => ?_
  refine sy_run ⟨0, []⟩ 60 S fun bs aa w1 S => ?_
  refine sy_call1 S (chof_2 w1 L hok t a b ty ms mk ma sa wa da sl sc wl wc dl dc) (by kernel_rfl) fun aa w2 hb S => ?_
  refine sy_run ⟨0, [2]⟩ 60 S fun bs aa w1 S => ?_
  refine sy_reg S fun S => ?_
  refine sy_ops 8 S fun bs aa w1 S => ?_
  refine sy_cast 28 S (congrArg Value.bool hc) (by kernel_rfl) fun S => ?_
  refine sy_run ⟨0, []⟩ 60 S fun bs aa w1 S => ?_
  refine sy_call1 S (status_any L t w1 hok) (by kernel_rfl) fun aa w2 hb S => ?_
  refine sy_ops 3 S fun bs aa w1 S => ?_
  refine sy_cond true S hs (by kernel_rfl) fun S => ?_
  refine sy_run ⟨0, []⟩ 60 S fun bs aa w1 S => ?_
  refine sy_call1 S (refuse_any 1 w1) (by kernel_rfl) fun aa w2 hb S => ?_
  refine sy_run ⟨0, []⟩ 60 S fun bs aa w1 S => ?_
  exact sy_ret S (by kernel_rfl) (by kernel_rfl) fun g => ⟨rfl, below_of_gr g⟩
set_option maxHeartbeats 4000000 in
theorem nxtc_2 (w : World) (L : Ly) (hok : L.ok) (t : Int) (a b ty : Int) (ms mk ma : Int) (sa wa da : Option Addr) (sl sc wl wc dl dc : Nat) (v : Value) (l : List (Int × Bool)) (hv : LogOf w v l) (hI : ∀ x ∈ l, I64 x.1) (hc : decide (atReaders L a < 0) = false) (hs : decide (atStatus L t < 0) = false) (x : Ask ⊕ OutD) (hx : runV (fun m => sansT m t) (atReaders L a) l = x) : Calls Try.prog 13 #[L.v, .int .i64 t, (kd 2 a b ty ms mk ma sa wa da sl sc wl wc dl dc), v] w fun e w' => e = .returned (nextV x) ∧ Below w.heap.size w w' := by
  refine sy_enterF none [rfLog v l] (by intro f hf; simp at hf; subst hf; exact hv) Try.func13 rfl fun aa S => ?_
  refine sy_run ⟨0, []⟩ 60 S fun bs aa w1 S => ?_
  refine sy_call1 S (chof_2 w1 L hok t a b ty ms mk ma sa wa da sl sc wl wc dl dc) (by kernel_rfl) fun aa w2 hb S => ?_
  refine sy_run ⟨0, [2]⟩ 60 S fun bs aa w1 S => ?_
  refine sy_reg S fun S => ?_
  refine sy_ops 8 S fun bs aa w1 S => ?_
  refine sy_cast 28 S (congrArg Value.bool hc) (by kernel_rfl) fun S => ?_
  refine sy_run ⟨0, []⟩ 60 S fun bs aa w1 S => ?_
  refine sy_call1 S (status_any L t w1 hok) (by kernel_rfl) fun aa w2 hb S => ?_
  refine sy_ops 3 S fun bs aa w1 S => ?_
  refine sy_cond false S hs (by kernel_rfl) fun S => ?_
  refine sy_run ⟨0, []⟩ 60 S fun bs aa w1 S => ?_
  cases x with
  | inl o =>
    refine sy_call1 S (of_m1 w1 v l 45 (by intro args w; rfl) (chQ (atReaders L a) t) (.inl o) (S.fact (f := rfLog v l) (by simp)) (fun w1 g hb hg hR => by rw [← hx]; exact crun_quit _ t g l hI w1 hR)) (by kernel_rfl) fun aa w2 hb S => ?_
    refine sy_run ⟨0, []⟩ 60 S fun bs aa w1 S => ?_
    exact sy_ret S (by kernel_rfl) (by kernel_rfl) fun g => ⟨rfl, below_of_gr g⟩
  | inr o =>
    refine sy_call1 S (of_m1 w1 v l 45 (by intro args w; rfl) (chQ (atReaders L a) t) (.inr o) (S.fact (f := rfLog v l) (by simp)) (fun w1 g hb hg hR => by rw [← hx]; exact crun_quit _ t g l hI w1 hR)) (by kernel_rfl) fun aa w2 hb S => ?_
    refine sy_run ⟨0, []⟩ 60 S fun bs aa w1 S => ?_
    exact sy_ret S (by kernel_rfl) (by kernel_rfl) fun g => ⟨rfl, below_of_gr g⟩
set_option maxHeartbeats 4000000 in
theorem nxta_3 (w : World) (L : Ly) (hok : L.ok) (t : Int) (a b ty : Int) (ms mk ma : Int) (sa wa da : Option Addr) (sl sc wl wc dl dc : Nat) (v : Value) (l : List (Int × Bool)) (hv : LogOf w v l) (hc : decide (atWaiters L a < 0) = true) : Calls Try.prog 13 #[L.v, .int .i64 t, (kd 3 a b ty ms mk ma sa wa da sl sc wl wc dl dc), v] w fun e w' => e = .returned (nextV (.inr { err := 1 })) ∧ Below w.heap.size w w' := by
  refine sy_enterF none [rfLog v l] (by intro f hf; simp at hf; subst hf; exact hv) Try.func13 rfl fun aa S => ?_
  refine sy_run ⟨0, []⟩ 60 S fun bs aa w1 S => ?_
  refine sy_call1 S (chof_3 w1 L hok t a b ty ms mk ma sa wa da sl sc wl wc dl dc) (by kernel_rfl) fun aa w2 hb S => ?_
  refine sy_run ⟨0, [2]⟩ 60 S fun bs aa w1 S => ?_
  refine sy_reg S fun S => ?_
  refine sy_ops 8 S fun bs aa w1 S => ?_
  refine sy_cast 28 S (congrArg Value.bool hc) (by kernel_rfl) fun S => ?_
  refine sy_run ⟨0, []⟩ 60 S fun bs aa w1 S => ?_
  refine sy_call1 S (refuse_any 1 w1) (by kernel_rfl) fun aa w2 hb S => ?_
  refine sy_run ⟨0, []⟩ 60 S fun bs aa w1 S => ?_
  exact sy_ret S (by kernel_rfl) (by kernel_rfl) fun g => ⟨rfl, below_of_gr g⟩
set_option maxHeartbeats 4000000 in
theorem nxtb_3 (w : World) (L : Ly) (hok : L.ok) (t : Int) (a b ty : Int) (ms mk ma : Int) (sa wa da : Option Addr) (sl sc wl wc dl dc : Nat) (v : Value) (l : List (Int × Bool)) (hv : LogOf w v l) (hc : decide (atWaiters L a < 0) = false) (hs : decide (atStatus L t < 0) = true) : Calls Try.prog 13 #[L.v, .int .i64 t, (kd 3 a b ty ms mk ma sa wa da sl sc wl wc dl dc), v] w fun e w' => e = .returned (nextV (.inr { err := 1 })) ∧ Below w.heap.size w w' := by
  refine sy_enterF none [rfLog v l] (by intro f hf; simp at hf; subst hf; exact hv) Try.func13 rfl fun aa S => ?_
  refine sy_run ⟨0, []⟩ 60 S fun bs aa w1 S => ?_
  refine sy_call1 S (chof_3 w1 L hok t a b ty ms mk ma sa wa da sl sc wl wc dl dc) (by kernel_rfl) fun aa w2 hb S => ?_
  refine sy_run ⟨0, [2]⟩ 60 S fun bs aa w1 S => ?_
  refine sy_reg S fun S => ?_
  refine sy_ops 8 S fun bs aa w1 S => ?_
  refine sy_cast 28 S (congrArg Value.bool hc) (by kernel_rfl) fun S => ?_
  refine sy_run ⟨0, []⟩ 60 S fun bs aa w1 S => ?_
  refine sy_call1 S (status_any L t w1 hok) (by kernel_rfl) fun aa w2 hb S => ?_
  refine sy_ops 3 S fun bs aa w1 S => ?_
  refine sy_cond true S hs (by kernel_rfl) fun S => ?_
  refine sy_run ⟨0, []⟩ 60 S fun bs aa w1 S => ?_
  refine sy_call1 S (refuse_any 1 w1) (by kernel_rfl) fun aa w2 hb S => ?_
  refine sy_run ⟨0, []⟩ 60 S fun bs aa w1 S => ?_
  exact sy_ret S (by kernel_rfl) (by kernel_rfl) fun g => ⟨rfl, below_of_gr g⟩
set_option maxHeartbeats 4000000 in
theorem nxtc_3 (w : World) (L : Ly) (hok : L.ok) (t : Int) (a b ty : Int) (ms mk ma : Int) (sa wa da : Option Addr) (sl sc wl wc dl dc : Nat) (v : Value) (l : List (Int × Bool)) (hv : LogOf w v l) (hI : ∀ x ∈ l, I64 x.1) (hc : decide (atWaiters L a < 0) = false) (hs : decide (atStatus L t < 0) = false) (x : Ask ⊕ OutD) (hx : runV (fun m => withT m t) (atWaiters L a) l = x) : Calls Try.prog 13 #[L.v, .int .i64 t, (kd 3 a b ty ms mk ma sa wa da sl sc wl wc dl dc), v] w fun e w' => e = .returned (nextV x) ∧ Below w.heap.size w w' := by
  refine sy_enterF none [rfLog v l] (by intro f hf; simp at hf; subst hf; exact hv) Try.func13 rfl fun aa S => ?_
  refine sy_run ⟨0, []⟩ 60 S fun bs aa w1 S => ?_
  refine sy_call1 S (chof_3 w1 L hok t a b ty ms mk ma sa wa da sl sc wl wc dl dc) (by kernel_rfl) fun aa w2 hb S => ?_
  refine sy_run ⟨0, [2]⟩ 60 S fun bs aa w1 S => ?_
  refine sy_reg S fun S => ?_
  refine sy_ops 8 S fun bs aa w1 S => ?_
  refine sy_cast 28 S (congrArg Value.bool hc) (by kernel_rfl) fun S => ?_
  refine sy_run ⟨0, []⟩ 60 S fun bs aa w1 S => ?_
  refine sy_call1 S (status_any L t w1 hok) (by kernel_rfl) fun aa w2 hb S => ?_
  refine sy_ops 3 S fun bs aa w1 S => ?_
  refine sy_cond false S hs (by kernel_rfl) fun S => ?_
  refine sy_run ⟨0, []⟩ 60 S fun bs aa w1 S => ?_
  cases x with
  | inl o =>
    refine sy_call1 S (of_m1 w1 v l 45 (by intro args w; rfl) (chJ (atWaiters L a) t) (.inl o) (S.fact (f := rfLog v l) (by simp)) (fun w1 g hb hg hR => by rw [← hx]; exact crun_join _ t g l hI w1 hR)) (by kernel_rfl) fun aa w2 hb S => ?_
    refine sy_run ⟨0, []⟩ 60 S fun bs aa w1 S => ?_
    exact sy_ret S (by kernel_rfl) (by kernel_rfl) fun g => ⟨rfl, below_of_gr g⟩
  | inr o =>
    refine sy_call1 S (of_m1 w1 v l 45 (by intro args w; rfl) (chJ (atWaiters L a) t) (.inr o) (S.fact (f := rfLog v l) (by simp)) (fun w1 g hb hg hR => by rw [← hx]; exact crun_join _ t g l hI w1 hR)) (by kernel_rfl) fun aa w2 hb S => ?_
    refine sy_run ⟨0, []⟩ 60 S fun bs aa w1 S => ?_
    exact sy_ret S (by kernel_rfl) (by kernel_rfl) fun g => ⟨rfl, below_of_gr g⟩
set_option maxHeartbeats 4000000 in
theorem nxta_4 (w : World) (L : Ly) (hok : L.ok) (t : Int) (a b ty : Int) (ms mk ma : Int) (sa wa da : Option Addr) (sl sc wl wc dl dc : Nat) (v : Value) (l : List (Int × Bool)) (hv : LogOf w v l) (hc : decide (atWaiters L a < 0) = true) : Calls Try.prog 13 #[L.v, .int .i64 t, (kd 4 a b ty ms mk ma sa wa da sl sc wl wc dl dc), v] w fun e w' => e = .returned (nextV (.inr { err := 1 })) ∧ Below w.heap.size w w' := by
  refine sy_enterF none [rfLog v l] (by intro f hf; simp at hf; subst hf; exact hv) Try.func13 rfl fun aa S => ?_
  refine sy_run ⟨0, []⟩ 60 S fun bs aa w1 S => ?_
  refine sy_call1 S (chof_4 w1 L hok t a b ty ms mk ma sa wa da sl sc wl wc dl dc) (by kernel_rfl) fun aa w2 hb S => ?_
  refine sy_run ⟨0, [2]⟩ 60 S fun bs aa w1 S => ?_
  refine sy_reg S fun S => ?_
  refine sy_ops 8 S fun bs aa w1 S => ?_
  refine sy_cast 28 S (congrArg Value.bool hc) (by kernel_rfl) fun S => ?_
  refine sy_run ⟨0, []⟩ 60 S fun bs aa w1 S => ?_
  refine sy_call1 S (refuse_any 1 w1) (by kernel_rfl) fun aa w2 hb S => ?_
  refine sy_run ⟨0, []⟩ 60 S fun bs aa w1 S => ?_
  exact sy_ret S (by kernel_rfl) (by kernel_rfl) fun g => ⟨rfl, below_of_gr g⟩
set_option maxHeartbeats 4000000 in
theorem nxtb_4 (w : World) (L : Ly) (hok : L.ok) (t : Int) (a b ty : Int) (ms mk ma : Int) (sa wa da : Option Addr) (sl sc wl wc dl dc : Nat) (v : Value) (l : List (Int × Bool)) (hv : LogOf w v l) (hc : decide (atWaiters L a < 0) = false) (hs : decide (atStatus L t < 0) = true) : Calls Try.prog 13 #[L.v, .int .i64 t, (kd 4 a b ty ms mk ma sa wa da sl sc wl wc dl dc), v] w fun e w' => e = .returned (nextV (.inr { err := 1 })) ∧ Below w.heap.size w w' := by
  refine sy_enterF none [rfLog v l] (by intro f hf; simp at hf; subst hf; exact hv) Try.func13 rfl fun aa S => ?_
  refine sy_run ⟨0, []⟩ 60 S fun bs aa w1 S => ?_
  refine sy_call1 S (chof_4 w1 L hok t a b ty ms mk ma sa wa da sl sc wl wc dl dc) (by kernel_rfl) fun aa w2 hb S => ?_
  refine sy_run ⟨0, [2]⟩ 60 S fun bs aa w1 S => ?_
  refine sy_reg S fun S => ?_
  refine sy_ops 8 S fun bs aa w1 S => ?_
  refine sy_cast 28 S (congrArg Value.bool hc) (by kernel_rfl) fun S => ?_
  refine sy_run ⟨0, []⟩ 60 S fun bs aa w1 S => ?_
  refine sy_call1 S (status_any L t w1 hok) (by kernel_rfl) fun aa w2 hb S => ?_
  refine sy_ops 3 S fun bs aa w1 S => ?_
  refine sy_cond true S hs (by kernel_rfl) fun S => ?_
  refine sy_run ⟨0, []⟩ 60 S fun bs aa w1 S => ?_
  refine sy_call1 S (refuse_any 1 w1) (by kernel_rfl) fun aa w2 hb S => ?_
  refine sy_run ⟨0, []⟩ 60 S fun bs aa w1 S => ?_
  exact sy_ret S (by kernel_rfl) (by kernel_rfl) fun g => ⟨rfl, below_of_gr g⟩
set_option maxHeartbeats 4000000 in
theorem nxtc_4 (w : World) (L : Ly) (hok : L.ok) (t : Int) (a b ty : Int) (ms mk ma : Int) (sa wa da : Option Addr) (sl sc wl wc dl dc : Nat) (v : Value) (l : List (Int × Bool)) (hv : LogOf w v l) (hI : ∀ x ∈ l, I64 x.1) (hc : decide (atWaiters L a < 0) = false) (hs : decide (atStatus L t < 0) = false) (x : Ask ⊕ OutD) (hx : runV (fun m => sansT m t) (atWaiters L a) l = x) : Calls Try.prog 13 #[L.v, .int .i64 t, (kd 4 a b ty ms mk ma sa wa da sl sc wl wc dl dc), v] w fun e w' => e = .returned (nextV x) ∧ Below w.heap.size w w' := by
  refine sy_enterF none [rfLog v l] (by intro f hf; simp at hf; subst hf; exact hv) Try.func13 rfl fun aa S => ?_
  refine sy_run ⟨0, []⟩ 60 S fun bs aa w1 S => ?_
  refine sy_call1 S (chof_4 w1 L hok t a b ty ms mk ma sa wa da sl sc wl wc dl dc) (by kernel_rfl) fun aa w2 hb S => ?_
  refine sy_run ⟨0, [2]⟩ 60 S fun bs aa w1 S => ?_
  refine sy_reg S fun S => ?_
  refine sy_ops 8 S fun bs aa w1 S => ?_
  refine sy_cast 28 S (congrArg Value.bool hc) (by kernel_rfl) fun S => ?_
  refine sy_run ⟨0, []⟩ 60 S fun bs aa w1 S => ?_
  refine sy_call1 S (status_any L t w1 hok) (by kernel_rfl) fun aa w2 hb S => ?_
  refine sy_ops 3 S fun bs aa w1 S => ?_
  refine sy_cond false S hs (by kernel_rfl) fun S => ?_
  refine sy_run ⟨0, []⟩ 60 S fun bs aa w1 S => ?_
  cases x with
  | inl o =>
    refine sy_call1 S (of_m1 w1 v l 45 (by intro args w; rfl) (chQ (atWaiters L a) t) (.inl o) (S.fact (f := rfLog v l) (by simp)) (fun w1 g hb hg hR => by rw [← hx]; exact crun_quit _ t g l hI w1 hR)) (by kernel_rfl) fun aa w2 hb S => ?_
    refine sy_run ⟨0, []⟩ 60 S fun bs aa w1 S => ?_
    exact sy_ret S (by kernel_rfl) (by kernel_rfl) fun g => ⟨rfl, below_of_gr g⟩
  | inr o =>
    refine sy_call1 S (of_m1 w1 v l 45 (by intro args w; rfl) (chQ (atWaiters L a) t) (.inr o) (S.fact (f := rfLog v l) (by simp)) (fun w1 g hb hg hR => by rw [← hx]; exact crun_quit _ t g l hI w1 hR)) (by kernel_rfl) fun aa w2 hb S => ?_
    refine sy_run ⟨0, []⟩ 60 S fun bs aa w1 S => ?_
    exact sy_ret S (by kernel_rfl) (by kernel_rfl) fun g => ⟨rfl, below_of_gr g⟩
set_option maxHeartbeats 4000000 in
theorem nxta_0 (w : World) (L : Ly) (hok : L.ok) (t : Int) (a b ty : Int) (ms mk ma : Int) (sa wa da : Option Addr) (sl sc wl wc dl dc : Nat) (v : Value) (l : List (Int × Bool)) (hv : LogOf w v l) (k : Int) (h1 : k ≠ 1) (h2 : k ≠ 2) (h3 : k ≠ 3) (h4 : k ≠ 4) : Calls Try.prog 13 #[L.v, .int .i64 t, (kd k a b ty ms mk ma sa wa da sl sc wl wc dl dc), v] w fun e w' => e = .returned (nextV (.inr { err := 1 })) ∧ Below w.heap.size w w' := by
  refine sy_enterF none [rfLog v l] (by intro f hf; simp at hf; subst hf; exact hv) Try.func13 rfl fun aa S => ?_
  refine sy_run ⟨0, []⟩ 60 S fun bs aa w1 S => ?_
  refine sy_call1 S (chof_0 w1 L t k a b ty ms mk ma sa wa da sl sc wl wc dl dc h1 h2 h3 h4) (by kernel_rfl) fun aa w2 hb S => ?_
  refine sy_run ⟨0, []⟩ 60 S fun bs aa w1 S => ?_
  refine sy_call1 S (refuse_any 1 w1) (by kernel_rfl) fun aa w2 hb S => ?_
  refine sy_run ⟨0, []⟩ 60 S fun bs aa w1 S => ?_
  exact sy_ret S (by kernel_rfl) (by kernel_rfl) fun g => ⟨rfl, below_of_gr g⟩
end Go.Proofs.Ytdfngmplfgifiaa
