/-
  Merged: Za, Zb, Ze, Zt, Zn, Zw, Zv, Zu, Zs, Dk0, Dk2
-/
import Derived.Test.YtfhmdlihnidjoaaRows
import Derived.Test.YtfhmdlihnidjoaaPf1
import Derived.Test.YtfhmdlihnidjoaaPf4
import Derived.Scope
import Derived.Control
import Derived.Laws.AppendOwn
import Derived.WalkKit
import Derived.Laws.Slices
import Derived.Laws.Small
import Derived.Laws.Concat
import Derived.Laws.Entries
namespace Go.Proofs.Ytfhmdlihnidjoaa.SZ
set_option linter.unusedVariables false
set_option linter.unusedSectionVars false
set_option linter.unusedSimpArgs false
set_option maxRecDepth 100000
open Go Go.RowKit
def Qee (b : Nat) (ty : TypeId) (cs : List Value) : RF := ⟨fun b' => b' = b, fun w => w.heap[b]? = some (.cells cs.toArray ty (0, 0)), fun w h b' hb => by subst hb; exact (Array.getElem?_eq_some_iff.1 h).1, fun w w' h hb => (hb b rfl).trans h⟩
section
variable [DF]
variable {P : Program} {w0 : World} {r : List Nat} {bs : List Nat} {s : SS} {F : List RF} {a : Act} {w : World}
def QdJ (P : Program) (c : Cfg) : Option (TypeId × Addr) :=
  match c with
  | ⟨.ops all (o :: l) :: k, s⟩ => match Qa2 s all o, o.op with
    | some true, .load ty x => match s.val x with
      | some (.v (.pointer (some ad))) => some (ty, ad)
      | _ => none
    | _, _ => none
  | _ => none
theorem Qbf {c : Cfg} {ty : TypeId} {ad : Addr} {v : Value} (S : Sy w0 r bs c.s F a w) (hl : (loadVar ty ad).run P w = .ok v w) (hh : QdJ P c = some (ty, ad)) {Q : Exit → Act → World → Prop}
    (h : ∀ a', Sy w0 r bs (Qet c (.v v)).s F a' w → post P (Qet c (.v v)).k Q .normal a' w) : post P c.k Q .normal a w := by
  obtain ⟨k, s⟩ := c
  match k with
  | .ops all (o :: l) :: k =>
    show wpList P all (post P k Q) (o :: l) a w
    refine wpList_step fun K hK => ?_
    unfold QdJ at hh
    simp only at hh
    cases hw : Qa2 s all o with
    | none => rw [hw] at hh; simp at hh
    | some b =>
      rw [hw] at hh
      cases b with
      | false => simp at hh
      | true =>
        cases ho : o.op <;> rw [ho] at hh <;> simp only [reduceCtorEq] at hh
        case load ty' x =>
          cases hx : s.val x with
          | none => rw [hx] at hh; simp at hh
          | some y =>
            rw [hx] at hh
            cases y with
            | v y =>
              cases y with
              | pointer pa =>
                cases pa with
                | none => simp at hh
                | some ad' =>
                  simp only [Option.some.injEq, Prod.mk.injEq] at hh
                  obtain ⟨h1, h2⟩ := hh
                  subst h1; subst h2
                  have h1 := (S.val hx).1
                  rw [Qar S hw, if_pos rfl]
                  unfold Oper.wp execOp
                  simp only [ho, h1, den, Instr.loadAt, Instr.sureAddr, Sem.run_bind, Sem.run_pure, Result.andThen_ok, hl]
                  exact hK _ _ (h _ (S.put o.dst (x := .v v) trivial))
              | _ => simp at hh
            | _ => simp at hh
  | [] => simp [QdJ] at hh
  | .code _ :: _ => simp [QdJ] at hh
  | .blk _ :: _ => simp [QdJ] at hh
  | .rnd _ _ :: _ => simp [QdJ] at hh
  | .ops _ [] :: _ => simp [QdJ] at hh
def aidxS (P : Program) (t : TypeId) (n : Nat) : Option Nat :=
  match P.underlying t with
  | some (.array len elem) => match Nat.blt n len, (P.info? elem).map (·.size) with
    | true, some size => some (n * size)
    | _, _ => none
  | _ => none
def idxC (P : Program) (c : Cfg) : Option Cfg :=
  match c with
  | ⟨.ops all (o :: l) :: k, s⟩ => match Qa2 s all o, o.op with
    | some true, .indexAddr t x ix => match s.val x, s.val ix with
      | some (.p i off), some (.v (.int _ (.ofNat n))) => (aidxS P t n).map fun q => ⟨.ops all l :: k, s.put o.dst (.p i (off + q))⟩
      | _, _ => none
    | _, _ => none
  | _ => none
theorem Qe_ (b o k : Nat) : (⟨b, o, none⟩ : Addr).add k = ⟨b, o + k, none⟩ := by unfold Addr.add; split <;> simp_all
theorem Qj2 {c c' : Cfg} (S : Sy w0 r bs c.s F a w) (hh : idxC P c = some c') {Q : Exit → Act → World → Prop}
    (h : ∀ a', Sy w0 r bs c'.s F a' w → post P c'.k Q .normal a' w) : post P c.k Q .normal a w := by
  obtain ⟨k, s⟩ := c
  match k with
  | .ops all (o :: l) :: k =>
    show wpList P all (post P k Q) (o :: l) a w
    refine wpList_step fun K hK => ?_
    unfold idxC at hh
    simp only at hh
    cases hw : Qa2 s all o with
    | none => rw [hw] at hh; simp at hh
    | some b =>
      rw [hw] at hh
      cases b with
      | false => simp at hh
      | true =>
        cases ho : o.op <;> rw [ho] at hh <;> simp only [reduceCtorEq] at hh
        case indexAddr t x ix =>
          cases hx : s.val x with
          | none => rw [hx] at hh; simp at hh
          | some y =>
            rw [hx] at hh
            cases y with
            | p i off =>
              cases hi : s.val ix with
              | none => rw [hi] at hh; simp at hh
              | some z =>
                rw [hi] at hh
                cases z with
                | v z =>
                  cases z with
                  | int kk m =>
                    cases m with
                    | ofNat n =>
                      simp only at hh
                      cases hq : aidxS P t n with
                      | none => rw [hq] at hh; cases hh
                      | some q =>
                        rw [hq] at hh
                        simp only [Option.map_some, Option.some.injEq] at hh
                        subst hh
                        obtain ⟨h1, h1'⟩ := S.val hx
                        have h2 := (S.val hi).1
                        rw [Qar S hw, if_pos rfl]
                        unfold aidxS at hq
                        cases hu : P.underlying t with
                        | none => rw [hu] at hq; cases hq
                        | some d =>
                          rw [hu] at hq
                          cases d <;> (try (cases hq; done))
                          rename_i len elem
                          simp only at hq
                          cases hnl : Nat.blt n len with
                          | false => rw [hnl] at hq; cases hq
                          | true =>
                            cases hs : (P.info? elem).map (·.size) with
                            | none => rw [hnl, hs] at hq; cases hq
                            | some size =>
                              rw [hnl, hs] at hq
                              simp only [Option.some.injEq] at hq
                              subst hq
                              have hlt : n < len := by rw [Nat.blt, Nat.ble_eq] at hnl; exact hnl
                              unfold Oper.wp execOp
                              simp only [ho, h1, h2, den, adr, Instr.indexAt, Instr.sureAddr, asIntOf, Sem.run_bind, Sem.run_pure, Result.andThen_ok, run_underlying hu w]
                              rw [if_pos ⟨by simp, by simpa using hlt⟩]
                              simp only [Sem.run_bind, run_info hs, Result.andThen_ok, Sem.run_pure, Qe_]
                              exact hK _ _ (h _ (S.put o.dst (x := .p i (off + n * size)) h1'))
                    | negSucc n => simp at hh
                  | _ => simp at hh
                | _ => simp at hh
            | _ => simp at hh
  | [] => simp [idxC] at hh
  | .code _ :: _ => simp [idxC] at hh
  | .blk _ :: _ => simp [idxC] at hh
  | .rnd _ _ :: _ => simp [idxC] at hh
  | .ops _ [] :: _ => simp [idxC] at hh
def idxD (P : Program) (c : Cfg) : Cfg := (idxC P c).getD c
theorem QgS {c : Cfg} (S : Sy w0 r bs c.s F a w) {Q : Exit → Act → World → Prop}
    (h : ∀ a', Sy w0 r bs (idxD P c).s F a' w → post P (idxD P c).k Q .normal a' w) : post P c.k Q .normal a w := by
  unfold idxD at h
  cases e : idxC P c with
  | none => rw [e] at h; exact h a S
  | some c' => rw [e] at h; exact Qj2 S e h
end
section
variable [DF]
variable {P : Program} {w0 : World} {r : List Nat} {bs : List Nat} {s : SS} {F : List RF} {a : Act} {w : World}
def Qc3 (P : Program) (c : Cfg) : Option (Option Addr × Nat × Int × Nat) :=
  match c with
  | ⟨.ops all (o :: l) :: k, s⟩ => match Qa2 s all o, o.op with
    | some true, .indexAddr t x ix => match s.val x, s.val ix, P.underlying t with
      | some (.v (.slice ad len _)), some (.v (.int _ i)), some (.slice elem) => ((P.info? elem).map (·.size)).map fun size => (ad, len, i, size)
      | _, _, _ => none
    | _, _ => none
  | _ => none
theorem QbI {c : Cfg} {b off len n size : Nat} {i : Int} (S : Sy w0 r bs c.s F a w) (hh : Qc3 P c = some (some ⟨b, off, none⟩, len, i, size)) (hi : i = (n : Int)) (hn : n < len) {Q : Exit → Act → World → Prop}
    (h : ∀ a', Sy w0 r bs (Qet c (.v (.pointer (some ⟨b, off + n * size, none⟩)))).s F a' w → post P (Qet c (.v (.pointer (some ⟨b, off + n * size, none⟩)))).k Q .normal a' w) : post P c.k Q .normal a w := by
  subst hi
  obtain ⟨k, s⟩ := c
  match k with
  | .ops all (o :: l) :: k =>
    show wpList P all (post P k Q) (o :: l) a w
    refine wpList_step fun K hK => ?_
    unfold Qc3 at hh
    simp only at hh
    cases hw : Qa2 s all o with
    | none => rw [hw] at hh; simp at hh
    | some b' =>
      rw [hw] at hh
      cases b' with
      | false => simp at hh
      | true =>
        cases ho : o.op <;> rw [ho] at hh <;> simp only [reduceCtorEq] at hh
        case indexAddr t x ix =>
          cases hx : s.val x with
          | none => rw [hx] at hh; simp at hh
          | some y =>
            rw [hx] at hh
            cases y with
            | v y =>
              cases y with
              | slice ad len' cap =>
                cases hi : s.val ix with
                | none => rw [hi] at hh; simp at hh
                | some z =>
                  rw [hi] at hh
                  cases z with
                  | v z =>
                    cases z with
                    | int kk m =>
                      cases hu : P.underlying t with
                      | none => rw [hu] at hh; simp at hh
                      | some d =>
                        rw [hu] at hh
                        cases d <;> simp only [reduceCtorEq] at hh
                        rename_i elem
                        cases hs : (P.info? elem).map (·.size) with
                        | none => rw [hs] at hh; simp at hh
                        | some sz =>
                          rw [hs] at hh
                          simp only [Option.map_some, Option.some.injEq, Prod.mk.injEq] at hh
                          obtain ⟨h1, h2, h3, h4⟩ := hh
                          subst h1; subst h2; subst h3; subst h4
                          have g1 := (S.val hx).1
                          have g2 := (S.val hi).1
                          rw [Qar S hw, if_pos rfl]
                          unfold Oper.wp execOp
                          simp only [ho, g1, g2, den, Instr.indexAt, asIntOf, Sem.run_bind, Sem.run_pure, Result.andThen_ok, run_underlying hu w]
                          rw [if_pos ⟨by simp, by simpa using hn⟩]
                          simp only [Sem.run_bind, run_info hs, Result.andThen_ok, Sem.run_pure, Qe_, Int.toNat_natCast]
                          exact hK _ _ (h _ (S.put o.dst (x := .v _) trivial))
                    | _ => simp at hh
                  | _ => simp at hh
              | _ => simp at hh
            | _ => simp at hh
  | [] => simp [Qc3] at hh
  | .code _ :: _ => simp [Qc3] at hh
  | .blk _ :: _ => simp [Qc3] at hh
  | .rnd _ _ :: _ => simp [Qc3] at hh
  | .ops _ [] :: _ => simp [Qc3] at hh
end
section
variable [DF] [KP] [HF]
variable {P : Program} {w0 : World} {r : List Nat} {bs : List Nat} {s : SS} {F : List RF} {a : Act} {w : World}
section
variable {ops : Array Oper} {o : Oper} {b off len n size : Nat} {i : Int} (S : Sy w0 r bs s F a w) (hh : Qc3 P ⟨[.ops ops [o]], s⟩ = some (some ⟨b, off, none⟩, len, i, size)) (hi : i = (n : Int)) (hn : n < len)
include ops o b off len n size i S hh hi hn
theorem ix_run :
    Qa2 s ops o = some true ∧ (execOp a.eval o).run P w = .ok (.value (.pointer (some ⟨b, off + n * size, none⟩))) w := by
  subst hi
  unfold Qc3 at hh
  simp only at hh
  cases hw : Qa2 s ops o with
  | none => rw [hw] at hh; simp at hh
  | some b' =>
    rw [hw] at hh
    cases b' with
    | false => simp at hh
    | true =>
      cases ho : o.op <;> rw [ho] at hh <;> simp only [reduceCtorEq] at hh
      case indexAddr t x ix =>
        cases hx : s.val x with
        | none => rw [hx] at hh; simp at hh
        | some y =>
          rw [hx] at hh
          cases y with
          | v y =>
            cases y with
            | slice ad len' cap =>
              cases hi : s.val ix with
              | none => rw [hi] at hh; simp at hh
              | some z =>
                rw [hi] at hh
                cases z with
                | v z =>
                  cases z with
                  | int kk m =>
                    cases hu : P.underlying t with
                    | none => rw [hu] at hh; simp at hh
                    | some d =>
                      rw [hu] at hh
                      cases d <;> simp only [reduceCtorEq] at hh
                      rename_i elem
                      cases hs : (P.info? elem).map (·.size) with
                      | none => rw [hs] at hh; simp at hh
                      | some sz =>
                        rw [hs] at hh
                        simp only [Option.map_some, Option.some.injEq, Prod.mk.injEq] at hh
                        obtain ⟨h1, h2, h3, h4⟩ := hh
                        subst h1; subst h2; subst h3; subst h4
                        have g1 := (S.val hx).1
                        have g2 := (S.val hi).1
                        refine ⟨rfl, ?_⟩
                        unfold execOp
                        simp only [ho, g1, g2, den, Instr.indexAt, asIntOf, Sem.run_bind, Sem.run_pure, Result.andThen_ok, run_underlying hu w]
                        rw [if_pos ⟨by simp, by simpa using hn⟩]
                        simp only [Sem.run_bind, run_info hs, Result.andThen_ok, Sem.run_pure, Qe_, Int.toNat_natCast]
                  | _ => simp at hh
                | _ => simp at hh
            | _ => simp at hh
          | _ => simp at hh
theorem ix_runW (W : World) :
    (execOp a.eval o).run P W = .ok (.value (.pointer (some ⟨b, off + n * size, none⟩))) W := by
  subst hi
  unfold Qc3 at hh
  simp only at hh
  cases hw : Qa2 s ops o with
  | none => rw [hw] at hh; simp at hh
  | some b' =>
    rw [hw] at hh
    cases b' with
    | false => simp at hh
    | true =>
      cases ho : o.op <;> rw [ho] at hh <;> simp only [reduceCtorEq] at hh
      case indexAddr t x ix =>
        cases hx : s.val x with
        | none => rw [hx] at hh; simp at hh
        | some y =>
          rw [hx] at hh
          cases y with
          | v y =>
            cases y with
            | slice ad len' cap =>
              cases hi : s.val ix with
              | none => rw [hi] at hh; simp at hh
              | some z =>
                rw [hi] at hh
                cases z with
                | v z =>
                  cases z with
                  | int kk m =>
                    cases hu : P.underlying t with
                    | none => rw [hu] at hh; simp at hh
                    | some d =>
                      rw [hu] at hh
                      cases d <;> simp only [reduceCtorEq] at hh
                      rename_i elem
                      cases hs : (P.info? elem).map (·.size) with
                      | none => rw [hs] at hh; simp at hh
                      | some sz =>
                        rw [hs] at hh
                        simp only [Option.map_some, Option.some.injEq, Prod.mk.injEq] at hh
                        obtain ⟨h1, h2, h3, h4⟩ := hh
                        subst h1; subst h2; subst h3; subst h4
                        have g1 := (S.val hx).1
                        have g2 := (S.val hi).1
                        unfold execOp
                        simp only [ho, g1, g2, den, Instr.indexAt, asIntOf, Sem.run_bind, Sem.run_pure, Result.andThen_ok, run_underlying hu W]
                        rw [if_pos ⟨by simp, by simpa using hn⟩]
                        simp only [Sem.run_bind, run_info hs, Result.andThen_ok, Sem.run_pure, Qe_, Int.toNat_natCast]
                  | _ => simp at hh
                | _ => simp at hh
            | _ => simp at hh
          | _ => simp at hh
end
section
variable {ops : Array Oper} {o : Oper} {ty : TypeId} {ad : Addr} {v : Value} (S : Sy w0 r bs s F a w)
include ops o ty ad v S
theorem QlD (hl : (loadVar ty ad).run P w = .ok v w) (hh : QdJ P ⟨[.ops ops [o]], s⟩ = some (ty, ad)) :
    Qa2 s ops o = some true ∧ (execOp a.eval o).run P w = .ok (.value v) w := by
  unfold QdJ at hh
  simp only at hh
  cases hw : Qa2 s ops o with
  | none => rw [hw] at hh; simp at hh
  | some b =>
    rw [hw] at hh
    cases b with
    | false => simp at hh
    | true =>
      cases ho : o.op <;> rw [ho] at hh <;> simp only [reduceCtorEq] at hh
      case load ty' x =>
        cases hx : s.val x with
        | none => rw [hx] at hh; simp at hh
        | some y =>
          rw [hx] at hh
          cases y with
          | v y =>
            cases y with
            | pointer pa =>
              cases pa with
              | none => simp at hh
              | some ad' =>
                simp only [Option.some.injEq, Prod.mk.injEq] at hh
                obtain ⟨h1, h2⟩ := hh
                subst h1; subst h2
                have h1 := (S.val hx).1
                refine ⟨rfl, ?_⟩
                unfold execOp
                simp only [ho, h1, den, Instr.loadAt, Instr.sureAddr, Sem.run_bind, Sem.run_pure, Result.andThen_ok, hl]
            | _ => simp at hh
          | _ => simp at hh
theorem ldo_runW {W : World} (hl : (loadVar ty ad).run P W = .ok v W) (hh : QdJ P ⟨[.ops ops [o]], s⟩ = some (ty, ad)) :
    (execOp a.eval o).run P W = .ok (.value v) W := by
  unfold QdJ at hh
  simp only at hh
  cases hw : Qa2 s ops o with
  | none => rw [hw] at hh; simp at hh
  | some b =>
    rw [hw] at hh
    cases b with
    | false => simp at hh
    | true =>
      cases ho : o.op <;> rw [ho] at hh <;> simp only [reduceCtorEq] at hh
      case load ty' x =>
        cases hx : s.val x with
        | none => rw [hx] at hh; simp at hh
        | some y =>
          rw [hx] at hh
          cases y with
          | v y =>
            cases y with
            | pointer pa =>
              cases pa with
              | none => simp at hh
              | some ad' =>
                simp only [Option.some.injEq, Prod.mk.injEq] at hh
                obtain ⟨h1, h2⟩ := hh
                subst h1; subst h2
                have h1 := (S.val hx).1
                unfold execOp
                simp only [ho, h1, den, Instr.loadAt, Instr.sureAddr, Sem.run_bind, Sem.run_pure, Result.andThen_ok, hl]
            | _ => simp at hh
          | _ => simp at hh
end
variable {k : List It} {QQ : Exit → Act → World → Prop} [PInv QQ] {B : List Nat} {K0 : List Bx} {ro : List Nat} {ops : Array Oper}
theorem nxt_val {m : Nat} {listed : Array Bool} {i : Nat} (D : Sd w0 r B K0 ro bs s F a w) {o : Oper} (ho : ops[i]? = some o) {x : SV} (hx : x.ok bs.length) (hr : Qa2 s ops o = some true ∧ (execOp a.eval o).run P w = .ok (.value (den bs x)) w)
    (h : ∀ a', Sd w0 r B K0 ro bs (s.put ((ops[i]?).bind (·.dst)) x) F a' w → wpAnyH P .any ops (PQ P k QQ) (QbM B K0 ro) m (listed.setIfInBounds i true) a' w) : Nxt P ops (PQ P k QQ) (QbM B K0 ro) m listed a w i := by
  unfold Nxt wpOp
  rw [ho] at h ⊢
  simp only [Option.bind_some] at h ⊢
  rw [if_pos (Qar D.S hr.1)]
  refine Or.inl ?_
  unfold Oper.wp
  rw [hr.2, Oper.upon_value]
  have D' := D.put o.dst hx
  exact ⟨D'.hold, h _ D'⟩
end
section
variable [DF] [KP] [HF]
variable {P : Program} {w0 : World} {r : List Nat} {bs : List Nat} {F : List RF} {a : Act} {w : World}
variable {c : Cfg} {QQ : Exit → Act → World → Prop} [PInv QQ] {B : List Nat} {ro : List Nat} {d : DC}
section
variable (i : Nat) (D : Sd w0 r B c.s.K ro bs d.s F a w) (hs : Region.noSelect (QaH c) = true) (hn : (d.m != 0) = true) (hf : (Region.free .any (QaH c) d.lst i && (Region.ready .any (QaH c) d.lst).contains i && KP.keep.all fun t => ((QaH c)[i]?).bind (·.dst) != some t) = true)
include i D hs hn hf
theorem QaZ {b off len n size : Nat} {ix : Int} (hh : (((QaH c)[i]?).bind fun o => Qc3 P ⟨[.ops (QaH c) [o]], d.s⟩) = some (some ⟨b, off, none⟩, len, ix, size)) (hi : ix = (n : Int)) (hlt : n < len) (h : ∀ a', Sd w0 r B c.s.K ro bs (dV P c ro d i (.v (.pointer (some ⟨b, off + n * size, none⟩)))).s F a' w → GD P c QQ B ro (dV P c ro d i (.v (.pointer (some ⟨b, off + n * size, none⟩)))) a' w) : GD P c QQ B ro d a w := by
  obtain ⟨o, ho, hh⟩ : ∃ o, (QaH c)[i]? = some o ∧ Qc3 P ⟨[.ops (QaH c) [o]], d.s⟩ = some (some ⟨b, off, none⟩, len, ix, size) := by
    cases ho : (QaH c)[i]? with
    | none => rw [ho] at hh; cases hh
    | some o => rw [ho] at hh; exact ⟨o, rfl, hh⟩
  exact dr_tk i D hs hn hf ho (x := .v _) trivial (ix_run D.S hh hi hlt).1 (fun W _ => ix_runW D.S hh hi hlt W) h
theorem Qbl {ty : TypeId} {ad : Addr} {v : Value} (hl : ∀ W, (∀ f ∈ HF.fs, f.P W) → (loadVar ty ad).run P W = .ok v W) (hh : (((QaH c)[i]?).bind fun o => QdJ P ⟨[.ops (QaH c) [o]], d.s⟩) = some (ty, ad)) (h : ∀ a', Sd w0 r B c.s.K ro bs (dV P c ro d i (.v v)).s F a' w → GD P c QQ B ro (dV P c ro d i (.v v)) a' w) : GD P c QQ B ro d a w := by
  obtain ⟨o, ho, hh⟩ : ∃ o, (QaH c)[i]? = some o ∧ QdJ P ⟨[.ops (QaH c) [o]], d.s⟩ = some (ty, ad) := by
    cases ho : (QaH c)[i]? with
    | none => rw [ho] at hh; cases hh
    | some o => rw [ho] at hh; exact ⟨o, rfl, hh⟩
  exact dr_tk i D hs hn hf ho (x := .v v) trivial (QlD D.S (hl w D.hold.2) hh).1 (fun W hW => ldo_runW D.S (hl W hW.2) hh) h
end
end
section
variable [DF]
variable {P : Program} {w0 : World} {r : List Nat} {bs : List Nat} {s : SS} {F : List RF} {a : Act} {w : World}
theorem QbJ {Q : Exit → Act → World → Prop} {l : Nat} : ∀ k : List It, post P k Q (.goto l) a w = Q (.goto l) a w
  | [] => rfl
  | .blk j :: k => QbJ k
  | .code c :: k => QbJ k
  | .ops _ _ :: k => QbJ k
  | .rnd _ _ :: k => QbJ k
end
section
variable {P : Program} {ops : Array Oper} {Q : Exit → Act → World → Prop} {S : World → Prop} {m : Nat} {listed : Array Bool} {a : Act} {w : World} {i j k l : Nat}
section
variable (h1 : Nxt P ops Q S m listed a w i)
include h1
theorem na1 : Qai P ops Q S m listed a w [i] := ⟨h1, trivial⟩
theorem na2 (h2 : Nxt P ops Q S m listed a w j) : Qai P ops Q S m listed a w [i, j] := ⟨h1, h2, trivial⟩
theorem na3 (h2 : Nxt P ops Q S m listed a w j) (h3 : Nxt P ops Q S m listed a w k) : Qai P ops Q S m listed a w [i, j, k] := ⟨h1, h2, h3, trivial⟩
theorem na4 (h2 : Nxt P ops Q S m listed a w j) (h3 : Nxt P ops Q S m listed a w k) (h4 : Nxt P ops Q S m listed a w l) : Qai P ops Q S m listed a w [i, j, k, l] := ⟨h1, h2, h3, h4, trivial⟩
end
end
section
variable [DF] [KP] [HF]
variable {P : Program} {w0 : World} {r : List Nat} {B : List Nat} {ro bs : List Nat} {QQ : Exit → Act → World → Prop} [PInv QQ] {c : Cfg} {d : DC} {F : List RF} {a : Act} {w : World}
section
variable (i : Nat) (D : Sd w0 r B c.s.K ro bs d.s F a w) (hs : Region.noSelect (QaH c) = true)
include i D hs
theorem QjU {ty : TypeId} {ad : Addr} {v : Value} (hl : (loadVar ty ad).run P w = .ok v w) (hh : (((QaH c)[i]?).bind fun o => QdJ P ⟨[.ops (QaH c) [o]], d.s⟩) = some (ty, ad)) (h : ∀ a', Sd w0 r B c.s.K ro bs (dV P c ro d i (.v v)).s F a' w → GD P c QQ B ro (dV P c ro d i (.v v)) a' w) : Nxt P (QaH c) (PQ P (kD c) QQ) (QbM B c.s.K ro) d.pred d.lst a w i := by
  obtain ⟨o, ho, hh⟩ : ∃ o, (QaH c)[i]? = some o ∧ QdJ P ⟨[.ops (QaH c) [o]], d.s⟩ = some (ty, ad) := by
    cases ho : (QaH c)[i]? with
    | none => rw [ho] at hh; cases hh
    | some o => rw [ho] at hh; exact ⟨o, rfl, hh⟩
  exact nxt_val D ho (x := .v v) trivial (QlD D.S hl hh) fun a' D' => Qbx (d := ⟨d.m - 1, d.lst.setIfInBounds i true, d.s.put (((QaH c)[i]?).bind (·.dst)) (.v v)⟩) hs D' fun a'' D'' => h a'' D''
theorem QeN {v : Value} {f : FuncId} {args : Array Value} (hC : Calls P f args w fun e w' => e = .returned v ∧ Below w.heap.size w w') (hh : (((QaH c)[i]?).bind fun o => Qb8 P ⟨[.ops (QaH c) [o]], d.s⟩).map (fun q => (q.1, q.2.map (den bs))) = some (f, args.toList)) (h : ∀ a' w', Sd w0 r B c.s.K ro bs (dV P c ro d i (.v v)).s F a' w' → GD P c QQ B ro (dV P c ro d i (.v v)) a' w') : Nxt P (QaH c) (PQ P (kD c) QQ) (QbM B c.s.K ro) d.pred d.lst a w i :=
  QaD i D hs (X := Unit) (val := fun _ => v) (C := fun _ _ => True) (hC.mono fun e w' h => ⟨(), h.1, trivial, h.2⟩) hh fun _ a' w' _ hb D' => h a' w' D'
end
end
section
variable [DF]
variable {P : Program} {w0 : World} {r : List Nat} {bs : List Nat} {s : SS} {F : List RF} {a : Act} {w : World}
theorem Sy.plain (S : Sy w0 r bs s F a w) (t : Nat) {x : SV} (h : s.get t = some x) : Sy w0 r bs { s with T := (t, .v (den bs x)) :: s.T } F a w := by
  refine ⟨S.df, S.sz, fun t' y hy => ?_, S.bl, S.bx, S.nd, S.lo, S.fs, S.gr⟩
  unfold SS.get at hy
  simp only [List.lookup_cons] at hy
  cases e : (t' == t) with
  | true =>
    rw [e] at hy; simp at e; subst e
    simp only [Option.some.injEq] at hy; subst hy
    exact ⟨(S.tm t' x h).1, trivial⟩
  | false => rw [e] at hy; exact S.tm t' y hy
theorem QcX (w : World) (b o : Nat) (vs : List Value) : w.grownBy (w.setCells b o vs) (some b) := by
  obtain ⟨h1, h2, h3, h4, h5⟩ := setCells_os b vs o w
  exact ⟨h1, h2, h3, by rw [h4]; exact Nat.le_refl _, fun k hk hne => h5 k (fun e => hne (by rw [e]))⟩
def Qd2 (c : Cfg) : Option (TypeId × Addr × SV) :=
  match c with
  | ⟨.ops all (o :: l) :: k, s⟩ => match Qa2 s all o, o.op with
    | some true, .store ty x y => match s.val x, s.val y with
      | some (.v (.pointer (some ad))), some v => some (ty, ad, v)
      | _, _ => none
    | _, _ => none
  | _ => none
theorem QgR {c : Cfg} {ty : TypeId} {ad : Addr} {x : SV} {v : Value} {w' : World} (S : Sy w0 r bs c.s F a w) (hh : Qd2 c = some (ty, ad, x)) (hv : den bs x = v) (hr : (storeVar ty ad v).run P w = .ok () w') (hg : w.grownBy w' (some ad.block))
    (h0 : ad.block ∈ r ∨ w0.heap.size ≤ ad.block) (F' : List RF) (hF : ∀ f ∈ F', f ∈ F ∧ ¬f.bl ad.block) (hn : ∀ i, i < bs.length → bs.getD i 0 ≠ ad.block) {Q : Exit → Act → World → Prop}
    (h : ∀ a', Sy w0 r bs (Qet c (.v undef)).s F' a' w' → post P (Qet c (.v undef)).k Q .normal a' w') : post P c.k Q .normal a w := by
  obtain ⟨k, s⟩ := c
  match k with
  | .ops all (o :: l) :: k =>
    show wpList P all (post P k Q) (o :: l) a w
    refine wpList_step fun K hK => ?_
    unfold Qd2 at hh
    simp only at hh
    cases hw : Qa2 s all o with
    | none => rw [hw] at hh; simp at hh
    | some b' =>
      rw [hw] at hh
      cases b' with
      | false => simp at hh
      | true =>
        cases ho : o.op <;> rw [ho] at hh <;> simp only [reduceCtorEq] at hh
        case store ty' p y =>
          cases hp : s.val p with
          | none => rw [hp] at hh; simp at hh
          | some q =>
            rw [hp] at hh
            cases q with
            | v q =>
              cases q with
              | pointer pa =>
                cases pa with
                | none => simp at hh
                | some ad' =>
                  cases hy : s.val y with
                  | none => rw [hy] at hh; simp at hh
                  | some z =>
                    rw [hy] at hh
                    simp only [Option.some.injEq, Prod.mk.injEq] at hh
                    obtain ⟨rfl, rfl, rfl⟩ := hh
                    have h1 : a.eval p = .pointer (some ad') := (S.val hp).1
                    have h2 : a.eval y = v := (S.val hy).1.trans hv
                    rw [Qar S hw, if_pos rfl]
                    unfold Oper.wp execOp
                    simp only [ho, h1, h2, Instr.storeAt, Instr.sureAddr, Sem.run_bind, Sem.run_pure, Result.andThen_ok, hr]
                    exact hK _ _ (h _ ((S.grown hg h0 hF hn).put o.dst (x := .v undef) trivial))
              | _ => simp at hh
            | _ => simp at hh
  | [] => simp [Qd2] at hh
  | .code _ :: _ => simp [Qd2] at hh
  | .blk _ :: _ => simp [Qd2] at hh
  | .rnd _ _ :: _ => simp [Qd2] at hh
  | .ops _ [] :: _ => simp [Qd2] at hh
theorem Qa6 {ty : TypeId} {b off : Nat} {v : Value} (ha : (P.underlying ty).map (·.isRow) = some false) (hv : w.cell? ⟨b, off, none⟩ = some v) : (loadVar ty ⟨b, off, none⟩).run P w = .ok v w := by
  cases hu : P.underlying ty with
  | none => rw [hu] at ha; cases ha
  | some d =>
    rw [hu] at ha
    simp only [Option.map_some, Option.some.injEq] at ha
    have hagg : (isAgg ty).run P w = .ok false w := by
      unfold isAgg
      rw [Sem.run_bind, run_underlying hu w]
      cases d <;> simp_all [TypeDesc.isRow]
    unfold loadVar
    rw [Sem.run_bind, hagg]
    simp only [Result.andThen_ok, Bool.false_eq_true, if_false]
    simp only [load, Sem.run, hv]
def Qfk (c : Cfg) : Option (TypeId × Value × Value) :=
  match c with
  | ⟨.ops all (o :: l) :: k, s⟩ => match Qa2 s all o, o.op with
    | some true, .makeSlice t x y => match s.val x, s.val y with
      | some (.v u), some (.v v) => some (t, u, v)
      | _, _ => none
    | _, _ => none
  | _ => none
theorem sy_mk {c : Cfg} {t e : TypeId} {u v : Value} {n : Nat} {cs : List Value} (S : Sy w0 r bs c.s F a w) (hh : Qfk c = some (t, u, v)) (hr : ∀ w, (Instr.makeSlice t u v).run P w = .ok (.slice (some ⟨w.heap.size, 0, none⟩) n n) (w.alloc (.cells cs.toArray e (0, 0)))) {Q : Exit → Act → World → Prop}
    (h : ∀ b a' w', w0.heap.size ≤ b → (∀ i, i < bs.length → bs.getD i 0 ≠ b) → (∀ f ∈ F, ¬f.bl b) → w'.heap[b]? = some (.cells cs.toArray e (0, 0)) → Below w.heap.size w w' → Sy w0 r bs (Qet c (.v (.slice (some ⟨b, 0, none⟩) n n))).s F a' w' → post P (Qet c (.v (.slice (some ⟨b, 0, none⟩) n n))).k Q .normal a' w') : post P c.k Q .normal a w := by
  obtain ⟨k, s⟩ := c
  match k with
  | .ops all (o :: l) :: k =>
    show wpList P all (post P k Q) (o :: l) a w
    refine wpList_step fun K hK => ?_
    unfold Qfk at hh
    simp only at hh
    cases hw : Qa2 s all o with
    | none => rw [hw] at hh; simp at hh
    | some b' =>
      rw [hw] at hh
      cases b' with
      | false => simp at hh
      | true =>
        cases ho : o.op <;> rw [ho] at hh <;> simp only [reduceCtorEq] at hh
        case makeSlice t' x y =>
          cases hx : s.val x with
          | none => rw [hx] at hh; simp at hh
          | some p =>
            rw [hx] at hh
            cases p with
            | v p =>
              cases hy : s.val y with
              | none => rw [hy] at hh; simp at hh
              | some q =>
                rw [hy] at hh
                cases q with
                | v q =>
                  simp only [Option.some.injEq, Prod.mk.injEq] at hh
                  obtain ⟨rfl, rfl, rfl⟩ := hh
                  have h1 := (S.val hx).1
                  have h2 := (S.val hy).1
                  rw [Qar S hw, if_pos rfl]
                  unfold Oper.wp execOp
                  simp only [ho, h1, h2, den, Sem.run_bind, hr w, Sem.run_pure, Result.andThen_ok]
                  have hb : Below w.heap.size w (w.alloc (.cells cs.toArray e (0, 0))) := (Below.refl _ _).alloc (Nat.le_refl _) _
                  exact hK _ _ (h w.heap.size _ _ S.gr.size (fun i hi he => by have := S.lt hi; omega) (fun f hf hbl => by have := f.lt w (S.fs f hf).1 _ hbl; omega) (heap_alloc_new w _) hb ((S.below hb).put o.dst (x := .v _) trivial))
                | _ => simp at hh
            | _ => simp at hh
  | [] => simp [Qfk] at hh
  | .code _ :: _ => simp [Qfk] at hh
  | .blk _ :: _ => simp [Qfk] at hh
  | .rnd _ _ :: _ => simp [Qfk] at hh
  | .ops _ [] :: _ => simp [Qfk] at hh
def Qaa (B : Nat) (e : TypeId) (size : Nat) (v : Value) (n : Nat) (xs : List Value) : RF := ⟨fun b => v.ownBlock = some b, fun w => w.ownsRow B e size v n xs, fun w h b hb => (h.lt b hb).2, fun w w' h hb => by
  refine ⟨h.1, ?_⟩
  rcases h.2 with hn | ⟨g, cap, cur, rfl, h1, h2, rest⟩
  · exact .inl hn
  · exact .inr ⟨g, cap, cur, rfl, h1, (hb g rfl).trans h2, rest⟩⟩
def Qdg (c : Cfg) : Option (SV × SV × TypeId) :=
  match c with
  | ⟨.ops all (o :: l) :: k, s⟩ => match Qa2 s all o, o.op with
    | some true, .call ca => match ca.callee, ca.args.toList, ca.argTypes.toList with
      | .builtin .append, [x, y], [t, t'] => if t = t' then match s.val x, s.val y with
          | some u, some v => some (u, v, t)
          | _, _ => none
        else none
      | _, _, _ => none
    | _, _ => none
  | _ => none
theorem Qmw (S : Sy w0 r bs s F a w) {all : Array Oper} {o : Oper} {l : List Oper} {k : List It} {u v : SV} {t : TypeId} (hh : Qdg ⟨.ops all (o :: l) :: k, s⟩ = some (u, v, t)) :
    Region.wanted o (yielded all a.tmps) = true ∧ ∃ x y, o.op = .call { callee := .builtin .append, args := #[x, y], argTypes := #[t, t] } ∧ a.eval x = den bs u ∧ a.eval y = den bs v := by
  unfold Qdg at hh
  simp only at hh
  cases hw : Qa2 s all o with
  | none => rw [hw] at hh; simp at hh
  | some b =>
    rw [hw] at hh
    cases b with
    | false => simp at hh
    | true =>
      refine ⟨Qar S hw, ?_⟩
      cases ho : o.op <;> rw [ho] at hh <;> simp only [reduceCtorEq] at hh
      case call ca =>
        obtain ⟨callee, ⟨args⟩, ⟨ats⟩⟩ := ca
        simp only at hh
        split at hh
        · rename_i x y t1 t2
          split at hh
          · rename_i ht
            subst ht
            cases hx : s.val x with
            | none => rw [hx] at hh; simp at hh
            | some p =>
              cases hy : s.val y with
              | none => rw [hx, hy] at hh; simp at hh
              | some q =>
                rw [hx, hy] at hh
                simp only [Option.some.injEq, Prod.mk.injEq] at hh
                obtain ⟨rfl, rfl, rfl⟩ := hh
                exact ⟨x, y, rfl, (S.val hx).1, (S.val hy).1⟩
          · cases hh
        · cases hh
theorem Qgz {w w' : World} (h : w.grownBy w' none) : Below w.heap.size w w' := ⟨h.os, h.tape, h.output, h.size, fun k hk => h.block k hk (by simp)⟩
theorem Sy.grownO (S : Sy w0 r bs s F a w) {w' : World} {v : Value} (hg : w.grownBy w' v.ownBlock) (h0 : ∀ g, v.ownBlock = some g → g ∈ r ∨ w0.heap.size ≤ g) {F' : List RF} (hF : ∀ f ∈ F', f ∈ F ∧ ∀ g, v.ownBlock = some g → ¬f.bl g) (hn : ∀ i, i < bs.length → v.ownBlock ≠ some (bs.getD i 0)) : Sy w0 r bs s F' a w' := by
  cases hv : v.ownBlock with
  | none =>
    rw [hv] at hg
    exact (S.below (Qgz hg)).sub fun f hf => (hF f hf).1
  | some g =>
    rw [hv] at hg
    exact S.grown hg (h0 g hv) (fun f hf => ⟨(hF f hf).1, (hF f hf).2 g hv⟩) fun i hi he => hn i hi (by rw [hv, he])
end
section
variable [DF] [KP] [HF]
variable {P : Program} {w0 : World} {r : List Nat} {B : List Nat} {ro bs : List Nat} {QQ : Exit → Act → World → Prop} [PInv QQ] {c : Cfg} {d : DC} {F : List RF} {a : Act} {w : World}
section
variable (i : Nat) (D : Sd w0 r B c.s.K ro bs d.s F a w) (hs : Region.noSelect (QaH c) = true)
include i D hs
theorem Qlq {o : Oper} (ho : (QaH c)[i]? = some o) (hw : Region.wanted o (yielded (QaH c) a.tmps) = true) {C : Value → World → Prop} (hr : ∃ v' w', (execOp a.eval o).run P w = .ok (.value v') w' ∧ C v' w' ∧ Below w.heap.size w w') (h : ∀ v' a' w', C v' w' → Below w.heap.size w w' → (∀ j, j < bs.length → bs.getD j 0 < w.heap.size) → Sd w0 r B c.s.K ro bs (dV P c ro d i (.v v')).s F a' w' → GD P c QQ B ro (dV P c ro d i (.v v')) a' w') : Nxt P (QaH c) (PQ P (kD c) QQ) (QbM B c.s.K ro) d.pred d.lst a w i := by
  obtain ⟨v', w', h1, h2, h3⟩ := hr
  unfold Nxt wpOp
  rw [ho]
  simp only
  rw [if_pos hw]
  refine Or.inl ?_
  unfold Oper.wp
  rw [h1, Oper.upon_value]
  have D1 : Sd w0 r B c.s.K ro bs d.s F a w' := ⟨D.S.below h3, D.pre, D.bl, D.ff, D.hro⟩
  have D2 := D1.put o.dst (x := .v v') trivial
  have e : ((QaH c)[i]?).bind (·.dst) = o.dst := by rw [ho]; rfl
  refine ⟨D2.hold, ?_⟩
  exact Qbx (d := ⟨d.m - 1, d.lst.setIfInBounds i true, d.s.put (((QaH c)[i]?).bind (·.dst)) (.v v')⟩) hs (by rw [e]; exact D2) fun a'' D'' => h v' a'' w' h2 h3 (fun j hj => D.S.lt hj) D''
theorem Qlr {u y : SV} {t e : TypeId} {b : Option Addr} {n : Nat} {ad : Addr} {m cp size bytes : Nat} {xs news : List Value} {info : TypeInfo} {z : Value} (hh : (((QaH c)[i]?).bind fun o => Qdg ⟨[.ops (QaH c) [o]], d.s⟩) = some (u, y, t)) (ht : P.underlying t = some (.slice e)) (hi : P.info? e = some info) (hz : info.zero = some z) (hsize : info.size = size) (hby : info.bytes = bytes) (hzs : z.cells.size = size) (hu : den bs u = .slice b n n) (hy : den bs y = .slice (some ad) m cp) (hm : 0 < m) (hx : (b = none ∧ n = 0) ∨ (∃ g o, b = some ⟨g, o, none⟩ ∧ ∀ j x, xs[j]? = some x → w.cell? ⟨g, o + j, none⟩ = some x) ∨ (n = 0 ∧ b.isSome = true)) (hxl : xs.length = n * size) (hnews : ∀ j x, news[j]? = some x → w.cell? (ad.add j) = some x) (hl : news.length = m * size) (h63 : n + m ≤ 100000) (hbytes : (n + m) * bytes ≤ 140737488355328) (h : ∀ v' a' w', w'.ownsRow w.heap.size e size v' (n + m) (xs ++ news) → Below w.heap.size w w' → (∀ j, j < bs.length → bs.getD j 0 < w.heap.size) → Sd w0 r B c.s.K ro bs (dV P c ro d i (.v v')).s F a' w' → GD P c QQ B ro (dV P c ro d i (.v v')) a' w') : Nxt P (QaH c) (PQ P (kD c) QQ) (QbM B c.s.K ro) d.pred d.lst a w i := by
  obtain ⟨o, ho, hh⟩ : ∃ o, (QaH c)[i]? = some o ∧ Qdg ⟨[.ops (QaH c) [o]], d.s⟩ = some (u, y, t) := by
    cases ho : (QaH c)[i]? with
    | none => rw [ho] at hh; cases hh
    | some o => rw [ho] at hh; exact ⟨o, rfl, hh⟩
  obtain ⟨hw, x, yy, hop, hx1, hy1⟩ := Qmw D.S hh
  subst hsize
  subst hby
  refine Qlq i D hs ho hw (C := fun v' w' => w'.ownsRow w.heap.size e info.size v' (n + m) (xs ++ news)) ?_ h
  have key : ∃ (cap : Nat) (Z : Array Value), (Builtin.append_ #[t, t] o.type #[.slice b n n, .slice (some ad) m cp]).run P w = .ok (.slice (some ⟨w.heap.size, 0, none⟩) (n + m) cap) (w.drew.alloc (.cells (xs.toArray ++ news.toArray ++ Z) e)) ∧ n + m ≤ cap ∧ cap ≤ maxLen ∧ Z.size = (cap - (n + m)) * info.size := by
    rcases hx with ⟨rfl, rfl⟩ | ⟨g, of, rfl, hc⟩ | ⟨rfl, hsm⟩
    · have hx0 : xs = [] := List.eq_nil_of_length_eq_zero (by simpa using hxl)
      subst hx0
      have hr := run_append_nil (P := P) w t o.type e info z ht hi hz ad m cp news hl hnews hm (by omega) (by simp only [Nat.zero_add] at hbytes; omega)
      refine ⟨grownCap w m 0 e, Builtin.zeroCells z.cells (grownCap w m 0 e - m), ?_, ?_, grownCap_le_maxLen w m 0 e (by simp only [maxLen]; omega), by rw [size_zeroCells, hzs]; simp⟩
      · simpa using hr
      · simpa using grownCap_ge w m 0 e
    · have hr := run_append_grow (P := P) w t o.type e info z ht hi hz ⟨g, of, none⟩ n n xs hxl (fun j v hj => by rw [Addr.add_mid]; exact hc j v hj) ad m cp news hl hnews (by omega) (by omega) (growslice_fits (by omega) hbytes)
      exact ⟨_, _, hr, grownCap_ge w (n + m) n e, grownCap_le_maxLen w (n + m) n e (by simp only [maxLen]; omega), by rw [size_zeroCells, hzs]⟩
    · obtain ⟨a0, rfl⟩ := Option.isSome_iff_exists.1 hsm
      have hx0 : xs = [] := List.eq_nil_of_length_eq_zero (by simpa using hxl)
      subst hx0
      have hr := run_append_grow (P := P) w t o.type e info z ht hi hz a0 0 0 [] (by simp) (fun j v hj => by simp at hj) ad m cp news hl hnews (by omega) (by omega) (growslice_fits (by omega) hbytes)
      exact ⟨_, _, hr, grownCap_ge w (0 + m) 0 e, grownCap_le_maxLen w (0 + m) 0 e (by simp only [maxLen]; omega), by rw [size_zeroCells, hzs]⟩
  obtain ⟨cap, Z, hr, g1, g2, g3⟩ := key
  refine ⟨_, w.drew.alloc (.cells (xs.toArray ++ news.toArray ++ Z) e), ?_, ⟨by rw [List.length_append, hxl, hl, Nat.add_mul], Or.inr ⟨w.heap.size, cap, _, rfl, Nat.le_refl _, heap_alloc_new w.drew _, g1, g2, ?_, ?_⟩⟩, ⟨rfl, rfl, rfl, by simp, fun k hk => heap_alloc_old w.drew _ hk⟩⟩
  · unfold execOp
    simp only [hop, resolve, invoke, builtin, Sem.run_bind, Sem.run_pure, Result.andThen_ok, List.map_toArray, List.map_cons, List.map_nil, hx1, hy1, hu, hy, hr]
  · simp only [Array.size_append, List.size_toArray, hxl, hl, g3, ← Nat.add_mul]
    congr 1
    omega
  · simp only [Array.toList_append, List.append_assoc]
    rw [← List.append_assoc]
    have e1 : (n + m) * info.size = (xs ++ news).length := by rw [List.length_append, hxl, hl, Nat.add_mul]
    rw [e1]
    exact List.take_left
end
end
section
variable [DF] [KP] [HF]
variable {P : Program} {w0 : World} {r : List Nat} {B : List Nat} {ro bs : List Nat} {QQ : Exit → Act → World → Prop} [PInv QQ] {c : Cfg} {d : DC} {F : List RF} {a : Act} {w : World}
theorem app_at {w : World} {B0 : Nat} {e t ty : TypeId} {info : TypeInfo} {z : Value} (ht : P.underlying t = some (.slice e)) (hi : P.info? e = some info) (hz : info.zero = some z) (hzs : z.cells.size = info.size) (hsz : 0 < info.size)
    {v : Value} {n : Nat} {xs : List Value} (hown : w.ownsRow B0 e info.size v n xs) {ad : Addr} {m cp : Nat} {news : List Value} (hl : news.length = m * info.size) (hnews : ∀ j x, news[j]? = some x → w.cell? (ad.add j) = some x) (h1 : ∀ u ∈ news, u.oneCell' = true)
    (h63 : n + m ≤ maxLen) (hbytes : (n + m) * info.bytes ≤ 140737488355328) (hB1 : B0 ≤ w.heap.size) :
    ∃ v' w', (Builtin.append_ #[t, t] ty #[v, .slice (some ad) m cp]).run P w = .ok v' w' ∧ w'.ownsRow B0 e info.size v' (n + m) (xs ++ news) ∧ w.grownBy w' v.ownBlock ∧ ∀ g, v'.ownBlock = some g → v.ownBlock = some g ∨ w.heap.size ≤ g := by
  obtain ⟨v', w', hr, h2, h3, _⟩ := run_append_own (P := P) w B0 t ty e info z info.size info.bytes ht hi hz rfl rfl hzs hsz v n xs hown ad m cp news hl hnews h1 h63 hbytes hB1
  refine ⟨v', w', hr, h2, h3, fun g' hg' => ?_⟩
  rcases hown.2 with ⟨rfl, rfl⟩ | ⟨g, cap, cur, rfl, hbg, hg, hnc, hcm, hcs, htake⟩
  · have hx : xs = [] := List.eq_nil_of_length_eq_zero (by simpa using hown.1)
    subst hx
    obtain ⟨v2, w2, hr2, q2, _, _⟩ := run_append_own (P := P) w w.heap.size t ty e info z info.size info.bytes ht hi hz rfl rfl hzs hsz _ 0 [] (World.ownsRow_nil w w.heap.size e info.size) ad m cp news hl hnews h1 h63 hbytes (Nat.le_refl _)
    rw [hr] at hr2
    simp only [Result.ok.injEq] at hr2
    obtain ⟨rfl, rfl⟩ := hr2
    exact Or.inr (q2.lt g' hg').1
  · by_cases hroom : n + m ≤ cap
    · have hfit : n * info.size + news.length ≤ cur.size := by rw [hl, hcs, ← Nat.add_mul]; exact Nat.mul_le_mul_right _ hroom
      have hr2 := run_append_room (P := P) w t ty e info ht hi g n cap cur hg ad m cp news hl hnews h1 hroom hfit
      rw [hr] at hr2
      simp only [Result.ok.injEq] at hr2
      obtain ⟨rfl, _⟩ := hr2
      exact Or.inl (by simpa [Value.ownBlock] using hg')
    · have hr2 := run_append_grow (P := P) w t ty e info z ht hi hz ⟨g, 0, none⟩ n cap xs hown.1 (hown.cells (g := g) rfl) ad m cp news hl hnews (by omega) (by simp only [maxLen] at h63; omega) (growslice_fits (by omega) hbytes)
      rw [hr] at hr2
      simp only [Result.ok.injEq] at hr2
      obtain ⟨rfl, _⟩ := hr2
      simp [Value.ownBlock] at hg'
      exact Or.inr (by omega)
theorem Qgp (i : Nat) (B0 : Nat) (F' : List RF) (D : Sd w0 r B c.s.K ro bs d.s F a w) (hs : Region.noSelect (QaH c) = true) {u y : SV} {t e : TypeId} {v : Value} {n : Nat} {ad : Addr} {m cp size bytes : Nat} {xs news : List Value} {info : TypeInfo} {z : Value}
    (hh : (((QaH c)[i]?).bind fun o => Qdg ⟨[.ops (QaH c) [o]], d.s⟩) = some (u, y, t)) (ht : P.underlying t = some (.slice e)) (hi : P.info? e = some info) (hz : info.zero = some z)
    (hsize : info.size = size) (hby : info.bytes = bytes) (hzs : z.cells.size = size) (hsz : 0 < size) (hu : den bs u = v) (hy : den bs y = .slice (some ad) m cp)
    (hown : w.ownsRow B0 e size v n xs) (hB1 : B0 ≤ w.heap.size)
    (hnews : ∀ j x, news[j]? = some x → w.cell? (ad.add j) = some x) (hl : news.length = m * size) (h1 : ∀ u ∈ news, u.oneCell' = true) (h63 : n + m ≤ maxLen) (hbytes : (n + m) * bytes ≤ 140737488355328)
    (h0 : ∀ g, v.ownBlock = some g → g ∈ r ∨ w0.heap.size ≤ g) (hF : ∀ f ∈ F', f ∈ F ∧ ∀ g, v.ownBlock = some g → ¬f.bl g) (hff : ∀ f ∈ HF.fs, f ∈ F') (hn : ∀ i, i < bs.length → v.ownBlock ≠ some (bs.getD i 0))
    (h : ∀ v' a' w', w'.ownsRow B0 e size v' (n + m) (xs ++ news) → w.grownBy w' v.ownBlock → (∀ g, v'.ownBlock = some g → v.ownBlock = some g ∨ w.heap.size ≤ g) → (∀ j, j < bs.length → bs.getD j 0 < w.heap.size) → Sd w0 r B c.s.K ro bs (dV P c ro d i (.v v')).s F' a' w' → GD P c QQ B ro (dV P c ro d i (.v v')) a' w') : Nxt P (QaH c) (PQ P (kD c) QQ) (QbM B c.s.K ro) d.pred d.lst a w i := by
  obtain ⟨o, ho, hh⟩ : ∃ o, (QaH c)[i]? = some o ∧ Qdg ⟨[.ops (QaH c) [o]], d.s⟩ = some (u, y, t) := by
    cases ho : (QaH c)[i]? with
    | none => rw [ho] at hh; cases hh
    | some o => rw [ho] at hh; exact ⟨o, rfl, hh⟩
  obtain ⟨hw, x, yy, hop, hx1, hy1⟩ := Qmw D.S hh
  unfold Nxt wpOp
  rw [ho]
  simp only
  rw [if_pos hw]
  refine Or.inl ?_
  subst hsize
  subst hby
  obtain ⟨v', w', hr, hv', hg, hnn⟩ := app_at (P := P) (ty := o.type) ht hi hz hzs hsz hown (cp := cp) hl hnews h1 h63 hbytes hB1
  have hex : (execOp a.eval o).run P w = .ok (.value v') w' := by
    unfold execOp
    simp only [hop, resolve, invoke, builtin, Sem.run_bind, Sem.run_pure, Result.andThen_ok, List.map_toArray, List.map_cons, List.map_nil, hx1, hy1, hu, hy, hr]
  unfold Oper.wp
  rw [hex, Oper.upon_value]
  have D1 : Sd w0 r B c.s.K ro bs d.s F' a w' := ⟨D.S.grownO hg h0 hF hn, D.pre, D.bl, hff, D.hro⟩
  have D2 := D1.put o.dst (x := .v v') trivial
  have e : ((QaH c)[i]?).bind (·.dst) = o.dst := by rw [ho]; rfl
  refine ⟨D2.hold, ?_⟩
  exact Qbx (d := ⟨d.m - 1, d.lst.setIfInBounds i true, d.s.put (((QaH c)[i]?).bind (·.dst)) (.v v')⟩) hs (by rw [e]; exact D2) fun a'' D'' => h v' a'' w' hv' hg hnn (fun j hj => D.S.lt hj) D''
end
def Qa5 (c : Cfg) : Option Oper :=
  match c with
  | ⟨.ops all (o :: l) :: k, s⟩ => match Qa2 s all o with
    | some true => some o
    | _ => none
  | _ => none
section
variable [DF]
variable {P : Program} {w0 : World} {r : List Nat} {bs : List Nat} {s : SS} {F : List RF} {a : Act} {w : World}
theorem QcC {c : Cfg} {op : Op} {ty : TypeId} {v : Value} (S : Sy w0 r bs c.s F a w) (ho : (Qa5 c).map (fun o => (o.op, o.type)) = some (op, ty))
    (hr : ∀ (o : Oper) (ρ : Operand → Value) (W : World), o.op = op → o.type = ty → (∀ x y, c.s.val x = some y → ρ x = den bs y) → (execOp ρ o).run P W = .ok (.value v) W) {Q : Exit → Act → World → Prop}
    (h : ∀ a', Sy w0 r bs (Qet c (.v v)).s F a' w → post P (Qet c (.v v)).k Q .normal a' w) : post P c.k Q .normal a w := by
  obtain ⟨k, s⟩ := c
  match k with
  | .ops all (o :: l) :: k =>
    show wpList P all (post P k Q) (o :: l) a w
    refine wpList_step fun K hK => ?_
    unfold Qa5 at ho
    simp only at ho
    cases hw : Qa2 s all o with
    | none => rw [hw] at ho; simp at ho
    | some b' =>
      rw [hw] at ho
      cases b' with
      | false => simp at ho
      | true =>
        simp only [Option.map_some, Option.some.injEq, Prod.mk.injEq] at ho
        rw [Qar S hw, if_pos rfl]
        unfold Oper.wp
        rw [hr o a.eval w ho.1 ho.2 (fun x y hx => (S.val hx).1), Oper.upon_value]
        exact hK _ _ (h _ (S.put o.dst (x := .v v) trivial))
  | [] => simp [Qa5] at ho
  | .code _ :: _ => simp [Qa5] at ho
  | .blk _ :: _ => simp [Qa5] at ho
  | .rnd _ _ :: _ => simp [Qa5] at ho
  | .ops _ [] :: _ => simp [Qa5] at ho
end
section
variable [DF] [KP] [HF]
variable {P : Program} {w0 : World} {r : List Nat} {B : List Nat} {ro bs : List Nat} {QQ : Exit → Act → World → Prop} [PInv QQ] {c : Cfg} {d : DC} {F : List RF} {a : Act} {w : World}
end
section
variable [DF] [KP] [HF]
variable {P : Program} {w0 : World} {r : List Nat} {B : List Nat} {ro bs : List Nat} {QQ : Exit → Act → World → Prop} [PInv QQ] {c : Cfg} {d : DC} {F : List RF} {a : Act} {w : World}
theorem Qbj (hp : ∀ (d : Option Nat) (v : Value) (c : List PanicEntry) (a : Act) (w : World), QQ (.panic c) (a.put d v) w → QQ (.panic c) a w) (i : Nat) {op : Op} {ty : TypeId} {v : Value} (D : Sd w0 r B c.s.K ro bs d.s F a w) (hs : Region.noSelect (QaH c) = true) (hn : (d.m != 0) = true) (hf : (Region.free .any (QaH c) d.lst i && (Region.ready .any (QaH c) d.lst).contains i) = true)
    (ho : (((QaH c)[i]?).bind fun o => Qa5 ⟨[.ops (QaH c) [o]], d.s⟩).map (fun o => (o.op, o.type)) = some (op, ty))
    (hr : ∀ (o : Oper) (ρ : Operand → Value) (W : World), o.op = op → o.type = ty → (∀ x y, d.s.val x = some y → ρ x = den bs y) → (execOp ρ o).run P W = .ok (.value v) W)
    (h : ∀ a', Sd w0 r B c.s.K ro bs (dV P c ro d i (.v v)).s F a' w → GD P c QQ B ro (dV P c ro d i (.v v)) a' w) : GD P c QQ B ro d a w := by
  cases ho2 : (QaH c)[i]? with
  | none => rw [ho2] at ho; cases ho
  | some o =>
    rw [ho2] at ho
    simp only [Option.bind_some, Qa5] at ho
    cases hw : Qa2 d.s (QaH c) o with
    | none => rw [hw] at ho; simp at ho
    | some b' =>
      rw [hw] at ho
      cases b' with
      | false => simp at ho
      | true =>
        simp only [Option.map_some, Option.some.injEq, Prod.mk.injEq] at ho
        have hn' : d.m = (d.m - 1) + 1 := by simp at hn; omega
        simp only [Bool.and_eq_true] at hf
        obtain ⟨h1, h2⟩ := hf
        have e : ((QaH c)[i]?).bind (·.dst) = o.dst := by rw [ho2]; rfl
        show wpAnyH P .any (QaH c) (PQ P (kD c) QQ) (QbM B c.s.K ro) d.m d.lst a w
        rw [hn']
        refine wpAnyH_take ho2 hs h1 h2 (fun c' a w h => by
          have h' : post P (kD c) QQ (.panic c') (a.put o.dst v) w := h
          show post P (kD c) QQ (.panic c') a w
          rw [Qci] at h' ⊢
          exact hp _ _ _ _ _ h') (Or.inl ⟨Qar D.S hw, fun W _ => hr o a.eval W ho.1 ho.2 (fun x y hx => (D.S.val hx).1)⟩) D.hold ?_
        exact Qbx (d := ⟨d.m - 1, d.lst.setIfInBounds i true, d.s.put (((QaH c)[i]?).bind (·.dst)) (.v v)⟩) hs (by rw [e]; exact D.put o.dst (x := .v v) trivial) h
theorem QiZ (i : Nat) (F' : List RF) (D : Sd w0 r B c.s.K ro bs d.s F a w) (hs : Region.noSelect (QaH c) = true) {ty : TypeId} {ad : Addr} {x : SV} {v : Value} {w' : World}
    (hh : (((QaH c)[i]?).bind fun o => Qd2 ⟨[.ops (QaH c) [o]], d.s⟩) = some (ty, ad, x)) (hv : den bs x = v) (hr : (storeVar ty ad v).run P w = .ok () w') (hg : w.grownBy w' (some ad.block))
    (h0 : ad.block ∈ r ∨ w0.heap.size ≤ ad.block) (hF : ∀ f ∈ F', f ∈ F ∧ ¬f.bl ad.block) (hff : ∀ f ∈ HF.fs, f ∈ F') (hn : ∀ i, i < bs.length → bs.getD i 0 ≠ ad.block)
    (h : ∀ a', Sd w0 r B c.s.K ro bs (dV P c ro d i (.v undef)).s F' a' w' → GD P c QQ B ro (dV P c ro d i (.v undef)) a' w') : Nxt P (QaH c) (PQ P (kD c) QQ) (QbM B c.s.K ro) d.pred d.lst a w i := by
  cases ho : (QaH c)[i]? with
  | none => rw [ho] at hh; cases hh
  | some o =>
    rw [ho] at hh
    simp only [Option.bind_some, Qd2] at hh
    cases hw : Qa2 d.s (QaH c) o with
    | none => rw [hw] at hh; simp at hh
    | some b' =>
      rw [hw] at hh
      cases b' with
      | false => simp at hh
      | true =>
        cases hop : o.op <;> rw [hop] at hh <;> simp only [reduceCtorEq] at hh
        case store ty' p y =>
          cases hp : d.s.val p with
          | none => rw [hp] at hh; simp at hh
          | some q =>
            rw [hp] at hh
            cases q with
            | v q =>
              cases q with
              | pointer pa =>
                cases pa with
                | none => simp at hh
                | some ad' =>
                  cases hy : d.s.val y with
                  | none => rw [hy] at hh; simp at hh
                  | some z =>
                    rw [hy] at hh
                    simp only [Option.some.injEq, Prod.mk.injEq] at hh
                    obtain ⟨rfl, rfl, rfl⟩ := hh
                    have h1 : a.eval p = .pointer (some ad') := (D.S.val hp).1
                    have h2 : a.eval y = v := (D.S.val hy).1.trans hv
                    unfold Nxt wpOp
                    rw [ho]
                    simp only
                    rw [Qar D.S hw, if_pos rfl]
                    refine Or.inl ?_
                    unfold Oper.wp execOp
                    simp only [hop, h1, h2, Instr.storeAt, Instr.sureAddr, Sem.run_bind, Sem.run_pure, Result.andThen_ok, hr]
                    have D1 : Sd w0 r B c.s.K ro bs d.s F' a w' := ⟨D.S.grown hg h0 hF hn, D.pre, D.bl, hff, D.hro⟩
                    have D2 := D1.put o.dst (x := .v undef) trivial
                    have e : ((QaH c)[i]?).bind (·.dst) = o.dst := by rw [ho]; rfl
                    refine ⟨D2.hold, ?_⟩
                    exact Qbx (d := ⟨d.m - 1, d.lst.setIfInBounds i true, d.s.put (((QaH c)[i]?).bind (·.dst)) (.v undef)⟩) hs (by rw [e]; exact D2) fun a'' D'' => h a'' D''
              | _ => simp at hh
            | _ => simp at hh
end
section
variable {P : Program}
section
variable {s : SS} {bs : List Nat}
include s bs
theorem Qjg {x y : Operand} {ts : Array TypeId} {ty : TypeId} {p q : Int} (hx : s.val x = some (.v (.int .i64 p))) (hy : s.val y = some (.v (.int .i64 q))) {z : Int} (hz : (if q < p then q else p) = z) :
    ∀ (o : Oper) (ρ : Operand → Value) (W : World), o.op = .call { callee := .builtin .min, args := #[x, y], argTypes := ts } → o.type = ty → (∀ x y, s.val x = some y → ρ x = den bs y) → (execOp ρ o).run P W = .ok (.value (.int .i64 z)) W := by
  intro o ρ W h1 h2 h3
  have hr := run_min_int2 (P := P) W ts o.type .i64 .i64 p q
  have e1 : ρ x = .int .i64 p := h3 x _ hx
  have e2 : ρ y = .int .i64 q := h3 y _ hy
  unfold execOp
  subst hz
  simp only [h1, resolve, invoke, builtin, Sem.run_bind, Sem.run_pure, Result.andThen_ok, List.map_toArray, List.map_cons, List.map_nil, e1, e2, hr]
theorem Qhj {x y : Operand} {t t' ty : TypeId} {p q : ByteArray} (ht : P.underlying t = some .string) (hx : s.val x = some (.v (.string p))) (hy : s.val y = some (.v (.string q))) (hl : p.size + q.size ≤ 9223372036854775807) :
    ∀ (o : Oper) (ρ : Operand → Value) (W : World), o.op = .binOp .add t x y t' → o.type = ty → (∀ x y, s.val x = some y → ρ x = den bs y) → (execOp ρ o).run P W = .ok (.value (.string (p ++ q))) W := by
  intro o ρ W h1 h2 h3
  have e1 : ρ x = .string p := h3 x _ hx
  have e2 : ρ y = .string q := h3 y _ hy
  unfold execOp
  have hr : ∀ W, (binOp .add t (.string p) (.string q)).run P W = .ok (.string (p ++ q)) W := fun W => by rw [binOp_string_add]; exact run_string_add_sum W p q hl
  have hg : eqGuard .add t x y (.string p) (.string q) = pure () := eqGuard_add _ _ _ _ _
  simp only [h1, e1, e2, hg, Sem.run_bind, Sem.run_pure, Result.andThen_ok, hr]
theorem Qhi {x : Operand} {lo hi : Option Operand} {t ty : TypeId} {p : ByteArray} {l2 h2 : Option SV} (ht : P.underlying t = some .string) (hx : s.val x = some (.v (.string p))) (hl : lo.map s.val = l2.map some) (hh : hi.map s.val = h2.map some) {v : Value} (hr : ∀ W, (Instr.sliceAt t (.string p) (l2.map (den bs)) (h2.map (den bs)) none).run P W = .ok v W) :
    ∀ (o : Oper) (ρ : Operand → Value) (W : World), o.op = .slice t x lo hi none → o.type = ty → (∀ x y, s.val x = some y → ρ x = den bs y) → (execOp ρ o).run P W = .ok (.value v) W := by
  intro o ρ W h1 h2' h3
  have e1 : ρ x = .string p := h3 x _ hx
  have e2 : lo.map ρ = l2.map (den bs) := by
    cases lo <;> cases l2 <;> simp_all
  have e3 : hi.map ρ = h2.map (den bs) := by
    cases hi <;> cases h2 <;> simp_all
  unfold execOp
  simp only [h1, e1, e2, e3, Option.map_none, Sem.run_bind, Sem.run_pure, Result.andThen_ok, hr]
theorem QlU {x : Operand} {lo hi mx : Option Operand} {t ty : TypeId} {p : Value} {l2 h2 m2 : Option SV} (hx : s.val x = some (.v p)) (hl : lo.map s.val = l2.map some) (hh : hi.map s.val = h2.map some) (hm : mx.map s.val = m2.map some) {v : Value} (hr : ∀ W, (Instr.sliceAt t p (l2.map (den bs)) (h2.map (den bs)) (m2.map (den bs))).run P W = .ok v W) :
    ∀ (o : Oper) (ρ : Operand → Value) (W : World), o.op = .slice t x lo hi mx → o.type = ty → (∀ x y, s.val x = some y → ρ x = den bs y) → (execOp ρ o).run P W = .ok (.value v) W := by
  intro o ρ W h1 h2' h3
  have e1 : ρ x = p := h3 x _ hx
  have e2 : lo.map ρ = l2.map (den bs) := by
    cases lo <;> cases l2 <;> simp_all
  have e3 : hi.map ρ = h2.map (den bs) := by
    cases hi <;> cases h2 <;> simp_all
  have e4 : mx.map ρ = m2.map (den bs) := by
    cases mx <;> cases m2 <;> simp_all
  unfold execOp
  simp only [h1, e1, e2, e3, e4, Sem.run_bind, Sem.run_pure, Result.andThen_ok, hr]
end
end
end Go.Proofs.Ytfhmdlihnidjoaa.SZ
namespace Go.Proofs.Ytfhmdlihnidjoaa
set_option linter.unusedVariables false
set_option linter.unusedSectionVars false
set_option linter.unusedSimpArgs false
set_option maxRecDepth 100000
set_option maxHeartbeats 8000000
open Go Go.RowKit SZ
attribute [local irreducible] post GD Nxt Qai
structure Dk where
  sa : Option Addr
  sl : Nat
  sc : Nat
  ta : Option Addr
  tl : Nat
  tc : Nat
  b : Nat
  o : Nat
  c : Nat
  p : Nat
  S : List ByteArray
  W : List (Int × ByteArray)
def Dk.v (d : Dk) : Value := .agg #[.slice d.sa d.sl d.sc, .slice d.ta d.tl d.tc]
structure Dk.ok (d : Dk) : Prop where
  hS : d.S.length = d.sl
  hs : d.sl = 0 ∨ d.sa = some ⟨d.b, d.o, none⟩
  hW : d.W.length = d.tl
  hw2 : (d.ta = none ∧ d.tl = 0 ∧ d.tc = 0) ∨ ((d.tl = 0 ∨ d.ta = some ⟨d.c, d.p, none⟩) ∧ d.ta.isSome = true ∧ d.tl ≤ d.tc)
  l1 : d.sl ≤ 512
  l2 : d.tl ≤ 1000
theorem Dk.ok.hw {d : Dk} (h : d.ok) : d.tl = 0 ∨ d.ta = some ⟨d.c, d.p, none⟩ := h.hw2.elim (fun h => Or.inl h.2.1) (fun h => h.1)
def StrAt (w : World) (b o : Nat) (S : List ByteArray) : Prop := ∀ j, j < S.length → w.cell? ⟨b, o + j, none⟩ = some (.string (S.getD j ByteArray.empty))
def WasAt (w : World) (b o : Nat) (W : List (Int × ByteArray)) : Prop := ∀ j, j < W.length → w.cell? ⟨b, o + j * 2, none⟩ = some (.int .i64 (W.getD j (0, ByteArray.empty)).1) ∧ w.cell? ⟨b, o + j * 2 + 1, none⟩ = some (.string (W.getD j (0, ByteArray.empty)).2)
def Qaz (b o : Nat) (S : List ByteArray) : RF := ⟨fun b' => b' = b ∧ S.length ≠ 0, fun w => StrAt w b o S, fun w h b' hb => by
  obtain ⟨rfl, hl⟩ := hb
  exact World.block_lt_of_cell? w _ (h 0 (by omega)), fun w w' h hb j hj => (World.cell?_of_block (a := ⟨b, o + j, none⟩) (hb b ⟨rfl, by omega⟩)).trans (h j hj)⟩
def QaP (b o : Nat) (W : List (Int × ByteArray)) : RF := ⟨fun b' => b' = b ∧ W.length ≠ 0, fun w => WasAt w b o W, fun w h b' hb => by
  obtain ⟨rfl, hl⟩ := hb
  exact World.block_lt_of_cell? w _ (h 0 (by omega)).1, fun w w' h hb j hj => ⟨(World.cell?_of_block (a := ⟨b, o + j * 2, none⟩) (hb b ⟨rfl, by omega⟩)).trans (h j hj).1, (World.cell?_of_block (a := ⟨b, o + j * 2 + 1, none⟩) (hb b ⟨rfl, by omega⟩)).trans (h j hj).2⟩⟩
theorem Qaq {w w' : World} (h : Gr w w' []) : Below w.heap.size w w' := ⟨h.os, h.tape, h.output, h.size, fun k hk => h.block k hk (by simp)⟩
theorem StrAt.keep {w w' : World} {b o : Nat} {S : List ByteArray} (h : StrAt w b o S) (hb : Below w.heap.size w w') : StrAt w' b o S := fun j hj => (World.cell?_of_block (a := ⟨b, o + j, none⟩) (hb.block b (World.block_lt_of_cell? w _ (h j hj)))).trans (h j hj)
theorem WasAt.keep {w w' : World} {b o : Nat} {W : List (Int × ByteArray)} (h : WasAt w b o W) (hb : Below w.heap.size w w') : WasAt w' b o W := fun j hj => ⟨(World.cell?_of_block (a := ⟨b, o + j * 2, none⟩) (hb.block b (World.block_lt_of_cell? w _ (h j hj).1))).trans (h j hj).1, (World.cell?_of_block (a := ⟨b, o + j * 2 + 1, none⟩) (hb.block b (World.block_lt_of_cell? w _ (h j hj).1))).trans (h j hj).2⟩
theorem has_t (d : Dk) (at_ : Int) (h : 0 ≤ at_ ∧ at_ < d.sl) (w : World) : Calls Try.prog 47 #[d.v, .int .i64 at_] w fun e w' => e = .returned (.bool true) ∧ Below w.heap.size w w' := by
  refine Qas [] [] (by intro f hf; cases hf) Try.func47 rfl rfl fun aa S => ?_
  refine Qap 1 60 2 S fun bs aa w S => ?_
  refine Qab 6 S (decide_eq_true h.1 : decide (at_ ≥ 0) = true) fun S => ?_
  refine Qad 6 S fun bs aa w S => ?_
  refine Qab 12 S (decide_eq_true h.2 : decide (at_ < (d.sl : Int)) = true) fun S => ?_
  refine Qah S fun bs aa w S => ?_
  exact Qan S (by kernel_rfl) (by kernel_rfl) fun hg => ⟨rfl, Qaq hg⟩
theorem sync_t (d : Dk) (w : World) : Calls Try.prog 63 #[d.v] w fun e w' => e = .returned (.agg #[.slice d.sa d.sl d.sc, .slice none 0 0]) ∧ Below w.heap.size w w' := by
  refine Qas [] [] (by intro f hf; cases hf) Try.func63 rfl rfl fun aa S => ?_
  refine Qah S fun bs aa w S => ?_
  exact Qan S (by kernel_rfl) (by kernel_rfl) fun hg => ⟨rfl, Qaq hg⟩
def goZ : Nat → List Nat → List It → List It
  | n + 1, ch, .code (.seq x y) :: k => goZ n ch (.code x :: .code y :: k)
  | n + 1, ch, .code (.block id c) :: k => goZ n ch (.code c :: .blk id :: k)
  | n + 1, ch, .code (.region _ _ _) :: k => goZ n ch k
  | n + 1, ch, .code .skip :: k => goZ n ch k
  | n + 1, ch, .blk _ :: k => goZ n ch k
  | n + 1, c :: ch, .code (.cond _ x y) :: k => goZ n ch (.code (if c = 1 then x else y) :: k)
  | n + 1, _ :: ch, .code (.loop _) :: k => goZ n ch k
  | _, _, k => k
theorem Qag {P : Program} {k k' : List It} (he : k = k') {Q : Exit → Act → World → Prop} {a : Act} {w : World} (h : post P k' Q .normal a w) : post P k Q .normal a w := by rw [he]; exact h
theorem ld_was {w : World} {b o j : Nat} {W : List (Int × ByteArray)} (h : WasAt w b o W) (hj : j < W.length) : (loadVar 75 ⟨b, o + j * 2, none⟩).run Try.prog w = .ok (.agg #[.int .i64 (W.getD j (0, ByteArray.empty)).1, .string (W.getD j (0, ByteArray.empty)).2]) w := by
  obtain ⟨h0, h1⟩ := h j hj
  refine run_loadVar_mid w b (o + j * 2) 75 [.int .i64 (W.getD j (0, ByteArray.empty)).1, .string (W.getD j (0, ByteArray.empty)).2] _ ?_ Try.underlying75 rfl (by kernel_rfl)
  intro i x hi
  match i, hi with
  | 0, hi => simp at hi; subst hi; exact h0
  | 1, hi => simp at hi; subst hi; exact h1
  | i + 2, hi => simp at hi
structure Dk.right (d : Dk) : Prop where
  s : ∀ j, j < d.sl → (d.S.getD j ByteArray.empty).size = 32
  w : ∀ j, j < d.tl → (0 ≤ (d.W.getD j (0, ByteArray.empty)).1 ∧ (d.W.getD j (0, ByteArray.empty)).1 < d.sl) ∧ (d.W.getD j (0, ByteArray.empty)).2.size = 32
def Dk.cs (d : Dk) : List Value := [.slice d.sa d.sl d.sc, .slice d.ta d.tl d.tc]
end Go.Proofs.Ytfhmdlihnidjoaa
