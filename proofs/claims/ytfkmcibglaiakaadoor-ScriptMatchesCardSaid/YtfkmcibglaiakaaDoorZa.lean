
/-
  A walk by computation: a load of a variable that is not the walk's own, whatever its type; variables that others made, as facts.
-/
import Derived.Test.YtfkmcibglaiakaaDoorRows
import Derived.Test.YtfkmcibglaiakaaDoorBase
import Derived.Test.YtfkmcibglaiakaaDoorZx
import Derived.Scope
import Derived.Control
namespace Go.Proofs.YtfkmcibglaiakaaDoor.SZ
open Go Go.RowKit
set_option linter.unusedVariables false
set_option linter.unusedSectionVars false
set_option linter.unusedSimpArgs false
set_option maxRecDepth 10000

/-- The block b is this variable. -/
def rfBox (b : Nat) (ty : TypeId) (cs : List Value) : RF := ⟨fun b' => b' = b, fun w => w.heap[b]? = some (.cells cs.toArray ty (0, 0)), fun w h b' hb => by subst hb; exact (Array.getElem?_eq_some_iff.1 h).1, fun w w' h hb => (hb b rfl).trans h⟩

section
variable [DF]
variable {P : Program} {w0 : World} {r : List Nat} {bs : List Nat} {s : SS} {F : List RF} {a : Act} {w : World}
/-- The load that comes next, of a variable that is not the walk's own. -/
def headO (P : Program) (c : Cfg) : Option (TypeId × Addr) :=
  match c with
  | ⟨.ops all (o :: l) :: k, s⟩ => match wantS s all o, o.op with
    | some true, .load ty x => match s.val x with
      | some (.v (.pointer (some ad))) => some (ty, ad)
      | _ => none
    | _, _ => none
  | _ => none
theorem sy_ldo {c : Cfg} {ty : TypeId} {ad : Addr} {v : Value} (S : Sy w0 r bs c.s F a w) (hl : (loadVar ty ad).run P w = .ok v w) (hh : headO P c = some (ty, ad)) {Q : Exit → Act → World → Prop}
    (h : ∀ a', Sy w0 r bs (aftC c (.v v)).s F a' w → post P (aftC c (.v v)).k Q .normal a' w) : post P c.k Q .normal a w := by
  obtain ⟨k, s⟩ := c
  match k with
  | .ops all (o :: l) :: k =>
    show wpList P all (post P k Q) (o :: l) a w
    refine wpList_step fun K hK => ?_
    unfold headO at hh
    simp only at hh
    cases hw : wantS s all o with
    | none => rw [hw] at hh; simp at hh
    | some b =>
      rw [hw] at hh
      cases b with
      | false => simp at hh
      | true =>
        cases ho : o.op <;> rw [ho] at hh <;> simp only [reduceCtorEq] at hh
        case load ty' x =>
          cases hx : s.val x with
          | none => rw [hx] at hh; simp at hh
          | some y =>
            rw [hx] at hh
            cases y with
            | v y =>
              cases y with
              | pointer pa =>
                cases pa with
                | none => simp at hh
                | some ad' =>
                  simp only [Option.some.injEq, Prod.mk.injEq] at hh
                  obtain ⟨h1, h2⟩ := hh
                  subst h1; subst h2
                  have h1 := (S.val hx).1
                  rw [wantS_sound S hw, if_pos rfl]
                  unfold Oper.wp execOp
                  simp only [ho, h1, den, Instr.loadAt, Instr.sureAddr, Sem.run_bind, Sem.run_pure, Result.andThen_ok, hl]
                  exact hK _ _ (h _ (S.put o.dst (x := .v v) trivial))
              | _ => simp at hh
            | _ => simp at hh
  | [] => simp [headO] at hh
  | .code _ :: _ => simp [headO] at hh
  | .blk _ :: _ => simp [headO] at hh
  | .rnd _ _ :: _ => simp [headO] at hh
  | .ops _ [] :: _ => simp [headO] at hh
theorem Sy.ldBox {b o : Nat} {ty ty' : TypeId} {cs : List Value} {v : Value} (S : Sy w0 r bs s F a w) (hf : rfBox b ty' cs ∈ F) (h : ldS P ty cs o = some v) : (loadVar ty ⟨b, o, none⟩).run P w = .ok v w :=
  ldS_run h (S.fact hf)
theorem noGoto_body {fn : Func} {R : Ending → World → Prop} : Exit.noGoto (bodyPost P fn R) = bodyPost P fn R := by
  funext e a w
  cases e <;> rfl
/-- A body that is one scope. -/
def scoC (c : Cfg) : Cfg := match c with
  | ⟨[.code (.scope x)], s⟩ => ⟨[.code x], s⟩
  | c => c
theorem sy_scope {c : Cfg} {fn : Func} {R : Ending → World → Prop} (S : Sy w0 r bs c.s F a w) (h : Sy w0 r bs (scoC c).s F a w → post P (scoC c).k (bodyPost P fn R) .normal a w) : post P c.k (bodyPost P fn R) .normal a w := by
  unfold scoC at h
  split at h
  · rename_i x s
    have h1 : x.wp P (bodyPost P fn R) a w := h S
    have h2 : (Code.scope x).wp P (bodyPost P fn R) a w := wp_scope_straight (by rw [noGoto_body]; exact h1)
    exact h2
  · exact h S
/-- A label is passed. -/
def labC (c : Cfg) : Cfg := match c with
  | ⟨.code (.label _) :: k, s⟩ => ⟨k, s⟩
  | c => c
theorem sy_label {c : Cfg} {Q : Exit → Act → World → Prop} (S : Sy w0 r bs c.s F a w) (h : Sy w0 r bs (labC c).s F a w → post P (labC c).k Q .normal a w) : post P c.k Q .normal a w := by
  unfold labC at h
  split at h
  · rename_i l k s
    have h1 : (Code.label l).wp P (post P k Q) a w := wp_label (h S)
    exact h1
  · exact h S
def aidxS (P : Program) (t : TypeId) (n : Nat) : Option Nat :=
  match P.underlying t with
  | some (.array len elem) => match Nat.blt n len, (P.info? elem).map (·.size) with
    | true, some size => some (n * size)
    | _, _ => none
  | _ => none
/-- The address of an array's element, of the walk's own array, at a known index. -/
def idxC (P : Program) (c : Cfg) : Option Cfg :=
  match c with
  | ⟨.ops all (o :: l) :: k, s⟩ => match wantS s all o, o.op with
    | some true, .indexAddr t x ix => match s.val x, s.val ix with
      | some (.p i off), some (.v (.int _ (.ofNat n))) => (aidxS P t n).map fun q => ⟨.ops all l :: k, s.put o.dst (.p i (off + q))⟩
      | _, _ => none
    | _, _ => none
  | _ => none
theorem addr_addS (b o k : Nat) : (⟨b, o, none⟩ : Addr).add k = ⟨b, o + k, none⟩ := by unfold Addr.add; split <;> simp_all
theorem idxC_sound {c c' : Cfg} (S : Sy w0 r bs c.s F a w) (hh : idxC P c = some c') {Q : Exit → Act → World → Prop}
    (h : ∀ a', Sy w0 r bs c'.s F a' w → post P c'.k Q .normal a' w) : post P c.k Q .normal a w := by
  obtain ⟨k, s⟩ := c
  match k with
  | .ops all (o :: l) :: k =>
    show wpList P all (post P k Q) (o :: l) a w
    refine wpList_step fun K hK => ?_
    unfold idxC at hh
    simp only at hh
    cases hw : wantS s all o with
    | none => rw [hw] at hh; simp at hh
    | some b =>
      rw [hw] at hh
      cases b with
      | false => simp at hh
      | true =>
        cases ho : o.op <;> rw [ho] at hh <;> simp only [reduceCtorEq] at hh
        case indexAddr t x ix =>
          cases hx : s.val x with
          | none => rw [hx] at hh; simp at hh
          | some y =>
            rw [hx] at hh
            cases y with
            | p i off =>
              cases hi : s.val ix with
              | none => rw [hi] at hh; simp at hh
              | some z =>
                rw [hi] at hh
                cases z with
                | v z =>
                  cases z with
                  | int kk m =>
                    cases m with
                    | ofNat n =>
                      simp only at hh
                      cases hq : aidxS P t n with
                      | none => rw [hq] at hh; cases hh
                      | some q =>
                        rw [hq] at hh
                        simp only [Option.map_some, Option.some.injEq] at hh
                        subst hh
                        obtain ⟨h1, h1'⟩ := S.val hx
                        have h2 := (S.val hi).1
                        rw [wantS_sound S hw, if_pos rfl]
                        unfold aidxS at hq
                        cases hu : P.underlying t with
                        | none => rw [hu] at hq; cases hq
                        | some d =>
                          rw [hu] at hq
                          cases d <;> (try (cases hq; done))
                          rename_i len elem
                          simp only at hq
                          cases hnl : Nat.blt n len with
                          | false => rw [hnl] at hq; cases hq
                          | true =>
                            cases hs : (P.info? elem).map (·.size) with
                            | none => rw [hnl, hs] at hq; cases hq
                            | some size =>
                              rw [hnl, hs] at hq
                              simp only [Option.some.injEq] at hq
                              subst hq
                              have hlt : n < len := by rw [Nat.blt, Nat.ble_eq] at hnl; exact hnl
                              unfold Oper.wp execOp
                              simp only [ho, h1, h2, den, adr, Instr.indexAt, Instr.sureAddr, asIntOf, Sem.run_bind, Sem.run_pure, Result.andThen_ok, run_underlying hu w]
                              rw [if_pos ⟨by simp, by simpa using hlt⟩]
                              simp only [Sem.run_bind, run_info hs, Result.andThen_ok, Sem.run_pure, addr_addS]
                              exact hK _ _ (h _ (S.put o.dst (x := .p i (off + n * size)) h1'))
                    | negSucc n => simp at hh
                  | _ => simp at hh
                | _ => simp at hh
            | _ => simp at hh
  | [] => simp [idxC] at hh
  | .code _ :: _ => simp [idxC] at hh
  | .blk _ :: _ => simp [idxC] at hh
  | .rnd _ _ :: _ => simp [idxC] at hh
  | .ops _ [] :: _ => simp [idxC] at hh
def idxD (P : Program) (c : Cfg) : Cfg := (idxC P c).getD c
theorem sy_idx {c : Cfg} (S : Sy w0 r bs c.s F a w) {Q : Exit → Act → World → Prop}
    (h : ∀ a', Sy w0 r bs (idxD P c).s F a' w → post P (idxD P c).k Q .normal a' w) : post P c.k Q .normal a w := by
  unfold idxD at h
  cases e : idxC P c with
  | none => rw [e] at h; exact h a S
  | some c' => rw [e] at h; exact idxC_sound S e h
end
end Go.Proofs.YtfkmcibglaiakaaDoor.SZ
