/-
  Merged: SyA, SyB, SyC, SyD, SyE, Za, Zb, Ze, Zt, Sa
-/
import Derived.Test.YtfahnmpcclhjlaaGreatRows
import Derived.Test.YtfahnmpcclhjlaaGreatPv3
import Derived.Test.YtfahnmpcclhjlaaGreatPv1
import Derived.Scope
import Derived.Control
import Derived.Test.YtfahnmpcclhjlaaGreatPv2
import Derived.Laws.AppendOwn
namespace Go.Proofs.YtfahnmpcclhjlaaGreat.SX
open Go Go.RowKit
set_option linter.unusedVariables false
set_option linter.unusedSectionVars false
set_option linter.unusedSimpArgs false
set_option maxRecDepth 10000
def rfBox (b : Nat) (ty : TypeId) (cs : List Value) : RF := ⟨fun b' => b' = b, fun w => w.heap[b]? = some (.cells cs.toArray ty (0, 0)), fun w h b' hb => by subst hb; exact (Array.getElem?_eq_some_iff.1 h).1, fun w w' h hb => (hb b rfl).trans h⟩
section
variable {P : Program} {w0 : World} {r : Option Nat} {bs : List Nat} {s : SS} {F : List RF} {a : Act} {w : World}
def headO (P : Program) (c : Cfg) : Option (TypeId × Addr) :=
  match c with
  | ⟨.ops all (o :: l) :: k, s⟩ => match wantS s all o, o.op with
    | some true, .load ty x => match s.val x with
      | some (.v (.pointer (some ad))) => some (ty, ad)
      | _ => none
    | _, _ => none
  | _ => none
theorem sy_ldo {c : Cfg} {ty : TypeId} {ad : Addr} {v : Value} (S : Sy w0 r bs c.s F a w) (hl : (loadVar ty ad).run P w = .ok v w) (hh : headO P c = some (ty, ad)) {Q : Exit → Act → World → Prop}
    (h : ∀ a', Sy w0 r bs (aftC c (.v v)).s F a' w → post P (aftC c (.v v)).k Q .normal a' w) : post P c.k Q .normal a w := by
  obtain ⟨k, s⟩ := c
  match k with
  | .ops all (o :: l) :: k =>
    show wpList P all (post P k Q) (o :: l) a w
    refine wpList_step fun K hK => ?_
    unfold headO at hh
    simp only at hh
    cases hw : wantS s all o with
    | none => rw [hw] at hh; simp at hh
    | some b =>
      rw [hw] at hh
      cases b with
      | false => simp at hh
      | true =>
        cases ho : o.op <;> rw [ho] at hh <;> simp only [reduceCtorEq] at hh
        case load ty' x =>
          cases hx : s.val x with
          | none => rw [hx] at hh; simp at hh
          | some y =>
            rw [hx] at hh
            cases y with
            | v y =>
              cases y with
              | pointer pa =>
                cases pa with
                | none => simp at hh
                | some ad' =>
                  simp only [Option.some.injEq, Prod.mk.injEq] at hh
                  obtain ⟨h1, h2⟩ := hh
                  subst h1; subst h2
                  have h1 := (S.val hx).1
                  rw [wantS_sound S hw, if_pos rfl]
                  unfold Oper.wp execOp
                  simp only [ho, h1, den, Instr.loadAt, Instr.sureAddr, Sem.run_bind, Sem.run_pure, Result.andThen_ok, hl]
                  exact hK _ _ (h _ (S.put o.dst (x := .v v) trivial))
              | _ => simp at hh
            | _ => simp at hh
  | [] => simp [headO] at hh
  | .code _ :: _ => simp [headO] at hh
  | .blk _ :: _ => simp [headO] at hh
  | .rnd _ _ :: _ => simp [headO] at hh
  | .ops _ [] :: _ => simp [headO] at hh
theorem Sy.ldBox {b o : Nat} {ty ty' : TypeId} {cs : List Value} {v : Value} (S : Sy w0 r bs s F a w) (hf : rfBox b ty' cs ∈ F) (h : ldS P ty cs o = some v) : (loadVar ty ⟨b, o, none⟩).run P w = .ok v w :=
  ldS_run h (S.fact hf)
theorem addr_addS (b o k : Nat) : (⟨b, o, none⟩ : Addr).add k = ⟨b, o + k, none⟩ := by unfold Addr.add; split <;> simp_all
end
end Go.Proofs.YtfahnmpcclhjlaaGreat.SX

namespace Go.Proofs.YtfahnmpcclhjlaaGreat.SX
open Go Go.RowKit
set_option linter.unusedVariables false
set_option linter.unusedSectionVars false
set_option linter.unusedSimpArgs false
set_option maxRecDepth 10000
section
variable {P : Program} {w0 : World} {r : Option Nat} {bs : List Nat} {s : SS} {F : List RF} {a : Act} {w : World}
def headIx (P : Program) (c : Cfg) : Option (Option Addr × Nat × Int × Nat) :=
  match c with
  | ⟨.ops all (o :: l) :: k, s⟩ => match wantS s all o, o.op with
    | some true, .indexAddr t x ix => match s.val x, s.val ix, P.underlying t with
      | some (.v (.slice ad len _)), some (.v (.int _ i)), some (.slice elem) => ((P.info? elem).map (·.size)).map fun size => (ad, len, i, size)
      | _, _, _ => none
    | _, _ => none
  | _ => none
theorem sy_ix {c : Cfg} {b off len n size : Nat} {i : Int} (S : Sy w0 r bs c.s F a w) (hh : headIx P c = some (some ⟨b, off, none⟩, len, i, size)) (hi : i = (n : Int)) (hn : n < len) {Q : Exit → Act → World → Prop}
    (h : ∀ a', Sy w0 r bs (aftC c (.v (.pointer (some ⟨b, off + n * size, none⟩)))).s F a' w → post P (aftC c (.v (.pointer (some ⟨b, off + n * size, none⟩)))).k Q .normal a' w) : post P c.k Q .normal a w := by
  subst hi
  obtain ⟨k, s⟩ := c
  match k with
  | .ops all (o :: l) :: k =>
    show wpList P all (post P k Q) (o :: l) a w
    refine wpList_step fun K hK => ?_
    unfold headIx at hh
    simp only at hh
    cases hw : wantS s all o with
    | none => rw [hw] at hh; simp at hh
    | some b' =>
      rw [hw] at hh
      cases b' with
      | false => simp at hh
      | true =>
        cases ho : o.op <;> rw [ho] at hh <;> simp only [reduceCtorEq] at hh
        case indexAddr t x ix =>
          cases hx : s.val x with
          | none => rw [hx] at hh; simp at hh
          | some y =>
            rw [hx] at hh
            cases y with
            | v y =>
              cases y with
              | slice ad len' cap =>
                cases hi : s.val ix with
                | none => rw [hi] at hh; simp at hh
                | some z =>
                  rw [hi] at hh
                  cases z with
                  | v z =>
                    cases z with
                    | int kk m =>
                      cases hu : P.underlying t with
                      | none => rw [hu] at hh; simp at hh
                      | some d =>
                        rw [hu] at hh
                        cases d <;> simp only [reduceCtorEq] at hh
                        rename_i elem
                        cases hs : (P.info? elem).map (·.size) with
                        | none => rw [hs] at hh; simp at hh
                        | some sz =>
                          rw [hs] at hh
                          simp only [Option.map_some, Option.some.injEq, Prod.mk.injEq] at hh
                          obtain ⟨h1, h2, h3, h4⟩ := hh
                          subst h1; subst h2; subst h3; subst h4
                          have g1 := (S.val hx).1
                          have g2 := (S.val hi).1
                          rw [wantS_sound S hw, if_pos rfl]
                          unfold Oper.wp execOp
                          simp only [ho, g1, g2, den, Instr.indexAt, asIntOf, Sem.run_bind, Sem.run_pure, Result.andThen_ok, run_underlying hu w]
                          rw [if_pos ⟨by simp, by simpa using hn⟩]
                          simp only [Sem.run_bind, run_info hs, Result.andThen_ok, Sem.run_pure, addr_addS, Int.toNat_natCast]
                          exact hK _ _ (h _ (S.put o.dst (x := .v _) trivial))
                    | _ => simp at hh
                  | _ => simp at hh
              | _ => simp at hh
            | _ => simp at hh
  | [] => simp [headIx] at hh
  | .code _ :: _ => simp [headIx] at hh
  | .blk _ :: _ => simp [headIx] at hh
  | .rnd _ _ :: _ => simp [headIx] at hh
  | .ops _ [] :: _ => simp [headIx] at hh
end
end Go.Proofs.YtfahnmpcclhjlaaGreat.SX

namespace Go.Proofs.YtfahnmpcclhjlaaGreat.SX
open Go Go.RowKit
set_option linter.unusedVariables false
set_option linter.unusedSectionVars false
set_option linter.unusedSimpArgs false
set_option maxRecDepth 10000
def slA (m l size : Nat) (a : Option Addr) : Option Addr := if m = l then a else a.map (·.add (l * size))
section
variable {P : Program} {w0 : World} {r : Option Nat} {bs : List Nat} {s : SS} {F : List RF} {a : Act} {w : World}
def headSh (P : Program) (c : Cfg) : Option (Option Addr × Nat × Nat × Int × Nat) :=
  match c with
  | ⟨.ops all (o :: l) :: k, s⟩ => match wantS s all o, o.op with
    | some true, .slice t x none (some h) none => match s.val x, s.val h, P.underlying t with
      | some (.v (.slice ad len cap)), some (.v (.int _ i)), some (.slice elem) => ((P.info? elem).map (·.size)).map fun size => (ad, len, cap, i, size)
      | _, _, _ => none
    | _, _ => none
  | _ => none
def headSl (P : Program) (c : Cfg) : Option (Option Addr × Nat × Nat × Int × Nat) :=
  match c with
  | ⟨.ops all (o :: l) :: k, s⟩ => match wantS s all o, o.op with
    | some true, .slice t x (some h) none none => match s.val x, s.val h, P.underlying t with
      | some (.v (.slice ad len cap)), some (.v (.int _ i)), some (.slice elem) => ((P.info? elem).map (·.size)).map fun size => (ad, len, cap, i, size)
      | _, _, _ => none
    | _, _ => none
  | _ => none
theorem sy_slh {c : Cfg} {ad : Option Addr} {len cap n size : Nat} {i : Int} (S : Sy w0 r bs c.s F a w) (hh : headSh P c = some (ad, len, cap, i, size)) (hi : i = (n : Int)) (hn : n ≤ cap) {Q : Exit → Act → World → Prop}
    (h : ∀ a', Sy w0 r bs (aftC c (.v (.slice (slA cap 0 size ad) n cap))).s F a' w → post P (aftC c (.v (.slice (slA cap 0 size ad) n cap))).k Q .normal a' w) : post P c.k Q .normal a w := by
  subst hi
  obtain ⟨k, s⟩ := c
  match k with
  | .ops all (o :: l) :: k =>
    show wpList P all (post P k Q) (o :: l) a w
    refine wpList_step fun K hK => ?_
    unfold headSh at hh
    simp only at hh
    cases hw : wantS s all o with
    | none => rw [hw] at hh; simp at hh
    | some b' =>
      rw [hw] at hh
      cases b' with
      | false => simp at hh
      | true =>
        cases ho : o.op <;> rw [ho] at hh <;> (try simp only [reduceCtorEq] at hh)
        case slice t x lo hi mx =>
          cases lo <;> cases hi <;> cases mx <;> (try simp only [reduceCtorEq] at hh)
          rename_i hx0
          cases hx : s.val x with
          | none => rw [hx] at hh; simp at hh
          | some y =>
            rw [hx] at hh
            cases y with
            | v y =>
              cases y with
              | slice ad' len' cap' =>
                cases hi : s.val hx0 with
                | none => rw [hi] at hh; simp at hh
                | some z =>
                  rw [hi] at hh
                  cases z with
                  | v z =>
                    cases z with
                    | int kk m =>
                      cases hu : P.underlying t with
                      | none => rw [hu] at hh; simp at hh
                      | some d =>
                        rw [hu] at hh
                        cases d <;> simp only [reduceCtorEq] at hh
                        rename_i elem
                        cases hs : (P.info? elem).map (·.size) with
                        | none => rw [hs] at hh; simp at hh
                        | some sz =>
                          rw [hs] at hh
                          simp only [Option.map_some, Option.some.injEq, Prod.mk.injEq] at hh
                          obtain ⟨h1, h2, h3, h4, h5⟩ := hh
                          subst h1; subst h2; subst h3; subst h4; subst h5
                          have g1 := (S.val hx).1
                          have g2 := (S.val hi).1
                          rw [wantS_sound S hw, if_pos rfl]
                          unfold Oper.wp execOp
                          have hb : (Instr.sliceBound (.int kk (n : Int)) cap' .sliceAcap).run P w = .ok n w := by
                            unfold Instr.sliceBound
                            simp only [asIntOf, Sem.run_bind, Sem.run_pure, Result.andThen_ok]
                            rw [if_pos ⟨by omega, by omega⟩]
                            simp
                          simp only [ho, g1, g2, den, Instr.sliceAt, Instr.slice, Instr.sliceBounds, Option.map_none, Option.map_some, Sem.run_bind, Sem.run_pure, Result.andThen_ok, run_underlying hu w, if_true, hb, run_info hs]
                          exact hK _ _ (h _ (S.put o.dst (x := .v _) trivial))
                    | _ => simp at hh
                  | _ => simp at hh
              | _ => simp at hh
            | _ => simp at hh
  | [] => simp [headSh] at hh
  | .code _ :: _ => simp [headSh] at hh
  | .blk _ :: _ => simp [headSh] at hh
  | .rnd _ _ :: _ => simp [headSh] at hh
  | .ops _ [] :: _ => simp [headSh] at hh
theorem sy_sll {c : Cfg} {ad : Option Addr} {len cap n size : Nat} {i : Int} (S : Sy w0 r bs c.s F a w) (hh : headSl P c = some (ad, len, cap, i, size)) (hi : i = (n : Int)) (hn : n ≤ len) {Q : Exit → Act → World → Prop}
    (h : ∀ a', Sy w0 r bs (aftC c (.v (.slice (slA cap n size ad) (len - n) (cap - n)))).s F a' w → post P (aftC c (.v (.slice (slA cap n size ad) (len - n) (cap - n)))).k Q .normal a' w) : post P c.k Q .normal a w := by
  subst hi
  obtain ⟨k, s⟩ := c
  match k with
  | .ops all (o :: l) :: k =>
    show wpList P all (post P k Q) (o :: l) a w
    refine wpList_step fun K hK => ?_
    unfold headSl at hh
    simp only at hh
    cases hw : wantS s all o with
    | none => rw [hw] at hh; simp at hh
    | some b' =>
      rw [hw] at hh
      cases b' with
      | false => simp at hh
      | true =>
        cases ho : o.op <;> rw [ho] at hh <;> (try simp only [reduceCtorEq] at hh)
        case slice t x lo hi mx =>
          cases lo <;> cases hi <;> cases mx <;> (try simp only [reduceCtorEq] at hh)
          rename_i hx0
          cases hx : s.val x with
          | none => rw [hx] at hh; simp at hh
          | some y =>
            rw [hx] at hh
            cases y with
            | v y =>
              cases y with
              | slice ad' len' cap' =>
                cases hi : s.val hx0 with
                | none => rw [hi] at hh; simp at hh
                | some z =>
                  rw [hi] at hh
                  cases z with
                  | v z =>
                    cases z with
                    | int kk m =>
                      cases hu : P.underlying t with
                      | none => rw [hu] at hh; simp at hh
                      | some d =>
                        rw [hu] at hh
                        cases d <;> simp only [reduceCtorEq] at hh
                        rename_i elem
                        cases hs : (P.info? elem).map (·.size) with
                        | none => rw [hs] at hh; simp at hh
                        | some sz =>
                          rw [hs] at hh
                          simp only [Option.map_some, Option.some.injEq, Prod.mk.injEq] at hh
                          obtain ⟨h1, h2, h3, h4, h5⟩ := hh
                          subst h1; subst h2; subst h3; subst h4; subst h5
                          have g1 := (S.val hx).1
                          have g2 := (S.val hi).1
                          rw [wantS_sound S hw, if_pos rfl]
                          unfold Oper.wp execOp
                          have hb : (Instr.sliceBound (.int kk (n : Int)) len' .sliceB).run P w = .ok n w := by
                            unfold Instr.sliceBound
                            simp only [asIntOf, Sem.run_bind, Sem.run_pure, Result.andThen_ok]
                            rw [if_pos ⟨by omega, by omega⟩]
                            simp
                          simp only [ho, g1, g2, den, Instr.sliceAt, Instr.slice, Instr.sliceBounds, Option.map_none, Option.map_some, Sem.run_bind, Sem.run_pure, Result.andThen_ok, run_underlying hu w, if_true, Option.isSome_none, Bool.false_eq_true, if_false, hb, run_info hs]
                          exact hK _ _ (h _ (S.put o.dst (x := .v _) trivial))
                    | _ => simp at hh
                  | _ => simp at hh
              | _ => simp at hh
            | _ => simp at hh
  | [] => simp [headSl] at hh
  | .code _ :: _ => simp [headSl] at hh
  | .blk _ :: _ => simp [headSl] at hh
  | .rnd _ _ :: _ => simp [headSl] at hh
  | .ops _ [] :: _ => simp [headSl] at hh
def headS (c : Cfg) : Option (TypeId × Addr × Value) :=
  match c with
  | ⟨.ops all (o :: l) :: k, s⟩ => match wantS s all o, o.op with
    | some true, .store ty x y => match s.val x, s.val y with
      | some (.v (.pointer (some ad))), some (.v v) => some (ty, ad, v)
      | _, _ => none
    | _, _ => none
  | _ => none
theorem sy_stf {c : Cfg} {g o : Nat} {ty : TypeId} {v : Value} (S : Sy w0 (some g) bs c.s F a w) (hh : headS c = some (ty, ⟨g, o, none⟩, v)) (h1 : (P.info? ty).map (·.size) = some 1) (hv : v.cells = #[v]) (ho1 : v.oneCell' = true)
    (hc : (w.cell? ⟨g, o, none⟩).isSome = true) (hf : w.frozen? ⟨g, o, none⟩ = false) (hn : ∀ i, i < bs.length → bs.getD i 0 ≠ g) (F' : List RF) (hF : ∀ f ∈ F', f ∈ F ∧ ¬f.bl g) {Q : Exit → Act → World → Prop}
    (h : ∀ a', Sy w0 (some g) bs (aftC c (.v undef)).s F' a' (w.setCell ⟨g, o, none⟩ v) → post P (aftC c (.v undef)).k Q .normal a' (w.setCell ⟨g, o, none⟩ v)) : post P c.k Q .normal a w := by
  obtain ⟨k, s⟩ := c
  match k with
  | .ops all (op :: l) :: k =>
    show wpList P all (post P k Q) (op :: l) a w
    refine wpList_step fun K hK => ?_
    unfold headS at hh
    simp only at hh
    cases hw : wantS s all op with
    | none => rw [hw] at hh; simp at hh
    | some b' =>
      rw [hw] at hh
      cases b' with
      | false => simp at hh
      | true =>
        cases ho : op.op <;> rw [ho] at hh <;> simp only [reduceCtorEq] at hh
        case store ty' x y =>
          cases hx : s.val x with
          | none => rw [hx] at hh; simp at hh
          | some z =>
            rw [hx] at hh
            cases z with
            | v z =>
              cases z with
              | pointer pa =>
                cases pa with
                | none => simp at hh
                | some ad =>
                  cases hy : s.val y with
                  | none => rw [hy] at hh; simp at hh
                  | some u =>
                    rw [hy] at hh
                    cases u with
                    | v u =>
                      simp only [Option.some.injEq, Prod.mk.injEq] at hh
                      obtain ⟨e1, e2, e3⟩ := hh
                      subst e1; subst e2; subst e3
                      have g1 := (S.val hx).1
                      have g2 := (S.val hy).1
                      have hr : (storeVar ty' ⟨g, o, none⟩ u).run P w = .ok () (w.setCell ⟨g, o, none⟩ u) := by
                        have hs := run_storeCells_cells (P := P) g o [u] 0 w (fun j hj => by
                          have : j = 0 := by simp at hj; omega
                          subst this
                          simpa using hc) (fun j hj => by
                          have : j = 0 := by simp at hj; omega
                          subst this
                          simpa using hf) (fun x hx => by simp at hx; subst hx; exact ho1)
                        simp only [Nat.add_zero] at hs
                        simp only [storeVar, Sem.run_bind, run_info h1, Result.andThen_ok, hv, ne_eq, not_true_eq_false, if_false, Sem.run_pure, List.size_toArray, List.length_singleton]
                        simpa [World.setCells] using hs
                      rw [wantS_sound S hw, if_pos rfl]
                      unfold Oper.wp execOp
                      simp only [ho, g1, g2, den, Instr.storeAt, Instr.sureAddr, Sem.run_bind, Sem.run_pure, Result.andThen_ok, hr]
                      have hb : ∀ k, k ≠ g → (w.setCell ⟨g, o, none⟩ u).heap[k]? = w.heap[k]? := fun k hk => Below.heap_setCell _ _ _ _ hk
                      have S2 : Sy w0 (some g) bs s F' a (w.setCell ⟨g, o, none⟩ u) := by
                        refine ⟨S.df, S.sz, S.tm, S.bl, fun i k hi => ?_, S.nd, S.lo, fun f hf' => ?_, ?_⟩
                        · have hil : i < bs.length := by rw [S.bl]; exact (List.getElem?_eq_some_iff.1 hi).1
                          rw [hb _ (hn i hil)]; exact S.bx i k hi
                        · obtain ⟨q1, q2⟩ := hF f hf'
                          obtain ⟨q3, q4⟩ := S.fs f q1
                          exact ⟨f.st w _ q3 fun b hbl => hb b fun e => q2 (e ▸ hbl), q4⟩
                        · have gr := S.gr
                          exact ⟨gr.os, gr.tape, gr.output, by simpa [World.setCell] using gr.size, fun k hk hne => (hb k fun e => hne (by rw [e])).trans (gr.block k hk hne)⟩
                      exact hK _ _ (h _ (S2.put op.dst (x := .v undef) trivial))
                    | _ => simp at hh
              | _ => simp at hh
            | _ => simp at hh
  | [] => simp [headS] at hh
  | .code _ :: _ => simp [headS] at hh
  | .blk _ :: _ => simp [headS] at hh
  | .rnd _ _ :: _ => simp [headS] at hh
  | .ops _ [] :: _ => simp [headS] at hh
end
end Go.Proofs.YtfahnmpcclhjlaaGreat.SX

namespace Go.Proofs.YtfahnmpcclhjlaaGreat.SX
open Go Go.RowKit
set_option linter.unusedVariables false
set_option linter.unusedSectionVars false
set_option linter.unusedSimpArgs false
set_option maxRecDepth 10000
section
variable {P : Program} {w0 : World} {r : Option Nat} {bs : List Nat} {s : SS} {F : List RF} {a : Act} {w : World}
theorem ix_run {ops : Array Oper} {o : Oper} {b off len n size : Nat} {i : Int} (S : Sy w0 r bs s F a w) (hh : headIx P ⟨[.ops ops [o]], s⟩ = some (some ⟨b, off, none⟩, len, i, size)) (hi : i = (n : Int)) (hn : n < len) :
    wantS s ops o = some true ∧ (execOp a.eval o).run P w = .ok (.value (.pointer (some ⟨b, off + n * size, none⟩))) w := by
  subst hi
  unfold headIx at hh
  simp only at hh
  cases hw : wantS s ops o with
  | none => rw [hw] at hh; simp at hh
  | some b' =>
    rw [hw] at hh
    cases b' with
    | false => simp at hh
    | true =>
      cases ho : o.op <;> rw [ho] at hh <;> simp only [reduceCtorEq] at hh
      case indexAddr t x ix =>
        cases hx : s.val x with
        | none => rw [hx] at hh; simp at hh
        | some y =>
          rw [hx] at hh
          cases y with
          | v y =>
            cases y with
            | slice ad len' cap =>
              cases hi : s.val ix with
              | none => rw [hi] at hh; simp at hh
              | some z =>
                rw [hi] at hh
                cases z with
                | v z =>
                  cases z with
                  | int kk m =>
                    cases hu : P.underlying t with
                    | none => rw [hu] at hh; simp at hh
                    | some d =>
                      rw [hu] at hh
                      cases d <;> simp only [reduceCtorEq] at hh
                      rename_i elem
                      cases hs : (P.info? elem).map (·.size) with
                      | none => rw [hs] at hh; simp at hh
                      | some sz =>
                        rw [hs] at hh
                        simp only [Option.map_some, Option.some.injEq, Prod.mk.injEq] at hh
                        obtain ⟨h1, h2, h3, h4⟩ := hh
                        subst h1; subst h2; subst h3; subst h4
                        have g1 := (S.val hx).1
                        have g2 := (S.val hi).1
                        refine ⟨rfl, ?_⟩
                        unfold execOp
                        simp only [ho, g1, g2, den, Instr.indexAt, asIntOf, Sem.run_bind, Sem.run_pure, Result.andThen_ok, run_underlying hu w]
                        rw [if_pos ⟨by simp, by simpa using hn⟩]
                        simp only [Sem.run_bind, run_info hs, Result.andThen_ok, Sem.run_pure, addr_addS, Int.toNat_natCast]
                  | _ => simp at hh
                | _ => simp at hh
            | _ => simp at hh
          | _ => simp at hh
theorem ldo_run {ops : Array Oper} {o : Oper} {ty : TypeId} {ad : Addr} {v : Value} (S : Sy w0 r bs s F a w) (hl : (loadVar ty ad).run P w = .ok v w) (hh : headO P ⟨[.ops ops [o]], s⟩ = some (ty, ad)) :
    wantS s ops o = some true ∧ (execOp a.eval o).run P w = .ok (.value v) w := by
  unfold headO at hh
  simp only at hh
  cases hw : wantS s ops o with
  | none => rw [hw] at hh; simp at hh
  | some b =>
    rw [hw] at hh
    cases b with
    | false => simp at hh
    | true =>
      cases ho : o.op <;> rw [ho] at hh <;> simp only [reduceCtorEq] at hh
      case load ty' x =>
        cases hx : s.val x with
        | none => rw [hx] at hh; simp at hh
        | some y =>
          rw [hx] at hh
          cases y with
          | v y =>
            cases y with
            | pointer pa =>
              cases pa with
              | none => simp at hh
              | some ad' =>
                simp only [Option.some.injEq, Prod.mk.injEq] at hh
                obtain ⟨h1, h2⟩ := hh
                subst h1; subst h2
                have h1 := (S.val hx).1
                refine ⟨rfl, ?_⟩
                unfold execOp
                simp only [ho, h1, den, Instr.loadAt, Instr.sureAddr, Sem.run_bind, Sem.run_pure, Result.andThen_ok, hl]
            | _ => simp at hh
          | _ => simp at hh
variable {k : List It} {fn : Func} {R : Ending → World → Prop} {B : List Nat} {K0 : List Bx} {ro : List Nat} {ops : Array Oper}
theorem nxt_val {m : Nat} {listed : Array Bool} {i : Nat} (D : Sd w0 r B K0 ro bs s F a w) {o : Oper} (ho : ops[i]? = some o) {x : SV} (hx : x.ok bs.length) (hr : wantS s ops o = some true ∧ (execOp a.eval o).run P w = .ok (.value (den bs x)) w)
    (h : ∀ a', Sd w0 r B K0 ro bs (s.put ((ops[i]?).bind (·.dst)) x) F a' w → wpAnyH P .any ops (PQ P k fn R) (HoldS B K0 ro) m (listed.setIfInBounds i true) a' w) : Nxt P ops (PQ P k fn R) (HoldS B K0 ro) m listed a w i := by
  unfold Nxt wpOp
  rw [ho] at h ⊢
  simp only [Option.bind_some] at h ⊢
  rw [if_pos (wantS_sound D.S hr.1)]
  refine Or.inl ?_
  unfold Oper.wp
  rw [hr.2, Oper.upon_value]
  have D' := D.put o.dst hx
  exact ⟨D'.hold, h _ D'⟩
theorem nxt_callG {g : Nat} {m : Nat} {listed : Array Bool} {i : Nat} (D : Sd w0 r B K0 ro bs s F a w) (h0 : r = some g ∨ w0.heap.size ≤ g) {v : Value} {C : World → Prop} {f : FuncId} {args : Array Value}
    (hC : Calls P f args w fun e w' => e = .returned v ∧ C w' ∧ w.grownBy w' (some g))
    (hh : ((ops[i]?).bind fun o => headC P ⟨[.ops ops [o]], s⟩).map (fun q => (q.1, q.2.map (den bs))) = some (f, args.toList)) {F' : List RF} (hF : ∀ f ∈ F', f ∈ F ∧ ¬f.bl g) (hn : ∀ i, i < bs.length → bs.getD i 0 ≠ g)
    (h : ∀ a' w', C w' → Sd w0 r B K0 ro bs (s.put ((ops[i]?).bind (·.dst)) (.v v)) F' a' w' → wpAnyH P .any ops (PQ P k fn R) (HoldS B K0 ro) m (listed.setIfInBounds i true) a' w') :
    Nxt P ops (PQ P k fn R) (HoldS B K0 ro) m listed a w i := by
  unfold Nxt
  cases ho : ops[i]? with
  | none => rw [ho] at hh; simp at hh
  | some o =>
    rw [ho] at hh h; simp only [Option.bind_some] at hh h
    obtain ⟨h1, h2⟩ := call_op D.S hh
    unfold wpOp
    rw [ho]
    simp only
    rw [if_pos h1]
    refine Or.inl ?_
    unfold Oper.wp
    rw [h2, Oper.upon_enter]
    refine Calls.mono hC ?_
    rintro e w' ⟨rfl, hx, hb⟩
    have D1 : Sd w0 r B K0 ro bs s F' a w' := ⟨D.S.grown hb h0 hF hn, D.pre, D.bl, D.hro⟩
    have D' := D1.put o.dst (x := .v v) trivial
    exact ⟨D'.hold, h _ w' hx D'⟩
theorem nxt_panic {m : Nat} {listed : Array Bool} {i : Nat} (D : Sd w0 r B K0 ro bs s F a w) {ch : List PanicEntry} {f : FuncId} {args : Array Value}
    (hC : Calls P f args w fun e w' => e = .panicked ch ∧ w.grownBy w' r)
    (hh : ((ops[i]?).bind fun o => headC P ⟨[.ops ops [o]], s⟩).map (fun q => (q.1, q.2.map (den bs))) = some (f, args.toList))
    (h : ∀ w', w0.grownBy w' r → R (.panicked ch) w') : Nxt P ops (PQ P k fn R) (HoldS B K0 ro) m listed a w i := by
  unfold Nxt
  cases ho : ops[i]? with
  | none => rw [ho] at hh; simp at hh
  | some o =>
    rw [ho] at hh; simp only [Option.bind_some] at hh
    obtain ⟨h1, h2⟩ := call_op D.S hh
    unfold wpOp
    rw [ho]
    simp only
    rw [if_pos h1]
    refine Or.inl ?_
    unfold Oper.wp
    rw [h2, Oper.upon_enter]
    refine Calls.mono hC ?_
    rintro e w' ⟨rfl, hb⟩
    show post P k _ (.panic ch) a w'
    rw [post_panic]
    have G := D.S.gr
    exact ⟨D.S.df, h w' ⟨hb.os.trans G.os, hb.tape.trans G.tape, hb.output.trans G.output, Nat.le_trans G.size hb.size, fun k hk hne => (hb.block k (Nat.lt_of_lt_of_le hk G.size) hne).trans (G.block k hk hne)⟩⟩
end
section
variable {P : Program} {w0 : World} {r : Option Nat} {bs : List Nat} {F : List RF} {a : Act} {w : World}
variable {c : Cfg} {fn : Func} {R : Ending → World → Prop} {B : List Nat} {ro : List Nat} {d : DC}
section
variable (i : Nat) (D : Sd w0 r B c.s.K ro bs d.s F a w) (hs : Region.noSelect (opsD c) = true) (hn : (d.m != 0) = true) (hr : Region.ready .any (opsD c) d.lst = [i])
include i D hs hn hr
theorem dr_ix {b off len n size : Nat} {ix : Int} (hh : (((opsD c)[i]?).bind fun o => headIx P ⟨[.ops (opsD c) [o]], d.s⟩) = some (some ⟨b, off, none⟩, len, ix, size)) (hi : ix = (n : Int)) (hlt : n < len) (h : ∀ a', Sd w0 r B c.s.K ro bs (dV P c ro d i (.v (.pointer (some ⟨b, off + n * size, none⟩)))).s F a' w → GD P c fn R B ro (dV P c ro d i (.v (.pointer (some ⟨b, off + n * size, none⟩)))) a' w) : GD P c fn R B ro d a w := by
  have hn' : d.m = (d.m - 1) + 1 := by simp at hn; omega
  obtain ⟨o, ho, hh⟩ : ∃ o, (opsD c)[i]? = some o ∧ headIx P ⟨[.ops (opsD c) [o]], d.s⟩ = some (some ⟨b, off, none⟩, len, ix, size) := by
    cases ho : (opsD c)[i]? with
    | none => rw [ho] at hh; cases hh
    | some o => rw [ho] at hh; exact ⟨o, rfl, hh⟩
  exact any_ready [i] (d.m - 1) hn' hr (by simp) ⟨nxt_val D ho (x := .v (.pointer (some ⟨b, off + n * size, none⟩))) trivial (ix_run D.S hh hi hlt) fun a' D' => drq_sound (d := ⟨d.m - 1, d.lst.setIfInBounds i true, d.s.put (((opsD c)[i]?).bind (·.dst)) (.v (.pointer (some ⟨b, off + n * size, none⟩)))⟩) hs D' fun a'' D'' => h a'' D'', trivial⟩
theorem dr_ldo {ty : TypeId} {ad : Addr} {v : Value} (hl : (loadVar ty ad).run P w = .ok v w) (hh : (((opsD c)[i]?).bind fun o => headO P ⟨[.ops (opsD c) [o]], d.s⟩) = some (ty, ad)) (h : ∀ a', Sd w0 r B c.s.K ro bs (dV P c ro d i (.v v)).s F a' w → GD P c fn R B ro (dV P c ro d i (.v v)) a' w) : GD P c fn R B ro d a w := by
  have hn' : d.m = (d.m - 1) + 1 := by simp at hn; omega
  obtain ⟨o, ho, hh⟩ : ∃ o, (opsD c)[i]? = some o ∧ headO P ⟨[.ops (opsD c) [o]], d.s⟩ = some (ty, ad) := by
    cases ho : (opsD c)[i]? with
    | none => rw [ho] at hh; cases hh
    | some o => rw [ho] at hh; exact ⟨o, rfl, hh⟩
  exact any_ready [i] (d.m - 1) hn' hr (by simp) ⟨nxt_val D ho (x := .v v) trivial (ldo_run D.S hl hh) fun a' D' => drq_sound (d := ⟨d.m - 1, d.lst.setIfInBounds i true, d.s.put (((opsD c)[i]?).bind (·.dst)) (.v v)⟩) hs D' fun a'' D'' => h a'' D'', trivial⟩
end
theorem dr_callG {g : Nat} (i : Nat) (D : Sd w0 r B c.s.K ro bs d.s F a w) (h0 : r = some g ∨ w0.heap.size ≤ g) (hs : Region.noSelect (opsD c) = true) (hn : (d.m != 0) = true) (hr : Region.ready .any (opsD c) d.lst = [i]) {v : Value} {C : World → Prop} {f : FuncId} {args : Array Value}
    (hC : Calls P f args w fun e w' => e = .returned v ∧ C w' ∧ w.grownBy w' (some g))
    (hh : (((opsD c)[i]?).bind fun o => headC P ⟨[.ops (opsD c) [o]], d.s⟩).map (fun q => (q.1, q.2.map (den bs))) = some (f, args.toList)) {F' : List RF} (hF : ∀ f ∈ F', f ∈ F ∧ ¬f.bl g) (hnb : ∀ i, i < bs.length → bs.getD i 0 ≠ g)
    (h : ∀ a' w', C w' → Sd w0 r B c.s.K ro bs (dV P c ro d i (.v v)).s F' a' w' → GD P c fn R B ro (dV P c ro d i (.v v)) a' w') : GD P c fn R B ro d a w := by
  have hn' : d.m = (d.m - 1) + 1 := by simp at hn; omega
  exact any_ready [i] (d.m - 1) hn' hr (by simp) ⟨nxt_callG D h0 hC hh hF hnb fun a' w' hx D' => drq_sound (d := ⟨d.m - 1, d.lst.setIfInBounds i true, d.s.put (((opsD c)[i]?).bind (·.dst)) (.v v)⟩) hs D' fun a'' D'' => h a'' w' hx D'', trivial⟩
end
end Go.Proofs.YtfahnmpcclhjlaaGreat.SX

namespace Go.Proofs.YtfahnmpcclhjlaaGreat.SX
open Go Go.RowKit
set_option linter.unusedVariables false
set_option linter.unusedSectionVars false
set_option linter.unusedSimpArgs false
set_option maxRecDepth 10000
section
variable {P : Program} {w0 : World} {r : Option Nat} {bs : List Nat} {s : SS} {F : List RF} {a : Act} {w : World}
def headT (c : Cfg) : Option (TypeId × Value) :=
  match c with
  | ⟨.ops all (o :: l) :: k, s⟩ => match wantS s all o, o.op with
    | some true, .panic x => match s.val x with
      | some (.v (.iface t v)) => some (t, v)
      | _ => none
    | _, _ => none
  | _ => none
theorem sy_thr {c : Cfg} {t : TypeId} {v : Value} {fn : Func} {R : Ending → World → Prop} (S : Sy w0 r bs c.s F a w) (hh : headT c = some (t, v))
    (h : R (.panicked [{ v := .iface t v, recovered := false }]) w) : post P c.k (bodyPost P fn R) .normal a w := by
  obtain ⟨k, s⟩ := c
  match k with
  | .ops all (o :: l) :: k =>
    show wpList P all (post P k _) (o :: l) a w
    refine wpList_step fun K hK => ?_
    unfold headT at hh
    simp only at hh
    cases hw : wantS s all o with
    | none => rw [hw] at hh; simp at hh
    | some b =>
      rw [hw] at hh
      cases b with
      | false => simp at hh
      | true =>
        cases ho : o.op <;> rw [ho] at hh <;> simp only [reduceCtorEq] at hh
        case panic x =>
          cases hx : s.val x with
          | none => rw [hx] at hh; simp at hh
          | some y =>
            rw [hx] at hh
            cases y with
            | v y =>
              cases y with
              | iface t' v' =>
                simp only [Option.some.injEq, Prod.mk.injEq] at hh
                obtain ⟨rfl, rfl⟩ := hh
                have h1 := (S.val hx).1
                rw [wantS_sound S hw, if_pos rfl]
                have hr : (execOp a.eval o).run P w = .halt (.panic (.iface t' v')) w := by
                  unfold execOp
                  simp only [ho, h1, den, Instr.panic]
                  rfl
                unfold Oper.wp
                rw [hr, Oper.upon_panic]
                show post P k _ (.panic _) a w
                rw [post_panic]
                exact ⟨S.df, h⟩
              | _ => simp at hh
            | _ => simp at hh
  | [] => simp [headT] at hh
  | .code _ :: _ => simp [headT] at hh
  | .blk _ :: _ => simp [headT] at hh
  | .rnd _ _ :: _ => simp [headT] at hh
  | .ops _ [] :: _ => simp [headT] at hh
end
end Go.Proofs.YtfahnmpcclhjlaaGreat.SX

namespace Go.Proofs.YtfahnmpcclhjlaaGreat.SZ
open Go Go.RowKit
set_option linter.unusedVariables false
set_option linter.unusedSectionVars false
set_option linter.unusedSimpArgs false
set_option maxRecDepth 10000
def rfBox (b : Nat) (ty : TypeId) (cs : List Value) : RF := ⟨fun b' => b' = b, fun w => w.heap[b]? = some (.cells cs.toArray ty (0, 0)), fun w h b' hb => by subst hb; exact (Array.getElem?_eq_some_iff.1 h).1, fun w w' h hb => (hb b rfl).trans h⟩
section
variable [DF]
variable {P : Program} {w0 : World} {r : List Nat} {bs : List Nat} {s : SS} {F : List RF} {a : Act} {w : World}
def headO (P : Program) (c : Cfg) : Option (TypeId × Addr) :=
  match c with
  | ⟨.ops all (o :: l) :: k, s⟩ => match wantS s all o, o.op with
    | some true, .load ty x => match s.val x with
      | some (.v (.pointer (some ad))) => some (ty, ad)
      | _ => none
    | _, _ => none
  | _ => none
theorem sy_ldo {c : Cfg} {ty : TypeId} {ad : Addr} {v : Value} (S : Sy w0 r bs c.s F a w) (hl : (loadVar ty ad).run P w = .ok v w) (hh : headO P c = some (ty, ad)) {Q : Exit → Act → World → Prop}
    (h : ∀ a', Sy w0 r bs (aftC c (.v v)).s F a' w → post P (aftC c (.v v)).k Q .normal a' w) : post P c.k Q .normal a w := by
  obtain ⟨k, s⟩ := c
  match k with
  | .ops all (o :: l) :: k =>
    show wpList P all (post P k Q) (o :: l) a w
    refine wpList_step fun K hK => ?_
    unfold headO at hh
    simp only at hh
    cases hw : wantS s all o with
    | none => rw [hw] at hh; simp at hh
    | some b =>
      rw [hw] at hh
      cases b with
      | false => simp at hh
      | true =>
        cases ho : o.op <;> rw [ho] at hh <;> simp only [reduceCtorEq] at hh
        case load ty' x =>
          cases hx : s.val x with
          | none => rw [hx] at hh; simp at hh
          | some y =>
            rw [hx] at hh
            cases y with
            | v y =>
              cases y with
              | pointer pa =>
                cases pa with
                | none => simp at hh
                | some ad' =>
                  simp only [Option.some.injEq, Prod.mk.injEq] at hh
                  obtain ⟨h1, h2⟩ := hh
                  subst h1; subst h2
                  have h1 := (S.val hx).1
                  rw [wantS_sound S hw, if_pos rfl]
                  unfold Oper.wp execOp
                  simp only [ho, h1, den, Instr.loadAt, Instr.sureAddr, Sem.run_bind, Sem.run_pure, Result.andThen_ok, hl]
                  exact hK _ _ (h _ (S.put o.dst (x := .v v) trivial))
              | _ => simp at hh
            | _ => simp at hh
  | [] => simp [headO] at hh
  | .code _ :: _ => simp [headO] at hh
  | .blk _ :: _ => simp [headO] at hh
  | .rnd _ _ :: _ => simp [headO] at hh
  | .ops _ [] :: _ => simp [headO] at hh
theorem Sy.ldBox {b o : Nat} {ty ty' : TypeId} {cs : List Value} {v : Value} (S : Sy w0 r bs s F a w) (hf : rfBox b ty' cs ∈ F) (h : ldS P ty cs o = some v) : (loadVar ty ⟨b, o, none⟩).run P w = .ok v w :=
  ldS_run h (S.fact hf)
theorem addr_addS (b o k : Nat) : (⟨b, o, none⟩ : Addr).add k = ⟨b, o + k, none⟩ := by unfold Addr.add; split <;> simp_all
end
end Go.Proofs.YtfahnmpcclhjlaaGreat.SZ

namespace Go.Proofs.YtfahnmpcclhjlaaGreat.SZ
open Go Go.RowKit
set_option linter.unusedVariables false
set_option linter.unusedSectionVars false
set_option linter.unusedSimpArgs false
set_option maxRecDepth 10000
section
variable [DF]
variable {P : Program} {w0 : World} {r : List Nat} {bs : List Nat} {s : SS} {F : List RF} {a : Act} {w : World}
def headIx (P : Program) (c : Cfg) : Option (Option Addr × Nat × Int × Nat) :=
  match c with
  | ⟨.ops all (o :: l) :: k, s⟩ => match wantS s all o, o.op with
    | some true, .indexAddr t x ix => match s.val x, s.val ix, P.underlying t with
      | some (.v (.slice ad len _)), some (.v (.int _ i)), some (.slice elem) => ((P.info? elem).map (·.size)).map fun size => (ad, len, i, size)
      | _, _, _ => none
    | _, _ => none
  | _ => none
theorem sy_ix {c : Cfg} {b off len n size : Nat} {i : Int} (S : Sy w0 r bs c.s F a w) (hh : headIx P c = some (some ⟨b, off, none⟩, len, i, size)) (hi : i = (n : Int)) (hn : n < len) {Q : Exit → Act → World → Prop}
    (h : ∀ a', Sy w0 r bs (aftC c (.v (.pointer (some ⟨b, off + n * size, none⟩)))).s F a' w → post P (aftC c (.v (.pointer (some ⟨b, off + n * size, none⟩)))).k Q .normal a' w) : post P c.k Q .normal a w := by
  subst hi
  obtain ⟨k, s⟩ := c
  match k with
  | .ops all (o :: l) :: k =>
    show wpList P all (post P k Q) (o :: l) a w
    refine wpList_step fun K hK => ?_
    unfold headIx at hh
    simp only at hh
    cases hw : wantS s all o with
    | none => rw [hw] at hh; simp at hh
    | some b' =>
      rw [hw] at hh
      cases b' with
      | false => simp at hh
      | true =>
        cases ho : o.op <;> rw [ho] at hh <;> simp only [reduceCtorEq] at hh
        case indexAddr t x ix =>
          cases hx : s.val x with
          | none => rw [hx] at hh; simp at hh
          | some y =>
            rw [hx] at hh
            cases y with
            | v y =>
              cases y with
              | slice ad len' cap =>
                cases hi : s.val ix with
                | none => rw [hi] at hh; simp at hh
                | some z =>
                  rw [hi] at hh
                  cases z with
                  | v z =>
                    cases z with
                    | int kk m =>
                      cases hu : P.underlying t with
                      | none => rw [hu] at hh; simp at hh
                      | some d =>
                        rw [hu] at hh
                        cases d <;> simp only [reduceCtorEq] at hh
                        rename_i elem
                        cases hs : (P.info? elem).map (·.size) with
                        | none => rw [hs] at hh; simp at hh
                        | some sz =>
                          rw [hs] at hh
                          simp only [Option.map_some, Option.some.injEq, Prod.mk.injEq] at hh
                          obtain ⟨h1, h2, h3, h4⟩ := hh
                          subst h1; subst h2; subst h3; subst h4
                          have g1 := (S.val hx).1
                          have g2 := (S.val hi).1
                          rw [wantS_sound S hw, if_pos rfl]
                          unfold Oper.wp execOp
                          simp only [ho, g1, g2, den, Instr.indexAt, asIntOf, Sem.run_bind, Sem.run_pure, Result.andThen_ok, run_underlying hu w]
                          rw [if_pos ⟨by simp, by simpa using hn⟩]
                          simp only [Sem.run_bind, run_info hs, Result.andThen_ok, Sem.run_pure, addr_addS, Int.toNat_natCast]
                          exact hK _ _ (h _ (S.put o.dst (x := .v _) trivial))
                    | _ => simp at hh
                  | _ => simp at hh
              | _ => simp at hh
            | _ => simp at hh
  | [] => simp [headIx] at hh
  | .code _ :: _ => simp [headIx] at hh
  | .blk _ :: _ => simp [headIx] at hh
  | .rnd _ _ :: _ => simp [headIx] at hh
  | .ops _ [] :: _ => simp [headIx] at hh
end
end Go.Proofs.YtfahnmpcclhjlaaGreat.SZ

namespace Go.Proofs.YtfahnmpcclhjlaaGreat.SZ
open Go Go.RowKit
set_option linter.unusedVariables false
set_option linter.unusedSectionVars false
set_option linter.unusedSimpArgs false
set_option maxRecDepth 10000
section
variable [DF] [KP]
variable {P : Program} {w0 : World} {r : List Nat} {bs : List Nat} {s : SS} {F : List RF} {a : Act} {w : World}
theorem ix_run {ops : Array Oper} {o : Oper} {b off len n size : Nat} {i : Int} (S : Sy w0 r bs s F a w) (hh : headIx P ⟨[.ops ops [o]], s⟩ = some (some ⟨b, off, none⟩, len, i, size)) (hi : i = (n : Int)) (hn : n < len) :
    wantS s ops o = some true ∧ (execOp a.eval o).run P w = .ok (.value (.pointer (some ⟨b, off + n * size, none⟩))) w := by
  subst hi
  unfold headIx at hh
  simp only at hh
  cases hw : wantS s ops o with
  | none => rw [hw] at hh; simp at hh
  | some b' =>
    rw [hw] at hh
    cases b' with
    | false => simp at hh
    | true =>
      cases ho : o.op <;> rw [ho] at hh <;> simp only [reduceCtorEq] at hh
      case indexAddr t x ix =>
        cases hx : s.val x with
        | none => rw [hx] at hh; simp at hh
        | some y =>
          rw [hx] at hh
          cases y with
          | v y =>
            cases y with
            | slice ad len' cap =>
              cases hi : s.val ix with
              | none => rw [hi] at hh; simp at hh
              | some z =>
                rw [hi] at hh
                cases z with
                | v z =>
                  cases z with
                  | int kk m =>
                    cases hu : P.underlying t with
                    | none => rw [hu] at hh; simp at hh
                    | some d =>
                      rw [hu] at hh
                      cases d <;> simp only [reduceCtorEq] at hh
                      rename_i elem
                      cases hs : (P.info? elem).map (·.size) with
                      | none => rw [hs] at hh; simp at hh
                      | some sz =>
                        rw [hs] at hh
                        simp only [Option.map_some, Option.some.injEq, Prod.mk.injEq] at hh
                        obtain ⟨h1, h2, h3, h4⟩ := hh
                        subst h1; subst h2; subst h3; subst h4
                        have g1 := (S.val hx).1
                        have g2 := (S.val hi).1
                        refine ⟨rfl, ?_⟩
                        unfold execOp
                        simp only [ho, g1, g2, den, Instr.indexAt, asIntOf, Sem.run_bind, Sem.run_pure, Result.andThen_ok, run_underlying hu w]
                        rw [if_pos ⟨by simp, by simpa using hn⟩]
                        simp only [Sem.run_bind, run_info hs, Result.andThen_ok, Sem.run_pure, addr_addS, Int.toNat_natCast]
                  | _ => simp at hh
                | _ => simp at hh
            | _ => simp at hh
          | _ => simp at hh
theorem ldo_run {ops : Array Oper} {o : Oper} {ty : TypeId} {ad : Addr} {v : Value} (S : Sy w0 r bs s F a w) (hl : (loadVar ty ad).run P w = .ok v w) (hh : headO P ⟨[.ops ops [o]], s⟩ = some (ty, ad)) :
    wantS s ops o = some true ∧ (execOp a.eval o).run P w = .ok (.value v) w := by
  unfold headO at hh
  simp only at hh
  cases hw : wantS s ops o with
  | none => rw [hw] at hh; simp at hh
  | some b =>
    rw [hw] at hh
    cases b with
    | false => simp at hh
    | true =>
      cases ho : o.op <;> rw [ho] at hh <;> simp only [reduceCtorEq] at hh
      case load ty' x =>
        cases hx : s.val x with
        | none => rw [hx] at hh; simp at hh
        | some y =>
          rw [hx] at hh
          cases y with
          | v y =>
            cases y with
            | pointer pa =>
              cases pa with
              | none => simp at hh
              | some ad' =>
                simp only [Option.some.injEq, Prod.mk.injEq] at hh
                obtain ⟨h1, h2⟩ := hh
                subst h1; subst h2
                have h1 := (S.val hx).1
                refine ⟨rfl, ?_⟩
                unfold execOp
                simp only [ho, h1, den, Instr.loadAt, Instr.sureAddr, Sem.run_bind, Sem.run_pure, Result.andThen_ok, hl]
            | _ => simp at hh
          | _ => simp at hh
variable {k : List It} {QQ : Exit → Act → World → Prop} [PInv QQ] {B : List Nat} {K0 : List Bx} {ro : List Nat} {ops : Array Oper}
theorem nxt_val {m : Nat} {listed : Array Bool} {i : Nat} (D : Sd w0 r B K0 ro bs s F a w) {o : Oper} (ho : ops[i]? = some o) {x : SV} (hx : x.ok bs.length) (hr : wantS s ops o = some true ∧ (execOp a.eval o).run P w = .ok (.value (den bs x)) w)
    (h : ∀ a', Sd w0 r B K0 ro bs (s.put ((ops[i]?).bind (·.dst)) x) F a' w → wpAnyH P .any ops (PQ P k QQ) (HoldS B K0 ro) m (listed.setIfInBounds i true) a' w) : Nxt P ops (PQ P k QQ) (HoldS B K0 ro) m listed a w i := by
  unfold Nxt wpOp
  rw [ho] at h ⊢
  simp only [Option.bind_some] at h ⊢
  rw [if_pos (wantS_sound D.S hr.1)]
  refine Or.inl ?_
  unfold Oper.wp
  rw [hr.2, Oper.upon_value]
  have D' := D.put o.dst hx
  exact ⟨D'.hold, h _ D'⟩
theorem nxt_callG {g : Nat} {m : Nat} {listed : Array Bool} {i : Nat} (D : Sd w0 r B K0 ro bs s F a w) (h0 : g ∈ r ∨ w0.heap.size ≤ g) {v : Value} {C : World → Prop} {f : FuncId} {args : Array Value}
    (hC : Calls P f args w fun e w' => e = .returned v ∧ C w' ∧ w.grownBy w' (some g))
    (hh : ((ops[i]?).bind fun o => headC P ⟨[.ops ops [o]], s⟩).map (fun q => (q.1, q.2.map (den bs))) = some (f, args.toList)) {F' : List RF} (hF : ∀ f ∈ F', f ∈ F ∧ ¬f.bl g) (hn : ∀ i, i < bs.length → bs.getD i 0 ≠ g)
    (h : ∀ a' w', C w' → Sd w0 r B K0 ro bs (s.put ((ops[i]?).bind (·.dst)) (.v v)) F' a' w' → wpAnyH P .any ops (PQ P k QQ) (HoldS B K0 ro) m (listed.setIfInBounds i true) a' w') :
    Nxt P ops (PQ P k QQ) (HoldS B K0 ro) m listed a w i := by
  unfold Nxt
  cases ho : ops[i]? with
  | none => rw [ho] at hh; simp at hh
  | some o =>
    rw [ho] at hh h; simp only [Option.bind_some] at hh h
    obtain ⟨h1, h2⟩ := call_op D.S hh
    unfold wpOp
    rw [ho]
    simp only
    rw [if_pos h1]
    refine Or.inl ?_
    unfold Oper.wp
    rw [h2, Oper.upon_enter]
    refine Calls.mono hC ?_
    rintro e w' ⟨rfl, hx, hb⟩
    have D1 : Sd w0 r B K0 ro bs s F' a w' := ⟨D.S.grown hb h0 hF hn, D.pre, D.bl, D.hro⟩
    have D' := D1.put o.dst (x := .v v) trivial
    exact ⟨D'.hold, h _ w' hx D'⟩
theorem nxt_panic {m : Nat} {listed : Array Bool} {i : Nat} (D : Sd w0 r B K0 ro bs s F a w) {ch : List PanicEntry} {f : FuncId} {args : Array Value}
    {G : List Nat} (hC : Calls P f args w fun e w' => e = .panicked ch ∧ Gr w w' G)
    (hh : ((ops[i]?).bind fun o => headC P ⟨[.ops ops [o]], s⟩).map (fun q => (q.1, q.2.map (den bs))) = some (f, args.toList))
    (h : ∀ w', Gr w w' G → QQ (.panic ch) a w') : Nxt P ops (PQ P k QQ) (HoldS B K0 ro) m listed a w i := by
  unfold Nxt
  cases ho : ops[i]? with
  | none => rw [ho] at hh; simp at hh
  | some o =>
    rw [ho] at hh; simp only [Option.bind_some] at hh
    obtain ⟨h1, h2⟩ := call_op D.S hh
    unfold wpOp
    rw [ho]
    simp only
    rw [if_pos h1]
    refine Or.inl ?_
    unfold Oper.wp
    rw [h2, Oper.upon_enter]
    refine Calls.mono hC ?_
    rintro e w' ⟨rfl, hb⟩
    show post P k _ (.panic ch) a w'
    rw [post_panic]
    exact h w' hb
end
section
variable [DF] [KP]
variable {P : Program} {w0 : World} {r : List Nat} {bs : List Nat} {F : List RF} {a : Act} {w : World}
variable {c : Cfg} {QQ : Exit → Act → World → Prop} [PInv QQ] {B : List Nat} {ro : List Nat} {d : DC}
section
variable (i : Nat) (D : Sd w0 r B c.s.K ro bs d.s F a w) (hs : Region.noSelect (opsD c) = true) (hn : (d.m != 0) = true) (hr : Region.ready .any (opsD c) d.lst = [i])
include i D hs hn hr
theorem dr_ix {b off len n size : Nat} {ix : Int} (hh : (((opsD c)[i]?).bind fun o => headIx P ⟨[.ops (opsD c) [o]], d.s⟩) = some (some ⟨b, off, none⟩, len, ix, size)) (hi : ix = (n : Int)) (hlt : n < len) (h : ∀ a', Sd w0 r B c.s.K ro bs (dV P c ro d i (.v (.pointer (some ⟨b, off + n * size, none⟩)))).s F a' w → GD P c QQ B ro (dV P c ro d i (.v (.pointer (some ⟨b, off + n * size, none⟩)))) a' w) : GD P c QQ B ro d a w := by
  have hn' : d.m = (d.m - 1) + 1 := by simp at hn; omega
  obtain ⟨o, ho, hh⟩ : ∃ o, (opsD c)[i]? = some o ∧ headIx P ⟨[.ops (opsD c) [o]], d.s⟩ = some (some ⟨b, off, none⟩, len, ix, size) := by
    cases ho : (opsD c)[i]? with
    | none => rw [ho] at hh; cases hh
    | some o => rw [ho] at hh; exact ⟨o, rfl, hh⟩
  exact any_ready [i] (d.m - 1) hn' hr (by simp) ⟨nxt_val D ho (x := .v (.pointer (some ⟨b, off + n * size, none⟩))) trivial (ix_run D.S hh hi hlt) fun a' D' => drq_sound (d := ⟨d.m - 1, d.lst.setIfInBounds i true, d.s.put (((opsD c)[i]?).bind (·.dst)) (.v (.pointer (some ⟨b, off + n * size, none⟩)))⟩) hs D' fun a'' D'' => h a'' D'', trivial⟩
theorem dr_ldo {ty : TypeId} {ad : Addr} {v : Value} (hl : (loadVar ty ad).run P w = .ok v w) (hh : (((opsD c)[i]?).bind fun o => headO P ⟨[.ops (opsD c) [o]], d.s⟩) = some (ty, ad)) (h : ∀ a', Sd w0 r B c.s.K ro bs (dV P c ro d i (.v v)).s F a' w → GD P c QQ B ro (dV P c ro d i (.v v)) a' w) : GD P c QQ B ro d a w := by
  have hn' : d.m = (d.m - 1) + 1 := by simp at hn; omega
  obtain ⟨o, ho, hh⟩ : ∃ o, (opsD c)[i]? = some o ∧ headO P ⟨[.ops (opsD c) [o]], d.s⟩ = some (ty, ad) := by
    cases ho : (opsD c)[i]? with
    | none => rw [ho] at hh; cases hh
    | some o => rw [ho] at hh; exact ⟨o, rfl, hh⟩
  exact any_ready [i] (d.m - 1) hn' hr (by simp) ⟨nxt_val D ho (x := .v v) trivial (ldo_run D.S hl hh) fun a' D' => drq_sound (d := ⟨d.m - 1, d.lst.setIfInBounds i true, d.s.put (((opsD c)[i]?).bind (·.dst)) (.v v)⟩) hs D' fun a'' D'' => h a'' D'', trivial⟩
end
theorem dr_callG {g : Nat} (i : Nat) (D : Sd w0 r B c.s.K ro bs d.s F a w) (h0 : g ∈ r ∨ w0.heap.size ≤ g) (hs : Region.noSelect (opsD c) = true) (hn : (d.m != 0) = true) (hr : Region.ready .any (opsD c) d.lst = [i]) {v : Value} {C : World → Prop} {f : FuncId} {args : Array Value}
    (hC : Calls P f args w fun e w' => e = .returned v ∧ C w' ∧ w.grownBy w' (some g))
    (hh : (((opsD c)[i]?).bind fun o => headC P ⟨[.ops (opsD c) [o]], d.s⟩).map (fun q => (q.1, q.2.map (den bs))) = some (f, args.toList)) {F' : List RF} (hF : ∀ f ∈ F', f ∈ F ∧ ¬f.bl g) (hnb : ∀ i, i < bs.length → bs.getD i 0 ≠ g)
    (h : ∀ a' w', C w' → Sd w0 r B c.s.K ro bs (dV P c ro d i (.v v)).s F' a' w' → GD P c QQ B ro (dV P c ro d i (.v v)) a' w') : GD P c QQ B ro d a w := by
  have hn' : d.m = (d.m - 1) + 1 := by simp at hn; omega
  exact any_ready [i] (d.m - 1) hn' hr (by simp) ⟨nxt_callG D h0 hC hh hF hnb fun a' w' hx D' => drq_sound (d := ⟨d.m - 1, d.lst.setIfInBounds i true, d.s.put (((opsD c)[i]?).bind (·.dst)) (.v v)⟩) hs D' fun a'' D'' => h a'' w' hx D'', trivial⟩
end
end Go.Proofs.YtfahnmpcclhjlaaGreat.SZ

namespace Go.Proofs.YtfahnmpcclhjlaaGreat.SZ
open Go Go.RowKit
set_option linter.unusedVariables false
set_option linter.unusedSectionVars false
set_option linter.unusedSimpArgs false
set_option maxRecDepth 10000
section
variable [DF]
variable {P : Program} {w0 : World} {r : List Nat} {bs : List Nat} {s : SS} {F : List RF} {a : Act} {w : World}
def headT (c : Cfg) : Option (TypeId × Value) :=
  match c with
  | ⟨.ops all (o :: l) :: k, s⟩ => match wantS s all o, o.op with
    | some true, .panic x => match s.val x with
      | some (.v (.iface t v)) => some (t, v)
      | _ => none
    | _, _ => none
  | _ => none
theorem sy_thr {c : Cfg} {t : TypeId} {v : Value} {Q : Exit → Act → World → Prop} (S : Sy w0 r bs c.s F a w) (hh : headT c = some (t, v))
    (h : Q (.panic [{ v := .iface t v, recovered := false }]) a w) : post P c.k Q .normal a w := by
  obtain ⟨k, s⟩ := c
  match k with
  | .ops all (o :: l) :: k =>
    show wpList P all (post P k _) (o :: l) a w
    refine wpList_step fun K hK => ?_
    unfold headT at hh
    simp only at hh
    cases hw : wantS s all o with
    | none => rw [hw] at hh; simp at hh
    | some b =>
      rw [hw] at hh
      cases b with
      | false => simp at hh
      | true =>
        cases ho : o.op <;> rw [ho] at hh <;> simp only [reduceCtorEq] at hh
        case panic x =>
          cases hx : s.val x with
          | none => rw [hx] at hh; simp at hh
          | some y =>
            rw [hx] at hh
            cases y with
            | v y =>
              cases y with
              | iface t' v' =>
                simp only [Option.some.injEq, Prod.mk.injEq] at hh
                obtain ⟨rfl, rfl⟩ := hh
                have h1 := (S.val hx).1
                rw [wantS_sound S hw, if_pos rfl]
                have hr : (execOp a.eval o).run P w = .halt (.panic (.iface t' v')) w := by
                  unfold execOp
                  simp only [ho, h1, den, Instr.panic]
                  rfl
                unfold Oper.wp
                rw [hr, Oper.upon_panic]
                show post P k _ (.panic _) a w
                rw [post_panic]
                exact h
              | _ => simp at hh
            | _ => simp at hh
  | [] => simp [headT] at hh
  | .code _ :: _ => simp [headT] at hh
  | .blk _ :: _ => simp [headT] at hh
  | .rnd _ _ :: _ => simp [headT] at hh
  | .ops _ [] :: _ => simp [headT] at hh
theorem post_goto {Q : Exit → Act → World → Prop} {l : Nat} : ∀ k : List It, post P k Q (.goto l) a w = Q (.goto l) a w
  | [] => rfl
  | .blk j :: k => post_goto k
  | .code c :: k => post_goto k
  | .ops _ _ :: k => post_goto k
  | .rnd _ _ :: k => post_goto k
def gotoC (c : Cfg) : Option Nat := match c.k with
  | .code (.goto l) :: _ => some l
  | _ => none
theorem sy_goto {c : Cfg} {Q : Exit → Act → World → Prop} {l : Nat} (hg : gotoC c = some l) (h : Q (.goto l) a w) : post P c.k Q .normal a w := by
  obtain ⟨k, s⟩ := c
  unfold gotoC at hg
  simp only at hg
  split at hg
  · simp only [Option.some.injEq] at hg
    subst hg
    rename_i l' k
    show (Code.goto l').wp P (post P k Q) a w
    exact wp_goto (by rw [post_goto]; exact h)
  · cases hg
end
end Go.Proofs.YtfahnmpcclhjlaaGreat.SZ

namespace Go.Proofs.YtfahnmpcclhjlaaGreat.SX
open Go Go.RowKit
set_option linter.unusedVariables false
set_option linter.unusedSectionVars false
set_option linter.unusedSimpArgs false
set_option maxRecDepth 10000
section
variable {P : Program} {w0 : World} {r : Option Nat} {bs : List Nat} {s : SS} {F : List RF} {a : Act} {w : World}
end
end Go.Proofs.YtfahnmpcclhjlaaGreat.SX
