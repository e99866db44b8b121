
/-
  A walk by computation: elements of slices that are not the walk's own.
-/
import Derived.Test.YtfkmcibglaiakaaDoorRows
import Derived.Test.YtfkmcibglaiakaaDoorBase
import Derived.Test.YtfkmcibglaiakaaDoorZa
namespace Go.Proofs.YtfkmcibglaiakaaDoor.SZ
open Go Go.RowKit
set_option linter.unusedVariables false
set_option linter.unusedSectionVars false
set_option linter.unusedSimpArgs false
set_option maxRecDepth 10000
section
variable [DF]
variable {P : Program} {w0 : World} {r : List Nat} {bs : List Nat} {s : SS} {F : List RF} {a : Act} {w : World}
/-- The address of an element of a slice that is not the walk's own: the slice's base, its length, the index, the elements' size. -/
def headIx (P : Program) (c : Cfg) : Option (Option Addr × Nat × Int × Nat) :=
  match c with
  | ⟨.ops all (o :: l) :: k, s⟩ => match wantS s all o, o.op with
    | some true, .indexAddr t x ix => match s.val x, s.val ix, P.underlying t with
      | some (.v (.slice ad len _)), some (.v (.int _ i)), some (.slice elem) => ((P.info? elem).map (·.size)).map fun size => (ad, len, i, size)
      | _, _, _ => none
    | _, _ => none
  | _ => none
theorem sy_ix {c : Cfg} {b off len n size : Nat} {i : Int} (S : Sy w0 r bs c.s F a w) (hh : headIx P c = some (some ⟨b, off, none⟩, len, i, size)) (hi : i = (n : Int)) (hn : n < len) {Q : Exit → Act → World → Prop}
    (h : ∀ a', Sy w0 r bs (aftC c (.v (.pointer (some ⟨b, off + n * size, none⟩)))).s F a' w → post P (aftC c (.v (.pointer (some ⟨b, off + n * size, none⟩)))).k Q .normal a' w) : post P c.k Q .normal a w := by
  subst hi
  obtain ⟨k, s⟩ := c
  match k with
  | .ops all (o :: l) :: k =>
    show wpList P all (post P k Q) (o :: l) a w
    refine wpList_step fun K hK => ?_
    unfold headIx at hh
    simp only at hh
    cases hw : wantS s all o with
    | none => rw [hw] at hh; simp at hh
    | some b' =>
      rw [hw] at hh
      cases b' with
      | false => simp at hh
      | true =>
        cases ho : o.op <;> rw [ho] at hh <;> simp only [reduceCtorEq] at hh
        case indexAddr t x ix =>
          cases hx : s.val x with
          | none => rw [hx] at hh; simp at hh
          | some y =>
            rw [hx] at hh
            cases y with
            | v y =>
              cases y with
              | slice ad len' cap =>
                cases hi : s.val ix with
                | none => rw [hi] at hh; simp at hh
                | some z =>
                  rw [hi] at hh
                  cases z with
                  | v z =>
                    cases z with
                    | int kk m =>
                      cases hu : P.underlying t with
                      | none => rw [hu] at hh; simp at hh
                      | some d =>
                        rw [hu] at hh
                        cases d <;> simp only [reduceCtorEq] at hh
                        rename_i elem
                        cases hs : (P.info? elem).map (·.size) with
                        | none => rw [hs] at hh; simp at hh
                        | some sz =>
                          rw [hs] at hh
                          simp only [Option.map_some, Option.some.injEq, Prod.mk.injEq] at hh
                          obtain ⟨h1, h2, h3, h4⟩ := hh
                          subst h1; subst h2; subst h3; subst h4
                          have g1 := (S.val hx).1
                          have g2 := (S.val hi).1
                          rw [wantS_sound S hw, if_pos rfl]
                          unfold Oper.wp execOp
                          simp only [ho, g1, g2, den, Instr.indexAt, asIntOf, Sem.run_bind, Sem.run_pure, Result.andThen_ok, run_underlying hu w]
                          rw [if_pos ⟨by simp, by simpa using hn⟩]
                          simp only [Sem.run_bind, run_info hs, Result.andThen_ok, Sem.run_pure, addr_addS, Int.toNat_natCast]
                          exact hK _ _ (h _ (S.put o.dst (x := .v _) trivial))
                    | _ => simp at hh
                  | _ => simp at hh
              | _ => simp at hh
            | _ => simp at hh
  | [] => simp [headIx] at hh
  | .code _ :: _ => simp [headIx] at hh
  | .blk _ :: _ => simp [headIx] at hh
  | .rnd _ _ :: _ => simp [headIx] at hh
  | .ops _ [] :: _ => simp [headIx] at hh
end
end Go.Proofs.YtfkmcibglaiakaaDoor.SZ
