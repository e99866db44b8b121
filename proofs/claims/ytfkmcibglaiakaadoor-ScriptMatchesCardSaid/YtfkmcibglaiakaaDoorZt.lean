
/-
  A walk by computation: a panic of the walk's own.
-/
import Derived.Test.YtfkmcibglaiakaaDoorRows
import Derived.Test.YtfkmcibglaiakaaDoorBase
import Derived.Test.YtfkmcibglaiakaaDoorZe
namespace Go.Proofs.YtfkmcibglaiakaaDoor.SZ
open Go Go.RowKit
set_option linter.unusedVariables false
set_option linter.unusedSectionVars false
set_option linter.unusedSimpArgs false
set_option maxRecDepth 10000
section
variable [DF]
variable {P : Program} {w0 : World} {r : List Nat} {bs : List Nat} {s : SS} {F : List RF} {a : Act} {w : World}
/-- The panic that comes next. -/
def headT (c : Cfg) : Option (TypeId × Value) :=
  match c with
  | ⟨.ops all (o :: l) :: k, s⟩ => match wantS s all o, o.op with
    | some true, .panic x => match s.val x with
      | some (.v (.iface t v)) => some (t, v)
      | _ => none
    | _, _ => none
  | _ => none
theorem sy_thr {c : Cfg} {t : TypeId} {v : Value} {Q : Exit → Act → World → Prop} (S : Sy w0 r bs c.s F a w) (hh : headT c = some (t, v))
    (h : Q (.panic [{ v := .iface t v, recovered := false }]) a w) : post P c.k Q .normal a w := by
  obtain ⟨k, s⟩ := c
  match k with
  | .ops all (o :: l) :: k =>
    show wpList P all (post P k _) (o :: l) a w
    refine wpList_step fun K hK => ?_
    unfold headT at hh
    simp only at hh
    cases hw : wantS s all o with
    | none => rw [hw] at hh; simp at hh
    | some b =>
      rw [hw] at hh
      cases b with
      | false => simp at hh
      | true =>
        cases ho : o.op <;> rw [ho] at hh <;> simp only [reduceCtorEq] at hh
        case panic x =>
          cases hx : s.val x with
          | none => rw [hx] at hh; simp at hh
          | some y =>
            rw [hx] at hh
            cases y with
            | v y =>
              cases y with
              | iface t' v' =>
                simp only [Option.some.injEq, Prod.mk.injEq] at hh
                obtain ⟨rfl, rfl⟩ := hh
                have h1 := (S.val hx).1
                rw [wantS_sound S hw, if_pos rfl]
                have hr : (execOp a.eval o).run P w = .halt (.panic (.iface t' v')) w := by
                  unfold execOp
                  simp only [ho, h1, den, Instr.panic]
                  rfl
                unfold Oper.wp
                rw [hr, Oper.upon_panic]
                show post P k _ (.panic _) a w
                rw [post_panic]
                exact h
              | _ => simp at hh
            | _ => simp at hh
  | [] => simp [headT] at hh
  | .code _ :: _ => simp [headT] at hh
  | .blk _ :: _ => simp [headT] at hh
  | .rnd _ _ :: _ => simp [headT] at hh
  | .ops _ [] :: _ => simp [headT] at hh
/-- A jump. -/
theorem post_goto {Q : Exit → Act → World → Prop} {l : Nat} : ∀ k : List It, post P k Q (.goto l) a w = Q (.goto l) a w
  | [] => rfl
  | .blk j :: k => post_goto k
  | .code c :: k => post_goto k
  | .ops _ _ :: k => post_goto k
  | .rnd _ _ :: k => post_goto k
def gotoC (c : Cfg) : Option Nat := match c.k with
  | .code (.goto l) :: _ => some l
  | _ => none
theorem sy_goto {c : Cfg} {Q : Exit → Act → World → Prop} {l : Nat} (hg : gotoC c = some l) (h : Q (.goto l) a w) : post P c.k Q .normal a w := by
  obtain ⟨k, s⟩ := c
  unfold gotoC at hg
  simp only at hg
  split at hg
  · simp only [Option.some.injEq] at hg
    subst hg
    rename_i l' k
    show (Code.goto l').wp P (post P k Q) a w
    exact wp_goto (by rw [post_goto]; exact h)
  · cases hg
end
end Go.Proofs.YtfkmcibglaiakaaDoor.SZ
