
/-
  A walk by computation: a run that leaves the world as it is (moves, reckoning, tests that are decided, ways through the code).
-/
import Derived.Test.YtmjfnlangebhlaaSx
import Derived.Test.YtmjfnlangebhlaaSd
namespace Go.Proofs.Ytmjfnlangebhlaa.SX
open Go Go.RowKit
set_option linter.unusedVariables false
set_option linter.unusedSimpArgs false
set_option maxRecDepth 10000

section
variable {P : Program} {w0 : World} {r : Option Nat} {bs : List Nat} {s : SS} {F : List RF} {a : Act} {w : World}
theorem Sy.sd0 (S : Sy w0 r bs s F a w) : Sd w0 r [] [] [] bs s F a w := ⟨S, fun i hi => by simp at hi, rfl, fun i hi => by simp at hi⟩
def stepQ (P : Program) (O : Opt) : Cfg → Option Cfg
  | ⟨.ops all [] :: k, s⟩ => some ⟨k, s⟩
  | ⟨.ops all (o :: l) :: k, s⟩ => match wantS s all o with
    | some false => some ⟨.ops all l :: k, s.put o.dst (.v undef)⟩
    | some true => match qval P [] [] s o with
      | some x => some ⟨.ops all l :: k, s.put o.dst x⟩
      | none => none
    | none => none
  | ⟨.blk _ :: k, s⟩ => some ⟨k, s⟩
  | ⟨.code .skip :: k, s⟩ => some ⟨k, s⟩
  | ⟨.code (.seq x y) :: k, s⟩ => some ⟨.code x :: .code y :: k, s⟩
  | ⟨.code (.block id c) :: k, s⟩ => some ⟨.code c :: .blk id :: k, s⟩
  | ⟨.code (.exit id) :: k, s⟩ => (unw id k).map fun k' => ⟨k', s⟩
  | ⟨.code (.region id ops false) :: k, s⟩ => if O.stops.contains id then none else some ⟨.ops ops ops.toList :: k, s⟩
  | ⟨.code (.cond c x y) :: k, s⟩ => match s.val c with
    | some (.v (.bool true)) => some ⟨.code x :: k, s⟩
    | some (.v (.bool false)) => some ⟨.code y :: k, s⟩
    | _ => none
  | _ => none
def runQ (P : Program) (O : Opt) : Nat → Cfg → Cfg
  | 0, c => c
  | n + 1, c => match stepQ P O c with
    | some c' => runQ P O n c'
    | none => c
theorem stepQ_sound {O : Opt} {c c' : Cfg} (S : Sy w0 r bs c.s F a w) (h : stepQ P O c = some c') {Q : Exit → Act → World → Prop}
    (hk : ∀ a', Sy w0 r bs c'.s F a' w → post P c'.k Q .normal a' w) : post P c.k Q .normal a w := by
  have hk0 : Sy w0 r bs c'.s F a w → post P c'.k Q .normal a w := hk a
  obtain ⟨k, s⟩ := c
  match k, h with
  | .ops all [] :: k, h => simp only [stepQ, Option.some.injEq] at h; subst h; exact hk0 S
  | .ops all (o :: l) :: k, h =>
    simp only [stepQ] at h
    show wpList P all (post P k Q) (o :: l) a w
    refine wpList_step fun K hK => ?_
    cases hw : wantS s all o with
    | none => rw [hw] at h; cases h
    | some b =>
      rw [hw] at h
      rw [wantS_sound S hw]
      cases b with
      | false =>
        simp only [Option.some.injEq] at h; subst h
        simp only [Bool.false_eq_true, if_false]
        exact hK _ _ (hk _ (S.put o.dst (x := .v undef) trivial))
      | true =>
        simp only at h
        cases hq : qval P [] [] s o with
        | none => rw [hq] at h; cases h
        | some x =>
          rw [hq] at h
          simp only [Option.some.injEq] at h; subst h
          obtain ⟨h1, h2⟩ := qval_sound S.sd0 hq
          rw [if_pos rfl]
          unfold Oper.wp
          rw [h2 w (fun i hi => by simp at hi), Oper.upon_value]
          exact hK _ _ (hk _ (S.put o.dst h1))
  | .blk id :: k, h =>
    simp only [stepQ, Option.some.injEq] at h; subst h
    show Exit.inBlock id (post P k Q) .normal a w
    exact hk0 S
  | .code .skip :: k, h => simp only [stepQ, Option.some.injEq] at h; subst h; exact wp_skip (hk0 S)
  | .code (.seq x y) :: k, h => simp only [stepQ, Option.some.injEq] at h; subst h; exact wp_seq (hk0 S)
  | .code (.block id c) :: k, h => simp only [stepQ, Option.some.injEq] at h; subst h; exact wp_block (hk0 S)
  | .code (.exit id) :: k, h =>
    simp only [stepQ] at h
    cases hu : unw id k with
    | none => rw [hu] at h; cases h
    | some k' =>
      rw [hu] at h
      simp only [Option.map_some, Option.some.injEq] at h; subst h
      exact wp_exit (unw_sound k hu (hk0 S))
  | .code (.region id ops false) :: k, h =>
    simp only [stepQ] at h
    split at h
    · cases h
    · simp only [Option.some.injEq] at h; subst h; exact wp_region_list (hk0 S)
  | .code (.cond c x y) :: k, h =>
    simp only [stepQ] at h
    cases hv : s.val c with
    | none => rw [hv] at h; cases h
    | some u =>
      rw [hv] at h
      cases u with
      | v u =>
        cases u with
        | bool b =>
          have he := (S.val hv).1
          cases b with
          | true => simp only [Option.some.injEq] at h; subst h; exact wp_cond_true he (hk0 S)
          | false => simp only [Option.some.injEq] at h; subst h; exact wp_cond_false he (hk0 S)
        | _ => simp at h
      | _ => simp at h
  | [], h => simp [stepQ] at h
  | .rnd _ _ :: k, h => simp [stepQ] at h
  | .code (.loop _) :: k, h => simp [stepQ] at h
  | .code .ret :: k, h => simp [stepQ] at h
  | .code (.region id ops true) :: k, h => simp [stepQ] at h
  | .code (.goto l) :: k, h => simp [stepQ] at h
  | .code (.label l) :: k, h => simp [stepQ] at h
  | .code (.rangeFunc _ _ _ _) :: k, h => simp [stepQ] at h
  | .code (.scope _) :: k, h => simp [stepQ] at h
  | .code (.refuse _) :: k, h => simp [stepQ] at h
theorem sy_quiet {O : Opt} {Q : Exit → Act → World → Prop} : ∀ (n : Nat) {c : Cfg} {a : Act}, Sy w0 r bs c.s F a w →
    (∀ a', Sy w0 r bs (runQ P O n c).s F a' w → post P (runQ P O n c).k Q .normal a' w) → post P c.k Q .normal a w
  | 0, c, a, S, h => h a S
  | n + 1, c, a, S, h => by
    unfold runQ at h
    cases hs : stepQ P O c with
    | none => rw [hs] at h; exact h a S
    | some c' =>
      rw [hs] at h
      simp only at h
      exact stepQ_sound S hs fun a1 S1 => sy_quiet (O := O) n S1 h
/-- Some of the own variables alone, and the slots that speak of them. -/
def SS.less (π : List Nat) (s : SS) : SS := ⟨s.n, (List.range s.n).filterMap fun t => (s.get t).bind fun x => if x.inL π then some (t, x.ren fun i => π.idxOf i) else none, π.filterMap fun i => s.K[i]?⟩
def lessC (π : List Nat) (c : Cfg) : Cfg := ⟨c.k, c.s.less π⟩
theorem sy_less {c : Cfg} (π : List Nat) (S : Sy w0 r bs c.s F a w) (hp : okSel π c.s.K.length = true) (hK : (c.s.less π).K.map some = π.map fun i => c.s.K[i]?)
    (hI : ((c.s.less π).T.all fun q => match c.s.get q.1 with
      | some x => x.inL π
      | none => false) = true)
    (hT : ((c.s.less π).T.map fun q => (c.s.get q.1).map (SV.ren fun i => π.idxOf i)) = (c.s.less π).T.map fun q => some q.2) {Q : Exit → Act → World → Prop}
    (h : Sy w0 r (π.map fun i => bs.getD i 0) (lessC π c).s F a w → post P (lessC π c).k Q .normal a w) : post P c.k Q .normal a w := h (S.to π (c.s.less π) hp rfl hK hI hT)
theorem sy_reify {c : Cfg} (t i o : Nat) (S : Sy w0 r bs c.s F a w) (hg : c.s.get t = some (.p i o)) {Q : Exit → Act → World → Prop}
    (h : Sy w0 r bs (castC c t (.pointer (some (adr bs i o)))).s F a w → post P (castC c t (.pointer (some (adr bs i o)))).k Q .normal a w) : post P c.k Q .normal a w := h (S.reify t i o hg)
end
end Go.Proofs.Ytmjfnlangebhlaa.SX
