/-
  Merged: Sa
-/
import Derived.Test.YtdfngmplfgifiaaRows
import Derived.Test.YtdfngmplfgifiaaPk1
import Derived.Test.YtdfngmplfgifiaaPk6
import Derived.Laws.AppendOwn

/-
  A walk by computation: append to a row of the walk's own.
-/
namespace Go.Proofs.Ytdfngmplfgifiaa.SX
open Go Go.RowKit
set_option linter.unusedVariables false
set_option linter.unusedSimpArgs false
set_option maxRecDepth 10000

/-- A row that lies in a block from B on. -/
def rfOwn (B : Nat) (e : TypeId) (size : Nat) (v : Value) (n : Nat) (xs : List Value) : RF := ⟨fun b => v.ownBlock = some b, fun w => w.ownsRow B e size v n xs, fun w h b hb => (h.lt b hb).2, fun w w' h hb => by
  refine ⟨h.1, ?_⟩
  rcases h.2 with hn | ⟨g, cap, cur, rfl, h1, h2, rest⟩
  · exact .inl hn
  · exact .inr ⟨g, cap, cur, rfl, h1, (hb g rfl).trans h2, rest⟩⟩
theorem Sy.own {w0 : World} {r : Option Nat} {bs : List Nat} {s : SS} {F : List RF} {a : Act} {w : World} {B : Nat} {e : TypeId} {size : Nat} {v : Value} {n : Nat} {xs : List Value} (S : Sy w0 r bs s (rfOwn B e size v n xs :: F) a w) : w.ownsRow B e size v n xs := S.fact (f := rfOwn B e size v n xs) (by simp)
def headA (c : Cfg) : Option (Value × Nat × Nat × Nat × Nat × TypeId) :=
  match c with
  | ⟨.ops all (o :: l) :: k, s⟩ => match wantS s all o, o.op with
    | some true, .call ca => match ca.callee, ca.args.toList, ca.argTypes.toList with
      | .builtin .append, [x, y], [t, t'] => if t = t' then match s.val x, s.val y with
          | some (.v v), some (.s i of m cp) => some (v, i, of, m, cp, t)
          | _, _ => none
        else none
      | _, _, _ => none
    | _, _ => none
  | _ => none
section
variable {P : Program} {w0 : World} {r : Option Nat} {bs : List Nat} {s : SS} {F : List RF} {a : Act} {w : World}
theorem headA_op (S : Sy w0 r bs s F a w) {all : Array Oper} {o : Oper} {l : List Oper} {k : List It} {v : Value} {i of m cp : Nat} {t : TypeId} (hh : headA ⟨.ops all (o :: l) :: k, s⟩ = some (v, i, of, m, cp, t)) :
    Region.wanted o (yielded all a.tmps) = true ∧ ∃ x y, o.op = .call { callee := .builtin .append, args := #[x, y], argTypes := #[t, t] } ∧ a.eval x = v ∧ a.eval y = .slice (some (adr bs i of)) m cp := by
  unfold headA at hh
  simp only at hh
  cases hw : wantS s all o with
  | none => rw [hw] at hh; simp at hh
  | some b =>
    rw [hw] at hh
    cases b with
    | false => simp at hh
    | true =>
      refine ⟨wantS_sound S hw, ?_⟩
      cases ho : o.op <;> rw [ho] at hh <;> simp only [reduceCtorEq] at hh
      case call ca =>
        obtain ⟨callee, ⟨args⟩, ⟨ats⟩⟩ := ca
        simp only at hh
        split at hh
        · rename_i x y t1 t2
          split at hh
          · rename_i ht
            subst ht
            cases hx : s.val x with
            | none => rw [hx] at hh; simp at hh
            | some u =>
              cases hy : s.val y with
              | none => rw [hx, hy] at hh; cases u <;> simp at hh
              | some z =>
                rw [hx, hy] at hh
                cases u <;> cases z <;> simp at hh
                obtain ⟨rfl, rfl, rfl, rfl, rfl, rfl⟩ := hh
                exact ⟨x, y, rfl, (S.val hx).1, (S.val hy).1⟩
          · cases hh
        · cases hh
theorem gb_none_below {w w' : World} (h : w.grownBy w' none) : Below w.heap.size w w' := ⟨h.os, h.tape, h.output, h.size, fun k hk => h.block k hk (by simp)⟩
theorem Sy.grownO (S : Sy w0 r bs s F a w) {w' : World} {v : Value} (hg : w.grownBy w' v.ownBlock) (h0 : ∀ g, v.ownBlock = some g → w0.heap.size ≤ g) {F' : List RF} (hF : ∀ f ∈ F', f ∈ F ∧ ∀ g, v.ownBlock = some g → ¬f.bl g) (hn : ∀ i, i < bs.length → v.ownBlock ≠ some (bs.getD i 0)) : Sy w0 r bs s F' a w' := by
  cases hv : v.ownBlock with
  | none =>
    rw [hv] at hg
    exact (S.below (gb_none_below hg)).sub fun f hf => (hF f hf).1
  | some g =>
    rw [hv] at hg
    exact S.grown hg (Or.inr (h0 g hv)) (fun f hf => ⟨(hF f hf).1, (hF f hf).2 g hv⟩) fun i hi he => hn i hi (by rw [hv, he])
/-- Append to a row of the walk's own; only the variables π are kept, all older than the row's least block. -/
theorem sy_append {c : Cfg} (π : List Nat) (B : Nat) {v : Value} {i of m cp n size bytes : Nat} {e t : TypeId} {xs news : List Value} {info : TypeInfo} {z : Value} {kx : Bx} (F' : List RF)
    (S : Sy w0 r bs c.s F a w) (hh : headA c = some (v, i, of, m, cp, t)) (ht : P.underlying t = some (.slice e)) (hi : P.info? e = some info) (hz : info.zero = some z)
    (hsize : info.size = size) (hby : info.bytes = bytes) (hzs : z.cells.size = size) (hsz : 0 < size)
    (hown : w.ownsRow B e size v n xs) (hB0 : w0.heap.size ≤ B) (hB1 : B ≤ w.heap.size) (hlo : ∀ j ∈ π, bs.getD j 0 < B)
    (hK : c.s.K[i]? = some kx) (hnews : (kx.cs.drop of).take news.length = news) (hl : news.length = m * size) (h1 : ∀ u ∈ news, u.oneCell' = true)
    (h63 : n + m ≤ maxLen) (hbytes : (n + m) * bytes ≤ 140737488355328)
    (hF : ∀ f ∈ F', f ∈ F ∧ ∀ g, v.ownBlock = some g → ¬f.bl g) (hFB : ∀ f ∈ F', ∀ b, f.bl b → True)
    (hp : okSel π c.s.K.length = true) (hKl : (c.s.less π).K.map some = π.map fun i => c.s.K[i]?)
    (hI : ((c.s.less π).T.all fun q => match c.s.get q.1 with
      | some x => x.inL π
      | none => false) = true)
    (hT : ((c.s.less π).T.map fun q => (c.s.get q.1).map (SV.ren fun i => π.idxOf i)) = (c.s.less π).T.map fun q => some q.2) {Q : Exit → Act → World → Prop}
    (h : ∀ v' a' w', w'.ownsRow B e size v' (n + m) (xs ++ news) → w.grownBy w' v.ownBlock → Sy w0 r (π.map fun i => bs.getD i 0) (aftC (lessC π c) (.v v')).s (rfOwn B e size v' (n + m) (xs ++ news) :: F') a' w' → post P (aftC (lessC π c) (.v v')).k Q .normal a' w') : post P c.k Q .normal a w := by
  obtain ⟨k, s⟩ := c
  match k, hh with
  | .ops all (o :: l) :: k, hh =>
    obtain ⟨hw, x, y, ho, hx, hy⟩ := headA_op S hh
    show wpList P all (post P k Q) (o :: l) a w
    refine wpList_step fun K hKk => ?_
    rw [if_pos hw]
    have hbx := S.bx i kx hK
    refine wp_append_own w x y t ho B e info z size bytes ht hi hz hsize hby hzs hsz v n xs hx hown (adr bs i of) m cp news hy hl (fun j u hj => ?_) h1 h63 hbytes hB1 fun v' w' hv' hg hnn => hKk _ _ ?_
    · have ea : (adr bs i of).add j = ⟨bs.getD i 0, of + j, none⟩ := by unfold Addr.add adr; split <;> simp_all
      rw [ea]
      rw [cell_of_heap hbx]
      rw [← hnews, List.getElem?_take] at hj
      split at hj
      · rw [List.getElem?_drop] at hj; exact hj
      · cases hj
    · have S1 := S.to π (s.less π) hp rfl hKl hI hT
      have hb2 : ∀ j, j < (π.map fun i => bs.getD i 0).length → (π.map fun i => bs.getD i 0).getD j 0 < B := fun j hj => by
        simp only [List.length_map] at hj
        have e1 : (π.map fun i => bs.getD i 0).getD j 0 = bs.getD (π[j]) 0 := by simp [List.getD, List.getElem?_map, List.getElem?_eq_getElem hj]
        rw [e1]; exact hlo _ (List.getElem_mem hj)
      have S2 := S1.grownO hg (fun g hv => Nat.le_trans hB0 (hown.lt g hv).1) hF (fun j hj he => by have h3 := hb2 j hj; have := (hown.lt _ he).1; omega)
      have S3 := S2.add (rfOwn B e size v' (n + m) (xs ++ news)) hv' (fun j hj he => by have h3 := hb2 j hj; have := (hv'.lt _ he).1; omega)
      exact h v' _ w' hv' hg (S3.put o.dst (x := .v v') trivial)
end
end Go.Proofs.Ytdfngmplfgifiaa.SX
