
/-
  A walk by computation: stores into variables that are not the walk's own, rows made and appended to.
-/
import Derived.Test.YtfkmcibglaiakaaDoorRows
import Derived.Test.YtfkmcibglaiakaaDoorBase
import Derived.Test.YtfkmcibglaiakaaDoorZn
import Derived.Laws.AppendOwn
namespace Go.Proofs.YtfkmcibglaiakaaDoor.SZ
open Go Go.RowKit
set_option linter.unusedVariables false
set_option linter.unusedSectionVars false
set_option linter.unusedSimpArgs false
set_option maxRecDepth 10000
section
variable [DF]
variable {P : Program} {w0 : World} {r : List Nat} {bs : List Nat} {s : SS} {F : List RF} {a : Act} {w : World}
/-- A slot's value, as a plain one. -/
theorem Sy.plain (S : Sy w0 r bs s F a w) (t : Nat) {x : SV} (h : s.get t = some x) : Sy w0 r bs { s with T := (t, .v (den bs x)) :: s.T } F a w := by
  refine ⟨S.df, S.sz, fun t' y hy => ?_, S.bl, S.bx, S.nd, S.lo, S.fs, S.gr⟩
  unfold SS.get at hy
  simp only [List.lookup_cons] at hy
  cases e : (t' == t) with
  | true =>
    rw [e] at hy; simp at e; subst e
    simp only [Option.some.injEq] at hy; subst hy
    exact ⟨(S.tm t' x h).1, trivial⟩
  | false => rw [e] at hy; exact S.tm t' y hy
/-- One cell of a block is set. -/
theorem gb_setC (w : World) (b o : Nat) (vs : List Value) : w.grownBy (w.setCells b o vs) (some b) := by
  obtain ⟨h1, h2, h3, h4, h5⟩ := setCells_os b vs o w
  exact ⟨h1, h2, h3, by rw [h4]; exact Nat.le_refl _, fun k hk hne => h5 k (fun e => hne (by rw [e]))⟩
/-- The store that comes next, into a variable that is not the walk's own: its type, its place, the value. -/
def headSt (c : Cfg) : Option (TypeId × Addr × SV) :=
  match c with
  | ⟨.ops all (o :: l) :: k, s⟩ => match wantS s all o, o.op with
    | some true, .store ty x y => match s.val x, s.val y with
      | some (.v (.pointer (some ad))), some v => some (ty, ad, v)
      | _, _ => none
    | _, _ => none
  | _ => none
theorem sy_sto {c : Cfg} {ty : TypeId} {ad : Addr} {x : SV} {v : Value} {w' : World} (S : Sy w0 r bs c.s F a w) (hh : headSt c = some (ty, ad, x)) (hv : den bs x = v) (hr : (storeVar ty ad v).run P w = .ok () w') (hg : w.grownBy w' (some ad.block))
    (h0 : ad.block ∈ r ∨ w0.heap.size ≤ ad.block) (F' : List RF) (hF : ∀ f ∈ F', f ∈ F ∧ ¬f.bl ad.block) (hn : ∀ i, i < bs.length → bs.getD i 0 ≠ ad.block) {Q : Exit → Act → World → Prop}
    (h : ∀ a', Sy w0 r bs (aftC c (.v undef)).s F' a' w' → post P (aftC c (.v undef)).k Q .normal a' w') : post P c.k Q .normal a w := by
  obtain ⟨k, s⟩ := c
  match k with
  | .ops all (o :: l) :: k =>
    show wpList P all (post P k Q) (o :: l) a w
    refine wpList_step fun K hK => ?_
    unfold headSt at hh
    simp only at hh
    cases hw : wantS s all o with
    | none => rw [hw] at hh; simp at hh
    | some b' =>
      rw [hw] at hh
      cases b' with
      | false => simp at hh
      | true =>
        cases ho : o.op <;> rw [ho] at hh <;> simp only [reduceCtorEq] at hh
        case store ty' p y =>
          cases hp : s.val p with
          | none => rw [hp] at hh; simp at hh
          | some q =>
            rw [hp] at hh
            cases q with
            | v q =>
              cases q with
              | pointer pa =>
                cases pa with
                | none => simp at hh
                | some ad' =>
                  cases hy : s.val y with
                  | none => rw [hy] at hh; simp at hh
                  | some z =>
                    rw [hy] at hh
                    simp only [Option.some.injEq, Prod.mk.injEq] at hh
                    obtain ⟨rfl, rfl, rfl⟩ := hh
                    have h1 : a.eval p = .pointer (some ad') := (S.val hp).1
                    have h2 : a.eval y = v := (S.val hy).1.trans hv
                    rw [wantS_sound S hw, if_pos rfl]
                    unfold Oper.wp execOp
                    simp only [ho, h1, h2, Instr.storeAt, Instr.sureAddr, Sem.run_bind, Sem.run_pure, Result.andThen_ok, hr]
                    exact hK _ _ (h _ ((S.grown hg h0 hF hn).put o.dst (x := .v undef) trivial))
              | _ => simp at hh
            | _ => simp at hh
  | [] => simp [headSt] at hh
  | .code _ :: _ => simp [headSt] at hh
  | .blk _ :: _ => simp [headSt] at hh
  | .rnd _ _ :: _ => simp [headSt] at hh
  | .ops _ [] :: _ => simp [headSt] at hh
/-- A cell of a row, loaded and stored, at an offset that need not be known. -/
theorem ld_at {ty : TypeId} {b off : Nat} {v : Value} (ha : (P.underlying ty).map (·.isRow) = some false) (hv : w.cell? ⟨b, off, none⟩ = some v) : (loadVar ty ⟨b, off, none⟩).run P w = .ok v w := by
  cases hu : P.underlying ty with
  | none => rw [hu] at ha; cases ha
  | some d =>
    rw [hu] at ha
    simp only [Option.map_some, Option.some.injEq] at ha
    have hagg : (isAgg ty).run P w = .ok false w := by
      unfold isAgg
      rw [Sem.run_bind, run_underlying hu w]
      cases d <;> simp_all [TypeDesc.isRow]
    unfold loadVar
    rw [Sem.run_bind, hagg]
    simp only [Result.andThen_ok, Bool.false_eq_true, if_false]
    simp only [load, Sem.run, hv]
/-- The row that is made next. -/
def headMk (c : Cfg) : Option (TypeId × Value × Value) :=
  match c with
  | ⟨.ops all (o :: l) :: k, s⟩ => match wantS s all o, o.op with
    | some true, .makeSlice t x y => match s.val x, s.val y with
      | some (.v u), some (.v v) => some (t, u, v)
      | _, _ => none
    | _, _ => none
  | _ => none
theorem sy_mk {c : Cfg} {t e : TypeId} {u v : Value} {n : Nat} {cs : List Value} (S : Sy w0 r bs c.s F a w) (hh : headMk c = some (t, u, v)) (hr : ∀ w, (Instr.makeSlice t u v).run P w = .ok (.slice (some ⟨w.heap.size, 0, none⟩) n n) (w.alloc (.cells cs.toArray e (0, 0)))) {Q : Exit → Act → World → Prop}
    (h : ∀ b a' w', w0.heap.size ≤ b → (∀ i, i < bs.length → bs.getD i 0 ≠ b) → (∀ f ∈ F, ¬f.bl b) → w'.heap[b]? = some (.cells cs.toArray e (0, 0)) → Below w.heap.size w w' → Sy w0 r bs (aftC c (.v (.slice (some ⟨b, 0, none⟩) n n))).s F a' w' → post P (aftC c (.v (.slice (some ⟨b, 0, none⟩) n n))).k Q .normal a' w') : post P c.k Q .normal a w := by
  obtain ⟨k, s⟩ := c
  match k with
  | .ops all (o :: l) :: k =>
    show wpList P all (post P k Q) (o :: l) a w
    refine wpList_step fun K hK => ?_
    unfold headMk at hh
    simp only at hh
    cases hw : wantS s all o with
    | none => rw [hw] at hh; simp at hh
    | some b' =>
      rw [hw] at hh
      cases b' with
      | false => simp at hh
      | true =>
        cases ho : o.op <;> rw [ho] at hh <;> simp only [reduceCtorEq] at hh
        case makeSlice t' x y =>
          cases hx : s.val x with
          | none => rw [hx] at hh; simp at hh
          | some p =>
            rw [hx] at hh
            cases p with
            | v p =>
              cases hy : s.val y with
              | none => rw [hy] at hh; simp at hh
              | some q =>
                rw [hy] at hh
                cases q with
                | v q =>
                  simp only [Option.some.injEq, Prod.mk.injEq] at hh
                  obtain ⟨rfl, rfl, rfl⟩ := hh
                  have h1 := (S.val hx).1
                  have h2 := (S.val hy).1
                  rw [wantS_sound S hw, if_pos rfl]
                  unfold Oper.wp execOp
                  simp only [ho, h1, h2, den, Sem.run_bind, hr w, Sem.run_pure, Result.andThen_ok]
                  have hb : Below w.heap.size w (w.alloc (.cells cs.toArray e (0, 0))) := (Below.refl _ _).alloc (Nat.le_refl _) _
                  exact hK _ _ (h w.heap.size _ _ S.gr.size (fun i hi he => by have := S.lt hi; omega) (fun f hf hbl => by have := f.lt w (S.fs f hf).1 _ hbl; omega) (heap_alloc_new w _) hb ((S.below hb).put o.dst (x := .v _) trivial))
                | _ => simp at hh
            | _ => simp at hh
  | [] => simp [headMk] at hh
  | .code _ :: _ => simp [headMk] at hh
  | .blk _ :: _ => simp [headMk] at hh
  | .rnd _ _ :: _ => simp [headMk] at hh
  | .ops _ [] :: _ => simp [headMk] at hh
/-- A row that lies in a block from B on. -/
def rfOwn (B : Nat) (e : TypeId) (size : Nat) (v : Value) (n : Nat) (xs : List Value) : RF := ⟨fun b => v.ownBlock = some b, fun w => w.ownsRow B e size v n xs, fun w h b hb => (h.lt b hb).2, fun w w' h hb => by
  refine ⟨h.1, ?_⟩
  rcases h.2 with hn | ⟨g, cap, cur, rfl, h1, h2, rest⟩
  · exact .inl hn
  · exact .inr ⟨g, cap, cur, rfl, h1, (hb g rfl).trans h2, rest⟩⟩
/-- The append that comes next. -/
def headApp (c : Cfg) : Option (SV × SV × TypeId) :=
  match c with
  | ⟨.ops all (o :: l) :: k, s⟩ => match wantS s all o, o.op with
    | some true, .call ca => match ca.callee, ca.args.toList, ca.argTypes.toList with
      | .builtin .append, [x, y], [t, t'] => if t = t' then match s.val x, s.val y with
          | some u, some v => some (u, v, t)
          | _, _ => none
        else none
      | _, _, _ => none
    | _, _ => none
  | _ => none
theorem app_op (S : Sy w0 r bs s F a w) {all : Array Oper} {o : Oper} {l : List Oper} {k : List It} {u v : SV} {t : TypeId} (hh : headApp ⟨.ops all (o :: l) :: k, s⟩ = some (u, v, t)) :
    Region.wanted o (yielded all a.tmps) = true ∧ ∃ x y, o.op = .call { callee := .builtin .append, args := #[x, y], argTypes := #[t, t] } ∧ a.eval x = den bs u ∧ a.eval y = den bs v := by
  unfold headApp at hh
  simp only at hh
  cases hw : wantS s all o with
  | none => rw [hw] at hh; simp at hh
  | some b =>
    rw [hw] at hh
    cases b with
    | false => simp at hh
    | true =>
      refine ⟨wantS_sound S hw, ?_⟩
      cases ho : o.op <;> rw [ho] at hh <;> simp only [reduceCtorEq] at hh
      case call ca =>
        obtain ⟨callee, ⟨args⟩, ⟨ats⟩⟩ := ca
        simp only at hh
        split at hh
        · rename_i x y t1 t2
          split at hh
          · rename_i ht
            subst ht
            cases hx : s.val x with
            | none => rw [hx] at hh; simp at hh
            | some p =>
              cases hy : s.val y with
              | none => rw [hx, hy] at hh; simp at hh
              | some q =>
                rw [hx, hy] at hh
                simp only [Option.some.injEq, Prod.mk.injEq] at hh
                obtain ⟨rfl, rfl, rfl⟩ := hh
                exact ⟨x, y, rfl, (S.val hx).1, (S.val hy).1⟩
          · cases hh
        · cases hh
theorem gb_none_below {w w' : World} (h : w.grownBy w' none) : Below w.heap.size w w' := ⟨h.os, h.tape, h.output, h.size, fun k hk => h.block k hk (by simp)⟩
theorem Sy.grownO (S : Sy w0 r bs s F a w) {w' : World} {v : Value} (hg : w.grownBy w' v.ownBlock) (h0 : ∀ g, v.ownBlock = some g → g ∈ r ∨ w0.heap.size ≤ g) {F' : List RF} (hF : ∀ f ∈ F', f ∈ F ∧ ∀ g, v.ownBlock = some g → ¬f.bl g) (hn : ∀ i, i < bs.length → v.ownBlock ≠ some (bs.getD i 0)) : Sy w0 r bs s F' a w' := by
  cases hv : v.ownBlock with
  | none =>
    rw [hv] at hg
    exact (S.below (gb_none_below hg)).sub fun f hf => (hF f hf).1
  | some g =>
    rw [hv] at hg
    exact S.grown hg (h0 g hv) (fun f hf => ⟨(hF f hf).1, (hF f hf).2 g hv⟩) fun i hi he => hn i hi (by rw [hv, he])
/-- Append to a row: what is appended lies anywhere. -/
theorem sy_app {c : Cfg} (B : Nat) {u y : SV} {v : Value} {ad : Addr} {m cp n size bytes : Nat} {e t : TypeId} {xs news : List Value} {info : TypeInfo} {z : Value} (F' : List RF)
    (S : Sy w0 r bs c.s F a w) (hh : headApp c = some (u, y, t)) (ht : P.underlying t = some (.slice e)) (hi : P.info? e = some info) (hz : info.zero = some z)
    (hsize : info.size = size) (hby : info.bytes = bytes) (hzs : z.cells.size = size) (hsz : 0 < size)
    (hu : den bs u = v) (hy : den bs y = .slice (some ad) m cp) (hown : w.ownsRow B e size v n xs) (hB1 : B ≤ w.heap.size)
    (hnews : ∀ j x, news[j]? = some x → w.cell? (ad.add j) = some x) (hl : news.length = m * size) (h1 : ∀ u ∈ news, u.oneCell' = true)
    (h63 : n + m ≤ maxLen) (hbytes : (n + m) * bytes ≤ 140737488355328) (h0 : ∀ g, v.ownBlock = some g → g ∈ r ∨ w0.heap.size ≤ g)
    (hF : ∀ f ∈ F', f ∈ F ∧ ∀ g, v.ownBlock = some g → ¬f.bl g) (hn : ∀ i, i < bs.length → v.ownBlock ≠ some (bs.getD i 0)) {Q : Exit → Act → World → Prop}
    (h : ∀ v' a' w', w'.ownsRow B e size v' (n + m) (xs ++ news) → w.grownBy w' v.ownBlock → Sy w0 r bs (aftC c (.v v')).s F' a' w' → post P (aftC c (.v v')).k Q .normal a' w') : post P c.k Q .normal a w := by
  obtain ⟨k, s⟩ := c
  match k, hh with
  | .ops all (o :: l) :: k, hh =>
    obtain ⟨hw, x, yy, ho, hx, hyy⟩ := app_op S hh
    show wpList P all (post P k Q) (o :: l) a w
    refine wpList_step fun K hKk => ?_
    rw [if_pos hw]
    exact wp_append_own w x yy t ho B e info z size bytes ht hi hz hsize hby hzs hsz v n xs (hx.trans hu) hown ad m cp news (hyy.trans hy) hl hnews h1 h63 hbytes hB1 fun v' w' hv' hg hnn => hKk _ _ (h v' _ w' hv' hg ((S.grownO hg h0 hF hn).put o.dst (x := .v v') trivial))
end
end Go.Proofs.YtfkmcibglaiakaaDoor.SZ
