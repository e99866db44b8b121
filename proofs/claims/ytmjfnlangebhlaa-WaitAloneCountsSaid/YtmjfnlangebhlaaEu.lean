
/-
  Runs by computation: a run in parts: the kernel carries out one part, what is needed of its end is written out under new names, and the next part begins there.
-/
import Derived.Test.YtmjfnlangebhlaaEp
namespace Go.Proofs.Ytmjfnlangebhlaa.EX
open Go Go.RowKit
set_option linter.unusedVariables false
set_option linter.unusedSimpArgs false
set_option linter.unusedSectionVars false
set_option maxRecDepth 10000
variable [FC]

/-! ### New names -/
def nmO (ns : List Nat) (i : Nat) : Nat := ns.getD i 0
mutual
def ren (ns : List Nat) : SV → SV
  | .v x => .v x
  | .y x => .y x
  | .p i o => .p (nmO ns i) o
  | .s i o l c => .s (nmO ns i) o l c
  | .r i o l c => .r (nmO ns i) o l c
  | .z i o q => .z (nmO ns i) o q
  | .m i => .m (nmO ns i)
  | .g cs => .g (renL ns cs)
  | .t cs => .t (renL ns cs)
  | .f fn a b => .f fn (renL ns a) (renL ns b)
  | .e ty x => .e ty (ren ns x)
  | .q i o l c => .q i o l c
  | .a i o => .a i o
def renL (ns : List Nat) : List SV → List SV
  | [] => []
  | x :: l => ren ns x :: renL ns l
end
mutual
theorem den_ren (B : Pl) (ns : List Nat) : ∀ x : SV, den (fun i => B (nmO ns i)) x = den B (ren ns x)
  | .v _ => by simp [den, ren]
  | .y _ => by simp [den, ren]
  | .p _ _ => by simp [den, ren]
  | .s _ _ _ _ => by simp [den, ren]
  | .r _ _ _ _ => by simp [den, ren]
  | .z _ _ _ => by simp [den, ren]
  | .m _ => by simp [den, ren]
  | .g cs => by simp [den, ren, denL_ren B ns cs]
  | .t cs => by simp [den, ren, denL_ren B ns cs]
  | .f _ a b => by simp [den, ren, denL_ren B ns a, denL_ren B ns b]
  | .e _ x => by simp [den, ren, den_ren B ns x]
  | .q _ _ _ _ => by simp [den, ren]
  | .a _ _ => by simp [den, ren]
theorem denL_ren (B : Pl) (ns : List Nat) : ∀ l : List SV, denL (fun i => B (nmO ns i)) l = denL B (renL ns l)
  | [] => by simp [denL, renL]
  | x :: l => by simp [denL, renL, den_ren B ns x, denL_ren B ns l]
end
mutual
def bdB (n : Nat) : SV → Bool
  | .v _ => true
  | .y _ => true
  | .p i _ => Nat.blt i n
  | .s i _ _ _ => Nat.blt i n
  | .r i _ _ _ => Nat.blt i n
  | .z i _ _ => Nat.blt i n
  | .m i => Nat.blt i n
  | .g cs => bdBL n cs
  | .t cs => bdBL n cs
  | .f _ a b => bdBL n a && bdBL n b
  | .e _ x => bdB n x
  | .q _ _ _ _ => true
  | .a _ _ => true
def bdBL (n : Nat) : List SV → Bool
  | [] => true
  | x :: l => bdB n x && bdBL n l
end
theorem blt_lt {i n : Nat} (h : Nat.blt i n = true) : i < n := by rw [Nat.blt, Nat.ble_eq] at h; exact h
mutual
theorem bdB_ok {n : Nat} : ∀ {x : SV}, bdB n x = true → bd (fun j => j < n) x
  | .v _, _ => by simp [bd]
  | .y _, _ => by simp [bd]
  | .p _ _, h => by simp only [bdB] at h; simp only [bd]; exact blt_lt h
  | .s _ _ _ _, h => by simp only [bdB] at h; simp only [bd]; exact blt_lt h
  | .r _ _ _ _, h => by simp only [bdB] at h; simp only [bd]; exact blt_lt h
  | .z _ _ _, h => by simp only [bdB] at h; simp only [bd]; exact blt_lt h
  | .m _, h => by simp only [bdB] at h; simp only [bd]; exact blt_lt h
  | .g cs, h => by simp only [bdB] at h; simp only [bd]; exact bdBL_ok h
  | .t cs, h => by simp only [bdB] at h; simp only [bd]; exact bdBL_ok h
  | .f _ a b, h => by simp only [bdB, Bool.and_eq_true] at h; simp only [bd]; exact ⟨bdBL_ok h.1, bdBL_ok h.2⟩
  | .e _ x, h => by simp only [bdB] at h; simp only [bd]; exact bdB_ok h
  | .q _ _ _ _, _ => by simp [bd]
  | .a _ _, _ => by simp [bd]
theorem bdBL_ok {n : Nat} : ∀ {l : List SV}, bdBL n l = true → bdL (fun j => j < n) l
  | [], _ => by simp [bdL]
  | x :: l, h => by simp only [bdBL, Bool.and_eq_true] at h; simp only [bdL]; exact ⟨bdB_ok h.1, bdBL_ok h.2⟩
end
/-- A box under new names: rows and single variables, no maps. -/
def renB (ns : List Nat) (b : Bx) : Bx := ⟨b.ty, renL ns b.cs, b.sz, b.mp, b.es⟩
theorem renL_length (ns : List Nat) : ∀ l : List SV, (renL ns l).length = l.length
  | [] => rfl
  | x :: l => by simp [renL, renL_length ns l]
def mkTr {α : Type} : List (Nat × α) → Tr α
  | [] => .leaf
  | q :: l => match tinyB q.1 with
    | true => (mkTr l).set q.1 (some q.2)
    | false => .leaf
theorem mkTr_mem {α : Type} : ∀ (l : List (Nat × α)) {i : Nat} {x : α}, (mkTr l).get i = some x → (i, x) ∈ l
  | [], i, x, h => by simp [mkTr, Tr.get_leaf] at h
  | q :: l, i, x, h => by
    unfold mkTr at h
    cases ht : tinyB q.1 with
    | false => rw [ht] at h; simp [Tr.get_leaf] at h
    | true =>
      rw [ht] at h
      simp only [Tr.get_set ht, setF] at h
      by_cases e : i = q.1
      · rw [if_pos e] at h
        simp only [Option.some.injEq] at h
        subst h
        rw [e]
        exact List.mem_cons_self ..
      · rw [if_neg e] at h
        exact List.mem_cons_of_mem _ (mkTr_mem l h)

/-! ### The parts of a run -/
/-- From here on the run ends as it should, wherever the names lie. -/
def Good (P : Program) (w0 : World) (Q : Exit → Act → World → Prop) (fr : Fr) (k : List SX.It) (st : St) : Prop :=
  ∀ B S a w, (∀ j, S j → j < st.m.nx) → Re w0 [] B st.m.K.get S w → Rf B fr S a → SX.post P k Q .normal a w
noncomputable def midF (P : Program) (kn : KnG) (n m : Nat) : Job → St → Option Ou :=
  Nat.rec (motive := fun _ => Job → St → Option Ou) (fun j st => match j with
    | .run fr k => some ⟨.mid fr k, st⟩
    | j => goF P kn n j st) (fun _ ih j st => match j with
    | .run fr k => stepF P kn ih (.run fr k) st
    | j => goF P kn n j st) m
theorem midF_eq (P : Program) (kn : KnG) (n : Nat) : ∀ m, midF P kn n m = midJ P kn drE (goJ P kn drE n) m
  | 0 => by
    funext j st
    cases j with
    | run fr k => rfl
    | call f args => exact congrFun (congrFun (goF_eq P kn n) (.call f args)) st
    | leave fr u => exact congrFun (congrFun (goF_eq P kn n) (.leave fr u)) st
    | dcall f args u => exact congrFun (congrFun (goF_eq P kn n) (.dcall f args u)) st
  | m + 1 => by
    funext j st
    cases j with
    | run fr k =>
      show stepF P kn (midF P kn n m) (.run fr k) st = stepJ P kn drE (midJ P kn drE (goJ P kn drE n) m) (.run fr k) st
      rw [stepF_eq, midF_eq P kn n m]
    | call f args => exact congrFun (congrFun (goF_eq P kn n) (.call f args)) st
    | leave fr u => exact congrFun (congrFun (goF_eq P kn n) (.leave fr u)) st
    | dcall f args u => exact congrFun (congrFun (goF_eq P kn n) (.dcall f args u)) st
/-- What is looked at where a run stops on the way. -/
def cutE (ts is : List Nat) : Option Ou → Option (FuncId × Nat × List Df × List SX.It × List (Option SV) × List (Option Bx) × List (Value × Value))
  | some ⟨.mid fr k, st⟩ => some (fr.f, fr.n, fr.D, k, ts.map fr.T.get, is.map st.m.K.get, st.cnd)
  | _ => none
theorem map_eq_mem {α β γ : Type} {f : α → β} {g : γ → α} {h : γ → β} : ∀ {l : List γ}, (l.map g).map f = l.map h → ∀ q ∈ l, f (g q) = h q
  | [], _, q, hq => by cases hq
  | a :: l, e, q, hq => by
    simp only [List.map_cons, List.cons.injEq] at e
    rcases List.mem_cons.1 hq with rfl | hq
    · exact e.1
    · exact map_eq_mem e.2 q hq
theorem nodup_at {ns : List Nat} (h : ns.Nodup) {i j : Nat} (hi : i < ns.length) (hj : j < ns.length) (e : nmO ns i = nmO ns j) : i = j := by
  unfold nmO at e
  have ei : ns.getD i 0 = ns[i] := by simp [List.getD, hi]
  have ej : ns.getD j 0 = ns[j] := by simp [List.getD, hj]
  rw [ei, ej] at e
  have hp := List.pairwise_iff_getElem.1 h
  rcases Nat.lt_trichotomy i j with g | g | g
  · exact absurd e (hp i j hi hj g)
  · exact g
  · exact absurd e.symm (hp j i hj hi g)
/-- One part: it stops where the slots tl and the boxes kl, under the names ns, are as written; what follows may forget all else. -/
theorem cut_mid {P : Program} {kn : KnG} (hkn : KnGOk P kn) (n m : Nat) {w0 : World} {Q : Exit → Act → World → Prop} {fr : Fr} {k k1 : List SX.It} {st : St} {f : FuncId} {nt : Nat} {cs : List (Value × Value)} (tl : List (Nat × SV)) (kl : List (Nat × Bx)) (ns : List Nat)
    (h : cutE (tl.map (·.1)) (kl.map fun q => nmO ns q.1) (midF P kn n m (.run fr k) st) = some (f, nt, [], k1, tl.map (fun q => some (ren ns q.2)), kl.map (fun q => some (renB ns q.2)), cs))
    (hc : ∀ q ∈ cs, q.1 = q.2) (hn : ns.Nodup) (hb : (tl.all (fun q => bdB ns.length q.2) && kl.all (fun q => Nat.blt q.1 ns.length && bdBL ns.length q.2.cs && !q.2.mp)) = true)
    (hg : Good P w0 Q ⟨f, nt, mkTr tl, []⟩ k1 ⟨⟨mkTr kl, ns.length, []⟩, [], []⟩) : Good P w0 Q fr k st := by
  unfold cutE at h
  split at h
  · rename_i fr1 k1' st1 h1
    simp only [Option.some.injEq, Prod.mk.injEq] at h
    obtain ⟨rfl, rfl, hD, rfl, hT, hK, rfl⟩ := h
    rw [midF_eq] at h1
    have s := midJ_sound hkn (drE_ok P) (goJ_sound hkn (drE_ok P) n) m _ _ _ h1
    intro B S a w hS R A
    refine s.2.2 hc w0 [] B S a w Q hS R A ?_
    intro B' a' w' g1 g2 R' A'
    simp only at R' A'
    simp only [Bool.and_eq_true, List.all_eq_true] at hb
    have hT' := map_eq_mem hT
    have hK' := map_eq_mem hK
    refine hg (fun i => B' (nmO ns i)) (fun j => j < ns.length) a' w' (fun j hj => hj) ⟨fun i b hib => ?_, fun i j ki kj hi hj he => ?_, fun i b hib => ?_, fun f hf => by simp at hf, R'.gr⟩ ⟨⟨A'.ra.sz, fun t x hx => ?_⟩, ?_, fun d hd => by simp at hd⟩
    · have hm := mkTr_mem kl hib
      have h2 := hK' _ hm
      have h3 := hb.2 _ hm
      simp only [Bool.not_eq_true'] at h3
      obtain ⟨q1, q2, rest, q3, q4⟩ := R'.bx _ _ h2
      refine ⟨blt_lt h3.1.1, ⟨bdBL_ok h3.1.2, fun e => by rw [h3.2] at e; cases e⟩, rest, ?_, ?_⟩
      · simp only [rowOk, renB, renL_length] at q3 ⊢
        exact q3
      · rw [q4, objOf_cells (by simp [renB]; exact h3.2), objOf_cells h3.2]
        simp only [renB, denL_ren]
    · have hi' := mkTr_mem kl hi
      have hj' := mkTr_mem kl hj
      have e := R'.nd _ _ _ _ (hK' _ hi') (hK' _ hj') he
      exact nodup_at hn (blt_lt (hb.2 _ hi').1.1) (blt_lt (hb.2 _ hj').1.1) e
    · exact R'.lo _ _ (hK' _ (mkTr_mem kl hib))
    · have hm := mkTr_mem tl hx
      have h2 := A'.ra.tm _ _ (hT' _ hm)
      exact ⟨by rw [h2.1, den_ren], bdB_ok (hb.1 _ hm)⟩
    · rw [A'.df, hD]; rfl
  · cases h
/-- The last part. -/
def endE (P : Program) (fn : Func) : Option Ou → Option (List Df × Option (List SV) × List (Value × Value))
  | some ⟨.fr fr .ret, st⟩ => some (fr.D, resE P fr.T st.m.K fn.results.toList, st.cnd)
  | _ => none
theorem cut_end {P : Program} {kn : KnG} (hkn : KnGOk P kn) (n : Nat) {w0 : World} {fr : Fr} {k : List SX.It} {st : St} {fn : Func} {v : Value} {cs : List (Value × Value)}
    (h : endE P fn (goF P kn n (.run fr k) st) = some ([], some [.v v], cs)) (hc : ∀ q ∈ cs, q.1 = q.2) :
    Good P w0 (bodyPostD P fn fun e w' => e = .returned v ∧ Below w0.heap.size w0 w') fr k st := by
  unfold endE at h
  split at h
  · rename_i fr1 st1 h1
    simp only [Option.some.injEq, Prod.mk.injEq] at h
    obtain ⟨hD, hr, rfl⟩ := h
    rw [goF_eq] at h1
    have s := goJ_sound hkn (drE_ok P) n _ _ _ h1
    intro B S a w hS R A
    refine s.2.2 hc w0 [] B S a w _ hS R A ?_
    intro B' a' w' g1 g2 R' A'
    simp only at R' A'
    have hfin : Leaves P fn a'.tmps (fun e w' => e = .returned v ∧ Below w0.heap.size w0 w') a'.defers .returning w' := by
      rw [A'.df, hD]
      obtain ⟨h2, h3⟩ := resE_run R' A'.ra hr
      refine ⟨_, h2, ?_, ⟨R'.gr.1.os, R'.gr.1.tape, R'.gr.1.output, R'.gr.1.size, fun k hk => R'.gr.1.block k hk (by simp)⟩⟩
      simp [oneOf, den]
    exact ⟨hfin, hfin⟩
  · cases h
/-- The whole of it. -/
theorem cut_all {P : Program} {f : FuncId} {fn : Func} {c : Code} {R : Ending → World → Prop} {w : World} (hf : P.funcs[f]? = some fn) (hb : fn.body = some c)
    (hg : Good P w (bodyPostD P fn R) (fr0 f fn []) [.code c] ⟨⟨.leaf, 0, []⟩, [], []⟩) (hfc : FcAt w) : Calls P f #[] w R := by
  refine calls_of_wp_defers hf hb ?_
  exact hg (fun _ => (0, 0)) (fun _ => False) _ w (fun _ h => h.elim) ⟨fun i k h => by simp [Tr.get_leaf] at h, fun i j ki kj h => by simp [Tr.get_leaf] at h, fun i k h => by simp [Tr.get_leaf] at h, fun f hf => by simp at hf, ⟨rfl, rfl, rfl, Nat.le_refl _, fun _ _ _ => rfl⟩, hfc⟩ (by
    have := fr0_ok (B := fun _ => (0, 0)) (f := f) (fn := fn) (args := []) (S := fun _ => False) (by simp [bdL])
    simpa [denL] using this)
end Go.Proofs.Ytmjfnlangebhlaa.EX
