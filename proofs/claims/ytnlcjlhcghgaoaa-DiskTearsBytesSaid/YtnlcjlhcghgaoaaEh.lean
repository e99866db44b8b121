
/-
  Runs by computation: the machine is sound.
-/
import Derived.Test.YtnlcjlhcghgaoaaEg
import Derived.Scope
namespace Go.Proofs.Ytnlcjlhcghgaoaa.EX
open Go Go.RowKit
set_option linter.unusedVariables false
set_option linter.unusedSimpArgs false
set_option linter.unusedSectionVars false
set_option maxRecDepth 10000
variable [FC]

def DrOk (P : Program) (dr : Dr) : Prop := ∀ ih, SpecAll P ih → ∀ fr ops st fr' st' px, dr P ih fr ops st = some (fr', st', px) → Sfx st st' ∧ fr'.f = fr.f ∧ (Tru st'.cnd → ∀ w0 F B S a w id (Q : Exit → Act → World → Prop),
  (∀ j, S j → j < st.m.nx) → Re w0 F B st.m.K.get S w → Rf B fr S a →
  (∀ B' a' w', Ag st.m.nx st'.m.nx B B' → st.m.nx ≤ st'.m.nx → Re w0 F B' st'.m.K.get (ext S st.m.nx st'.m.nx) w' → Rf B' fr' (ext S st.m.nx st'.m.nx) a' → match px with
    | none => Q .normal a' w'
    | some x => bd (ext S st.m.nx st'.m.nx) x → Q (.panic (chn B' false x)) a' w') → (Code.region id ops true).wp P Q a w)
section
variable {P : Program} {kn : KnG} {dr : Dr} {ih : Job → St → Option Ou} {w0 : World} {F : List RF} {B : Pl} {S : Nat → Prop} {a : Act} {w : World} {st : St} {o : Ou} {fr : Fr}
theorem run_go {fr1 : Fr} {k1 : List SX.It} {st1 : St} {B1 : Pl} {a1 : Act} {w1 : World} {Q : Exit → Act → World → Prop} (h : Spec P (.run fr1 k1) st1 o) (tr : Tru o.st.cnd) (hS : ∀ j, S j → j < st.m.nx) (hle : st.m.nx ≤ st1.m.nx) (hag : Ag st.m.nx st1.m.nx B B1)
    (R1 : Re w0 F B1 st1.m.K.get (ext S st.m.nx st1.m.nx) w1) (A1 : Rf B1 fr1 (ext S st.m.nx st1.m.nx) a1) (hf : RunFin P st o w0 F B S Q) : SX.post P k1 Q .normal a1 w1 := by
  refine h.2.2 tr w0 F B1 (ext S st.m.nx st1.m.nx) a1 w1 Q (ext_lt hS hle) R1 A1 ?_
  intro B' a' w' g1 g2 g3
  rw [ext_ext hle g2] at g3 ⊢
  exact hf B' a' w' (hag.trans g1 hle g2) (Nat.le_trans hle g2) g3
theorem run_same {fr1 : Fr} {k1 : List SX.It} {st1 : St} {a1 : Act} {Q : Exit → Act → World → Prop} (h : Spec P (.run fr1 k1) st1 o) (tr : Tru o.st.cnd) (hS : ∀ j, S j → j < st.m.nx) (hm : st1.m = st.m)
    (R1 : Re w0 F B st.m.K.get S w) (A1 : Rf B fr1 S a1) (hf : RunFin P st o w0 F B S Q) : SX.post P k1 Q .normal a1 w := by
  refine run_go (st := st) h tr hS (by rw [hm]; exact Nat.le_refl _) (Ag.refl _ _ _) ?_ ?_ hf
  · rw [hm, ext_self]; exact R1
  · rw [hm, ext_self]; exact A1
theorem castF_ok {c : Operand} {b : Bool} {v : SV} (A : Rf B fr S a) (hc : rho fr.T c = some v) (hv : den B v = .bool b) : Rf B (castF fr c b) S a := by
  unfold castF
  split
  · rename_i t
    have h1 := (A.ra.tm t v hc).1
    have := A.put (some t) (x := .v (.bool b)) (by simp [bd])
    simp only [den] at this
    rw [hv] at h1
    rw [Act.put_self h1] at this
    exact this
  · exact A
theorem ended_ok {fn : Func} {u : Md} {e : Option Ou} (h : ended P fn u e = some o) : ∃ fr st, e = some ⟨.fr fr .ret, st⟩ ∧ fr.D = [] ∧ (∃ ys, resE P fr.T st.m.K fn.results.toList = some ys) ∧ o = ⟨.md u, st⟩ := by
  unfold ended at h
  split at h
  · rename_i fr st
    split at h
    · rename_i ys hD hr
      simp only [Option.some.injEq] at h
      exact ⟨fr, st, rfl, hD, ⟨ys, hr⟩, h.symm⟩
    · cases h
  · cases h
theorem endedR_ok {fn : Func} {u : Md} {e : Option Ou} (h : endedR P fn u e = some o) : ∃ fr st, fr.D = [] ∧ ((e = some ⟨.fr fr .ret, st⟩ ∧ (∃ ys, resE P fr.T st.m.K fn.results.toList = some ys) ∧ o = ⟨.md u, st⟩) ∨
    ∃ x, e = some ⟨.fr fr (.pan x), st⟩ ∧ ((∃ y, u = .rcv y ∧ o = ⟨.md (.pan (joinP x y)), st⟩) ∨ (u = .ret ∧ o = ⟨.md (.pan x), st⟩))) := by
  unfold endedR at h
  split at h
  · rename_i fr st
    split at h
    · rename_i ys hD hr
      simp only [Option.some.injEq] at h
      exact ⟨fr, st, hD, Or.inl ⟨rfl, ⟨ys, hr⟩, h.symm⟩⟩
    · cases h
  · rename_i fr x st
    split at h
    · rename_i y hD
      simp only [Option.some.injEq] at h
      exact ⟨fr, st, hD, Or.inr ⟨x, rfl, Or.inl ⟨y, rfl, h.symm⟩⟩⟩
    · rename_i hD
      simp only [Option.some.injEq] at h
      exact ⟨fr, st, hD, Or.inr ⟨x, rfl, Or.inr ⟨rfl, h.symm⟩⟩⟩
    · cases h
  · cases h
theorem wantE_skip {T : Tr SV} {n : Nat} {a : Act} (A : Ra B T.get n S a) (d : Option Nat) : Ra B (putT n T d (.v undef)).get n S (a.put d undef) := by
  have := A.putT d (x := .v undef) (by simp [bd])
  simpa [den] using this
theorem loop_ok {c : Code} {k : List SX.It} {Q : Exit → Act → World → Prop} (n : Nat) (hp : SX.post P (.rnd n c :: k) Q .normal a w) : SX.post P (.code (.loop c) :: k) Q .normal a w := wp_loop_rounds n hp
theorem whole_ok {e : Option Ou} (h : whole e = some o) : e = some o ∧ ∀ fr k s, o ≠ ⟨.mid fr k, s⟩ := by
  unfold whole at h
  split at h
  · cases h
  · rename_i hn
    exact ⟨h, fun fr k s e' => hn fr k s (by rw [h, e'])⟩
theorem post_goto {Q : Exit → Act → World → Prop} {l : Nat} {a : Act} {w : World} : ∀ k : List SX.It, SX.post P k Q (.goto l) a w → Q (.goto l) a w
  | [], h => h
  | .code c :: k, h => post_goto k h
  | .ops _ _ :: k, h => post_goto k h
  | .blk _ :: k, h => post_goto k h
  | .rnd _ _ :: k, h => post_goto k h
theorem then_mono {N N' : Act → World → Prop} {Q Q' : Exit → Act → World → Prop} (hn : ∀ a w, N a w → N' a w) (hq : ∀ e a w, Q e a w → Q' e a w) : ∀ e a w, Exit.then N Q e a w → Exit.then N' Q' e a w := by
  intro e a w h
  cases e <;> first | exact hn _ _ h | exact hq _ _ _ h
theorem rounds_mono {c : Code} {Q Q' : Exit → Act → World → Prop} (hq : ∀ e a w, Q e a w → Q' e a w) : ∀ n a w, Code.rounds P c Q n a w → Code.rounds P c Q' n a w
  | 0, a, w, h => h
  | n + 1, a, w, h => Go.wp_mono h (then_mono (rounds_mono hq n) hq)
theorem post_mono {Q Q' : Exit → Act → World → Prop} (hq : ∀ e a w, Q e a w → Q' e a w) : ∀ k : List SX.It, noOps k = true → ∀ e a w, SX.post P k Q e a w → SX.post P k Q' e a w
  | [], _, e, a, w, h => hq e a w h
  | .code c :: k, hk, e, a, w, h => then_mono (fun _ _ h => Go.wp_mono h (post_mono hq k hk)) (post_mono hq k hk) e a w h
  | .ops _ _ :: k, hk, e, a, w, h => by simp [noOps] at hk
  | .blk id :: k, hk, e, a, w, h => by
    have ih := post_mono hq k hk
    cases e with
    | exit id' =>
      show Exit.inBlock id _ _ _ _
      have h' : Exit.inBlock id (SX.post P k Q) (.exit id') a w := h
      simp only [Exit.inBlock] at h' ⊢
      split at h'
      · rename_i hi; rw [if_pos hi]; exact ih _ _ _ h'
      · rename_i hi; rw [if_neg hi]; exact ih _ _ _ h'
    | _ => exact ih _ _ _ h
  | .rnd n c :: k, hk, e, a, w, h => then_mono (fun _ _ h => rounds_mono (post_mono hq k hk) n _ _ h) (post_mono hq k hk) e a w h
/-- A scope through which a run goes without a jump. -/
theorem scope_ok {c : Code} {k : List SX.It} (hk : noOps k = true) {Q : Exit → Act → World → Prop} {a : Act} {w : World} (h : SX.post P (.code c :: k) (Exit.noGoto Q) .normal a w) : SX.post P (.code (.scope c) :: k) Q .normal a w := by
  have h' : c.wp P (SX.post P k (Exit.noGoto Q)) a w := h
  refine wp_scope_straight (Go.wp_mono h' ?_)
  intro e a w h
  have hm : ∀ e a w, SX.post P k (Exit.noGoto Q) e a w → SX.post P k Q e a w := post_mono (fun e a w h => by cases e <;> first | exact h | exact h.elim) k hk
  cases e with
  | goto l => exact post_goto (Q := Exit.noGoto Q) k h
  | _ => exact hm _ _ _ h
theorem step_run (hdr : DrOk P dr) (hih : SpecAll P ih) {k : List SX.It} (h : stepJ P kn dr ih (.run fr k) st = some o) : Spec P (.run fr k) st o := by
  unfold stepJ at h
  simp only at h
  have pass : ∀ {k k1 : List SX.It}, ih (.run fr k1) st = some o → (∀ Q a w, SX.post P k1 Q .normal a w → SX.post P k Q .normal a w) → Spec P (.run fr k) st o := by
    intro k k1 h1 hp
    have s1 := hih _ _ _ h1
    exact ⟨s1.1, s1.2.1, fun tr w0 F B S a w Q hS R A hf => hp _ _ _ (run_same s1 tr hS rfl R A hf)⟩
  have done : ∀ {k : List SX.It}, o = ⟨.fr fr .ret, st⟩ → (∀ Q a w, Q .ret a w → Q .normal a w → SX.post P k Q .normal a w) → Spec P (.run fr k) st o := by
    rintro k rfl hp
    refine ⟨Sfx.refl _, rfl, fun tr w0 F B S a w Q hS R A hf => ?_⟩
    obtain ⟨h1, h2⟩ := hf B a w (Ag.refl _ _ _) (Nat.le_refl _) (by rw [ext_self]; exact R) (by rw [ext_self]; exact A)
    exact hp Q a w h1 h2
  match k, h with
  | [], h => simp only [Option.some.injEq] at h; exact done h.symm fun Q a w h1 h2 => h2
  | .ops all [] :: k, h => exact pass h fun Q a w hp => hp
  | .ops all (op :: l) :: k, h =>
    simp only at h
    cases hw : wantE fr.n fr.T all op st with
    | none => rw [hw] at h; cases h
    | some q =>
      obtain ⟨b, T, st1⟩ := q
      rw [hw] at h
      obtain ⟨hm1, hsf1, hwant⟩ := wantE_ok hw
      cases b with
      | false =>
        simp only at h
        have s1 := hih _ _ _ h
        refine ⟨hsf1.trans s1.1, s1.2.1, fun tr w0 F B S a w Q hS R A hf => ?_⟩
        obtain ⟨A1, hwa⟩ := hwant (s1.1.tru tr) B S a A.ra
        show wpList P all (SX.post P k Q) (op :: l) a w
        refine wpList_step fun K hK => ?_
        rw [hwa]
        simp only [Bool.false_eq_true, if_false]
        refine hK _ _ ?_
        have A2 : Rf B (Fr.mk fr.f fr.n T fr.D) S a := ⟨A1, A.df, A.db⟩
        have A3 := A2.put op.dst (x := .v undef) (by simp [bd])
        simp only [den] at A3
        exact run_same s1 tr hS hm1 R A3 hf
      | true =>
        simp only at h
        cases hr : opR P ih (rho T) st1 op with
        | none => rw [hr] at h; cases h
        | some q =>
          obtain ⟨r, st2⟩ := q
          rw [hr] at h
          have hok := opR_sound hih hr
          cases r with
          | val x =>
            simp only at h
            generalize hcast : castO fr.f op.dst x st2 = qc at h
            obtain ⟨x', st3⟩ := qc
            simp only at h
            obtain ⟨c1, c2, c3, c4⟩ := castO_ok hcast
            have s1 := hih _ _ _ h
            refine ⟨((hsf1.trans hok.1).trans c2).trans s1.1, s1.2.1, fun tr w0 F B S a w Q hS R A hf => ?_⟩
            have tr3 := s1.1.tru tr
            have tr2 := c2.tru tr3
            obtain ⟨A1, hwa⟩ := hwant (hok.1.tru tr2) B S a A.ra
            have A2 : Rf B (Fr.mk fr.f fr.n T fr.D) S a := ⟨A1, A.df, A.db⟩
            show wpList P all (SX.post P k Q) (op :: l) a w
            refine wpList_step fun K hK => ?_
            rw [hwa, if_pos rfl]
            refine hok.2 tr2 w0 F B S a w K (SX.post P k Q) (by rw [hm1]; exact hS) (by rw [hm1]; exact R) (rho_ok A1) ?_
            intro B' w' g1 g2 g3 g4
            rw [hm1] at g1 g2 g3 g4
            refine hK _ _ ?_
            rw [← c3 tr3 B']
            have g4' := c4 _ g4
            rw [← c1] at g1 g2 g3 g4'
            have A3 := (A2.ag (g1.on hS) ext_sub).put op.dst g4'
            exact run_go (st := st) s1 tr hS g2 g1 g3 A3 hf
          | dfr d =>
            simp only at h
            have s1 := hih _ _ _ h
            refine ⟨(hsf1.trans hok.1).trans s1.1, s1.2.1, fun tr w0 F B S a w Q hS R A hf => ?_⟩
            have tr2 := s1.1.tru tr
            obtain ⟨A1, hwa⟩ := hwant (hok.1.tru tr2) B S a A.ra
            show wpList P all (SX.post P k Q) (op :: l) a w
            refine wpList_step fun K hK => ?_
            rw [hwa, if_pos rfl]
            refine hok.2 tr2 w0 F B S a w K (SX.post P k Q) (by rw [hm1]; exact hS) (by rw [hm1]; exact R) (rho_ok A1) ?_
            intro hm2 hd
            refine hK _ _ ?_
            have A2 : Rf B (Fr.mk fr.f fr.n T (d :: fr.D)) S { a with defers := denD B d :: a.defers } := ⟨⟨A1.sz, A1.tm⟩, by simp [A.df], fun d' hd' => by
              rcases List.mem_cons.1 hd' with rfl | hd'
              · exact hd
              · exact A.db d' hd'⟩
            have A3 := A2.put op.dst (x := .v undef) (by simp [bd])
            simp only [den] at A3
            exact run_same s1 tr hS (hm2.trans hm1) R A3 hf
          | pan x =>
            simp only [Option.some.injEq] at h
            subst h
            refine ⟨hsf1.trans hok.1, rfl, fun tr w0 F B S a w Q hS R A hf => ?_⟩
            obtain ⟨A1, hwa⟩ := hwant (hok.1.tru tr) B S a A.ra
            have A2 : Rf B (Fr.mk fr.f fr.n T fr.D) S a := ⟨A1, A.df, A.db⟩
            show wpList P all (SX.post P k Q) (op :: l) a w
            refine wpList_step fun K hK => ?_
            rw [hwa, if_pos rfl]
            refine hok.2 tr w0 F B S a w K (SX.post P k Q) (by rw [hm1]; exact hS) (by rw [hm1]; exact R) (rho_ok A1) ?_
            intro B' w' g1 g2 g3 g4
            rw [hm1] at g1 g2 g3 g4
            refine SX.panic_sound ?_ k
            exact hf B' a w' g1 g2 g3 (A2.ag (g1.on hS) ext_sub) g4
  | .blk id :: k, h => exact pass h fun Q a w hp => hp
  | .rnd n c :: k, h =>
    cases n with
    | zero => cases h
    | succ n => exact pass h fun Q a w hp => hp
  | .code c :: k, h =>
    match c, h with
    | .skip, h => exact pass h fun Q a w hp => wp_skip hp
    | .seq x y, h => exact pass h fun Q a w hp => wp_seq hp
    | .block id c, h => exact pass h fun Q a w hp => wp_block hp
    | .loop c, h => exact pass h fun Q a w hp => loop_ok _ hp
    | .exit id, h =>
      simp only at h
      cases hu : SX.unw id k with
      | none => rw [hu] at h; cases h
      | some k' =>
        rw [hu] at h
        exact pass h fun Q a w hp => wp_exit (SX.unw_sound k hu hp)
    | .region id ops false, h => exact pass h fun Q a w hp => wp_region_list hp
    | .region id ops true, h =>
      simp only at h
      cases hd : dr P ih fr ops st with
      | none => rw [hd] at h; cases h
      | some q =>
        obtain ⟨fr', st', px⟩ := q
        rw [hd] at h
        obtain ⟨d1, d2, d3⟩ := hdr ih hih _ _ _ _ _ _ hd
        cases px with
        | some x =>
          simp only [Option.some.injEq] at h
          subst h
          refine ⟨d1, by unfold RunKind; exact d2, fun tr w0 F B S a w Q hS R A hf => ?_⟩
          exact d3 tr w0 F B S a w id (SX.post P k Q) hS R A fun B' a' w' g1 g2 g3 g4 g5 => SX.panic_sound (hf B' a' w' g1 g2 g3 g4 g5) k
        | none =>
        simp only at h
        have s1 := hih _ _ _ h
        refine ⟨d1.trans s1.1, by have hk : RunKind fr' o := s1.2.1; unfold RunKind at hk; rw [d2] at hk; exact hk, fun tr w0 F B S a w Q hS R A hf => ?_⟩
        exact d3 (s1.1.tru tr) w0 F B S a w id (SX.post P k Q) hS R A fun B' a' w' g1 g2 g3 g4 => run_go (st := st) s1 tr hS g2 g1 g3 g4 hf
    | .cond c x y, h =>
      simp only at h
      cases hc : rho fr.T c with
      | none => rw [hc] at h; cases h
      | some v =>
        rw [hc] at h
        simp only at h
        have go : ∀ (b : Bool) (st' : St), askB v st = some (b, st') → ih (.run (castF fr c b) (.code (if b then x else y) :: k)) st' = some o → Spec P (.run fr (.code (.cond c x y) :: k)) st o := by
          intro b st' ha h
          obtain ⟨h1, h2, h3⟩ := askB_ok ha
          have s1 := hih _ _ _ h
          refine ⟨h2.trans s1.1, by have hk : RunKind (castF fr c b) o := s1.2.1; unfold RunKind at hk; have e : (castF fr c b).f = fr.f := by unfold castF; split <;> rfl
                                    rw [e] at hk; exact hk, fun tr w0 F B S a w Q hS R A hf => ?_⟩
          have hv := h3 (s1.1.tru tr) B
          have he := (rho_ok A.ra c v hc).1
          exact wp_cond (he.trans hv) (run_same s1 tr hS h1 R (castF_ok A hc hv) hf)
        split at h
        · rename_i st' ha; exact go true st' ha h
        · rename_i st' ha; exact go false st' ha h
        · cases h
    | .ret, h => simp only [Option.some.injEq] at h; exact done h.symm fun Q a w h1 h2 => wp_ret (SX.ret_sound h1 k)
    | .goto l, h => simp at h
    | .label l, h => exact pass h fun Q a w hp => wp_label hp
    | .rangeFunc _ _ _ _, h => simp at h
    | .scope c, h =>
      simp only at h
      cases hk : noOps k with
      | false => rw [hk] at h; cases h
      | true =>
        rw [hk] at h
        simp only at h
        obtain ⟨h, hmid⟩ := whole_ok h
        have s1 := hih _ _ _ h
        refine ⟨s1.1, s1.2.1, fun tr w0 F B S a w Q hS R A hf => ?_⟩
        have h5 : SX.post P (.code c :: k) (Exit.noGoto Q) .normal a w := run_same s1 tr hS rfl R A fun B' a' w' g1 g2 g3 => by
          have h6 := hf B' a' w' g1 g2 g3
          revert h6
          obtain ⟨e, s⟩ := o
          cases e with
          | fr fr' u => cases u <;> exact fun h => h
          | mid fr' k' => exact absurd rfl (hmid fr' k' s)
          | _ => exact fun h => h
        exact scope_ok hk h5
    | .refuse _, h => simp at h
end
end Go.Proofs.Ytnlcjlhcghgaoaa.EX
