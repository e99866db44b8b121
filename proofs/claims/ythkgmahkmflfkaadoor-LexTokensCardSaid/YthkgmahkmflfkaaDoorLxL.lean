
/-
  Layer 4: LexTokens.
-/
import Derived.Test.YthkgmahkmflfkaaDoorRows
import Derived.Test.YthkgmahkmflfkaaDoorBase
import Derived.Test.YthkgmahkmflfkaaDoorLxE
import Derived.Test.YthkgmahkmflfkaaDoorLxK
import Derived.WalkKit
namespace Go.Proofs.YthkgmahkmflfkaaDoor
open Go Go.RowKit SZ
set_option linter.unusedVariables false
set_option linter.unusedSimpArgs false
set_option maxRecDepth 100000
attribute [local irreducible] post GD Nxt NxtAll
/-- What one token tells. -/
structure tkG (t : Tk) : Prop where
  one : lexW t.2.1 0 = some [(t.1, t.2.1, t.2.2.1, 0)]
  b : ∀ x ∈ t.2.1, x < 256
  l : t.2.1.length ≤ 600
  n : t.2.2.1 ≤ 1099511627776
  z : t.1 ≠ 2 → t.2.2.1 = 0
  o : t.2.2.2 ≤ 600
/-- Two signs that follow each other directly. -/
def tkJ (p t : Tk) : Prop := p.1 = 3 → t.1 = 3 → t.2.2.2 = p.2.2.2 + 1 → p.2.1.length = 1 ∧ lexW (p.2.1 ++ t.2.1) 0 = some [(3, p.2.1, 0, 0), (3, t.2.1, 0, 1)]
theorem tok_n {l : List Nat} {t : Nat × List Nat × Nat} (h : tokL l = some t) : t.2.2 ≤ 1099511627776 ∧ (t.1 ≠ 2 → t.2.2 = 0) ∧ (t.1 = 3 → t.2.1 = fstP l sgL ∧ t.2.2 = 0) := by
  match l, h with
  | c :: r, h =>
    rw [tokL_cc] at h
    by_cases h1 : lettB c = true
    · rw [if_pos h1] at h
      split at h
      · simp only [Option.some.injEq] at h
        subst h
        exact ⟨Nat.zero_le _, fun _ => rfl, fun h => by cases h⟩
      · cases h
    · rw [if_neg h1] at h
      by_cases h2 : digB c = true
      · rw [if_pos h2] at h
        split at h
        · next hn =>
          simp only [Option.some.injEq] at h
          subst h
          have hk := hn.1
          unfold nOk at hk
          simp only [Bool.and_eq_true, decide_eq_true_eq] at hk
          exact ⟨hk.2, fun h => absurd rfl h, fun h => by cases h⟩
        · cases h
      · rw [if_neg h2] at h
        split at h
        · cases h
        · simp only [Option.some.injEq] at h
          subst h
          exact ⟨Nat.zero_le _, fun _ => rfl, fun _ => ⟨rfl, rfl⟩⟩
theorem fst_two {x rest : List Nat} (hx : 2 ≤ x.length) : ∀ r : List (List Nat), (∀ m ∈ r, m.length ≤ 2) → fstP (x ++ rest) r = fstP x r
  | [], _ => rfl
  | m :: r, h => by
    have ih := fst_two (rest := rest) hx r fun q hq => h q (by simp [hq])
    have h1 := h m (by simp)
    unfold fstP
    rw [List.take_append_of_le_length (by omega), ih]
theorem sgL_2 : ∀ m ∈ sgL, m.length ≤ 2 := by decide
theorem at_of {l : List Nat} : ∀ (f a : Nat) (ts : List Tk), a ≤ l.length → lexF f (l.drop a) a = some ts → ∀ t ∈ ts, tokL (l.drop t.2.2.2) = some (t.1, t.2.1, t.2.2.1)
  | 0, a, ts, ha, h, t, ht => by
    have h : some [] = some ts := h
    cases h
    cases ht
  | f + 1, a, ts, ha, h, t, ht => by
    by_cases hal : a < l.length
    · have hd : l.drop a = l[a] :: l.drop (a + 1) := List.drop_eq_getElem_cons hal
      rw [hd] at h
      unfold lexF at h
      split at h
      · exact at_of f (a + 1) ts (by omega) h t ht
      · cases hk : tokL (l[a] :: l.drop (a + 1)) with
        | none => rw [hk] at h; cases h
        | some tk =>
          rw [hk] at h
          simp only at h
          obtain ⟨q, hq, hq2⟩ := Option.map_eq_some_iff.1 h
          subst hq2
          have k4 := tokL_len hk
          rw [← hd] at hq hk k4
          rw [List.length_drop] at k4
          rw [List.drop_drop] at hq
          rcases List.mem_cons.1 ht with rfl | ht
          · exact hk
          · exact at_of f (a + tk.2.1.length) q (by omega) hq t ht
    · have hd : l.drop a = [] := List.drop_eq_nil_of_le (by omega)
      rw [hd] at h
      have h : some [] = some ts := h
      cases h
      cases ht
theorem off_ix {l : List Nat} : ∀ (ts : List Tk) (a : Nat), offP l a ts → ∀ i, i < ts.length → (1 ≤ (ts.getD i tk0).2.1.length ∧ (ts.getD i tk0).2.2.2 + (ts.getD i tk0).2.1.length ≤ l.length ∧ (l.drop (ts.getD i tk0).2.2.2).take (ts.getD i tk0).2.1.length = (ts.getD i tk0).2.1) ∧ (i + 1 < ts.length → (ts.getD i tk0).2.2.2 + (ts.getD i tk0).2.1.length ≤ (ts.getD (i + 1) tk0).2.2.2)
  | t :: r, a, h, 0, _ => by
    obtain ⟨h1, h2, h3, h4, h5, h6⟩ := h
    refine ⟨⟨h3, h2, h4⟩, fun q => ?_⟩
    match r, h6, q with
    | u :: r, h6, q => exact h6.1
  | t :: r, a, h, i + 1, hi => by
    have ih := off_ix r _ h.2.2.2.2.2 i (by simpa using hi)
    exact ⟨ih.1, fun q => ih.2 (by simpa using q)⟩
theorem all_G {l : List Nat} (hl6 : l.length ≤ 600) {ts : List Tk} (h : lexW l 0 = some ts) : ∀ i, i < ts.length → tkG (ts.getD i tk0) ∧ (i + 1 < ts.length → tkJ (ts.getD i tk0) (ts.getD (i + 1) tk0)) := by
  have ho : offP l 0 ts := off_of l.length 0 ts (Nat.zero_le _) (by rw [List.drop_zero]; exact Nat.le_refl _) (by rw [List.drop_zero]; exact h)
  have hat := at_of l.length 0 ts (Nat.zero_le _) (by rw [List.drop_zero]; exact h)
  obtain ⟨hgd, hsum⟩ := lexF_good l.length l 0 ts h
  intro i hi
  have hm := getD_mem ts i tk0 hi
  obtain ⟨⟨o1, o2, o3⟩, o4⟩ := off_ix ts 0 ho i hi
  have ht := hat _ hm
  have hn := tok_n ht
  refine ⟨⟨lex_one (hgd _ hm), fun x hx => ?_, by omega, hn.1, hn.2.1, by omega⟩, fun hj h1 h2 h3 => ?_⟩
  · have := (tokL_is ht).2.2 x hx
    omega
  · have hm2 := getD_mem ts (i + 1) tk0 hj
    obtain ⟨⟨p1, p2, p3⟩, p4⟩ := off_ix ts 0 ho (i + 1) hj
    have ht2 := hat _ hm2
    have hn2 := tok_n ht2
    have hle := o4 hj
    have e1 : (ts.getD i tk0).2.1.length = 1 := by omega
    refine ⟨e1, ?_⟩
    obtain ⟨s, hs⟩ : ∃ s, (ts.getD i tk0).2.1 = s := ⟨_, rfl⟩
    obtain ⟨u, hu⟩ : ∃ u, (ts.getD (i + 1) tk0).2.1 = u := ⟨_, rfl⟩
    obtain ⟨A, hA⟩ : ∃ A, (ts.getD i tk0).2.2.2 = A := ⟨_, rfl⟩
    have f1 := (hn.2.2 h1).1
    have f2 := (hn.2.2 h1).2
    have f4 := (hn2.2.2 h2).2
    have hg2 : tokL (ts.getD (i + 1) tk0).2.1 = some ((ts.getD (i + 1) tk0).1, (ts.getD (i + 1) tk0).2.1, (ts.getD (i + 1) tk0).2.2.1) := by
      have q := (tok_re ht2).2 [] (Or.inl rfl)
      rw [List.append_nil] at q
      exact q
    have hh2 := (tok_re ht2).1
    have hh1 := (tok_re ht).1
    simp only at f1 f2 f4 hh2 hh1
    rw [h3, hA, hu] at p3
    rw [hA, hs] at o3
    rw [h2, hu, f4] at hg2
    rw [hs, hA] at f1
    rw [hu] at hh2 p1 ⊢
    rw [hs] at hh1 e1 ⊢
    have hd : l.drop A = s ++ (u ++ (l.drop (A + 1)).drop u.length) := by
      have q1 := List.take_append_drop s.length (l.drop A)
      rw [o3, e1, List.drop_drop] at q1
      have q2 := List.take_append_drop u.length (l.drop (A + 1))
      rw [p3] at q2
      rw [q2, q1]
    rw [hd, ← List.append_assoc, fst_two (by rw [List.length_append]; omega) sgL sgL_2] at f1
    obtain ⟨c, r, hc, hsp⟩ := hh1
    have hr : r = [] := by
      rw [hc] at e1
      simpa using e1
    subst hr
    subst hc
    obtain ⟨c2, r2, hc2, hsp2⟩ := hh2
    have hsg : fstP ([c] ++ u) sgL ∈ sgL := (fstP_mem _ _).resolve_left (by rw [← f1]; simp)
    rw [← f1] at hsg
    obtain ⟨k1, k2, k3, k4⟩ := sgL_hd _ hsg
    have k1 : lettB c = false := k1
    have k2 : digB c = false := k2
    have htk : tokL (c :: u) = some (3, [c], 0) := by
      rw [tokL_cc, if_neg (by rw [k1]; decide), if_neg (by rw [k2]; decide)]
      have f1 : [c] = fstP (c :: u) sgL := f1
      rw [← f1, if_neg (by simp)]
    rw [List.cons_append, List.nil_append, lexW_tok hsp, htk]
    simp only [List.length_singleton, List.drop_succ_cons, List.drop_zero]
    rw [hc2] at hg2 ⊢
    rw [lexW_tok hsp2, hg2]
    simp only [List.drop_length]
    rfl
theorem tk_eql (a b : Tk) (ha : ∀ x ∈ a.2.1, x < 256) (hb : ∀ x ∈ b.2.1, x < 256) (w : World) : (binOp .eql 30 (tkA a) (tkA b)).run Tryd.prog w = .ok (.bool (decide (a = b))) w := by
  unfold tkA
  rw [run_eql_struct, show (10000 : Nat) = 9999 + 1 from rfl, run_equalIn_agg w 9999 30 _ _ tk_struct tk_held]
  have u3 := Tryd.underlying3
  have a3 := Tryd.isAgg3
  have z3 := Tryd.sizeOf3
  have u9 := Tryd.underlying9
  have a9 := Tryd.isAgg9
  have z9 := Tryd.sizeOf9
  simp only [Program.fieldsOf, Tryd.underlying30]
  go_simp
  have hs := str_eq ha hb
  obtain ⟨a1, a2, a3, a4⟩ := a
  obtain ⟨b1, b2, b3, b4⟩ := b
  simp only at hs
  simp only [Prod.mk.injEq] at *
  by_cases h1 : a1 = b1 <;> by_cases h2 : a2 = b2 <;> by_cases h3 : a3 = b3 <;> by_cases h4 : a4 = b4 <;> simp_all <;> omega
theorem ex_eqT {s : SS} {bs : List Nat} {x y : Operand} {t' ty : TypeId} {p q : Tk} {b : Bool} (hp : ∀ x ∈ p.2.1, x < 256) (hq : ∀ x ∈ q.2.1, x < 256) (hx : s.val x = some (.v (tkA p))) (hy : s.val y = some (.v (tkA q))) (hb : decide (p = q) = b) :
    ∀ (o : Oper) (ρ : Operand → Value) (W : World), o.op = .binOp .eql 30 x y t' → o.type = ty → (∀ x y, s.val x = some y → ρ x = den bs y) → (execOp ρ o).run Tryd.prog W = .ok (.value (.bool b)) W := by
  intro o ρ W h1 h2 h3
  have e1 : ρ x = tkA p := h3 x _ hx
  have e2 : ρ y = tkA q := h3 y _ hy
  subst hb
  have hg : ∀ W, (eqGuard .eql 30 x y (tkA p) (tkA q)).run Tryd.prog W = .ok () W := fun W => run_eqGuard_agg W .eql 30 x y _ _ tk_guard
  have hr : ∀ W, (binOp .eql 30 (tkA p) (tkA q)).run Tryd.prog W = .ok (.bool (decide (p = q))) W := fun W => tk_eql p q hp hq W
  unfold execOp
  simp only [h1, e1, e2, hg, hr, Sem.run_bind, Sem.run_pure, Result.andThen_ok]
theorem ex_sub1 {s : SS} {bs : List Nat} {x y : Operand} {t t' ty : TypeId} {i : Nat} (hx : s.val x = some (.v (.int .i64 (i : Int)))) (hy : s.val y = some (.v (.int .i64 1))) (h1 : 1 ≤ i) (h2 : i ≤ 100000) :
    ∀ (o : Oper) (ρ : Operand → Value) (W : World), o.op = .binOp .sub t x y t' → o.type = ty → (∀ x y, s.val x = some y → ρ x = den bs y) → (execOp ρ o).run Tryd.prog W = .ok (.value (.int .i64 ((i - 1 : Nat) : Int))) W := by
  intro o ρ W h3 h4 h5
  have e1 : ρ x = .int .i64 (i : Int) := h5 x _ hx
  have e2 : ρ y = .int .i64 1 := h5 y _ hy
  have hw : IntKind.i64.wrap ((i : Int) - 1) = ((i - 1 : Nat) : Int) := by rw [IntKind.wrap_i64]; omega
  unfold execOp
  simp only [h3, e1, e2, eqGuard, binOp_sub, Op.intArith, hw, Sem.run_bind, Sem.run_pure, Result.andThen_ok]
  rfl
noncomputable def ltC : Cfg := ⟨goZ 200 [0] [.code (bodyOf Tryd.f8)], ⟨0, [], []⟩⟩
noncomputable def lt15 (m : Nat) : List It := goM 200 6 [1, 0, 0] (.code (bodyL ltC) :: .rnd m (bodyL ltC) :: ltC.k.tail)
noncomputable def ltS (n : Nat) (q : Option Addr) (k c : Nat) (e : Int) (i : Nat) : SS := ⟨190, [(1, .v (.int .u64 (n : Int))), (5, .v (.bool true)), (6, .v (.slice q k c)), (7, .v (.int .i64 e)), (8, .v (.int .i64 (i : Int)))], []⟩
set_option maxHeartbeats 8000000 in
theorem lt_e (w0 : World) (n : Nat) (hn : n < 18446744073709551616) (ts : List Tk) (q : Option Addr) (c b : Nat) (hq : ts.length = 0 ∨ q = some ⟨b, 0, none⟩) (htl : ts.length ≤ 600) (hG : ∀ i, i < ts.length → tkG (ts.getD i tk0) ∧ (i + 1 < ts.length → tkJ (ts.getD i tk0) (ts.getD (i + 1) tk0))) (m : Nat) (e : Int) (aa : Act) (w : World) (S : Sy w0 [] [] (ltS n q ts.length c e (ts.length)) [rfTk b 0 ts, rfSg] aa w) : post Tryd.prog (.rnd (m + 1) (bodyL ltC) :: ltC.k.tail) (bodyPost Tryd.prog Tryd.f8 (fun e w' => e = .returned (.bool true) ∧ Below w0.heap.size w0 w')) .normal aa w := by
  obtain ⟨x, hx⟩ : ∃ x, x = n % 1099511627777 := ⟨_, rfl⟩
  have hx2 : x ≤ 1099511627776 := by omega
  refine sy_run (c := ⟨(.rnd (m + 1) (bodyL ltC) :: ltC.k.tail), ltS n q ts.length c e ts.length⟩) ⟨0, [6]⟩ 50 S fun bs aa w S => ?_
  refine sy_reg S fun S => ?_
  refine sy_ops 4 S fun bs aa w S => ?_
  refine sy_cast 33 S (congrArg Value.bool (decide_eq_false (by omega) : decide ((ts.length : Int) < (ts.length : Int)) = false)) (by kernel_rfl) fun S => ?_
  refine sy_run ⟨0, [19]⟩ 60 S fun bs aa w S => ?_
  refine sy_reg S fun S => ?_
  refine sy_ops 1 S fun bs aa w S => ?_
  refine sy_ex (op := .binOp .rem 36 (.tmp 153) (.const (.int .u64 1099511627777)) 36) (ty := 36) (v := .int .u64 ((n % 1099511627777 : Nat) : Int)) S (by kernel_rfl) (ex_rem (ki := .u64) (p := (n : Int)) (q := 1099511627777) (by kernel_rfl) (by kernel_rfl) (by decide) rfl) fun aa S => ?_
  refine sy_ops 1 S fun bs aa w S => ?_
  refine sy_cast 155 S (congrArg (Value.int .i64) (by rw [IntKind.wrap_i64]; omega : IntKind.i64.wrap ((n % 1099511627777 : Nat) : Int) = (x : Int))) (by kernel_rfl) fun S => ?_
  refine sy_run ⟨0, [20]⟩ 60 S fun bs aa w S => ?_
  refine sy_reg S fun S => ?_
  refine sy_ops 1 S fun bs aa w S => ?_
  refine sy_call S (X := List Nat) (val := fun s => .string (strOf s)) (C := fun s w' => numV s = x ∧ (∀ b ∈ s, digB b = true) ∧ 1 ≤ s.length ∧ s.length ≤ 13 ∧ ¬(1 < s.length ∧ s.getD 0 0 = 48)) ((digits_t w x hx2).mono fun _ _ h => ⟨h.1.choose, h.1.choose_spec.1, h.1.choose_spec.2, h.2⟩) (by kernel_rfl) fun s aa w hs hb S => ?_
  obtain ⟨s1, s2, s3, s4, s5⟩ := hs
  obtain ⟨hL1, hL2⟩ := lex_num s1 s2 s3 s4 s5 hx2
  have hsb : ∀ b ∈ s, b < 256 := fun b hb => by
    have h := s2 b hb
    unfold digB at h
    simp only [Bool.and_eq_true, decide_eq_true_eq] at h
    omega
  have hsb2 : ∀ b ∈ 48 :: s, b < 256 := fun b hb => by
    rcases List.mem_cons.1 hb with rfl | hb
    · decide
    · exact hsb b hb
  refine sy_run ⟨0, [21]⟩ 60 S fun bs aa w S => ?_
  refine sy_reg S fun S => ?_
  refine sy_ops 1 S fun bs aa w S => ?_
  refine sy_nm S fun bs S => ?_
  have hlt := fun i hi => S.lt (i := i) hi
  refine sy_call S (X := Option Addr × Nat × Nat × Nat) (val := fun q => wdV q (some [(2, s, x, 0)])) (C := fun q w' => wdC2 w (some [(2, s, x, 0)]) q w') (by have q := words_t w (S.fact (f := rfSg) (by simp)) s hsb (by omega); rw [hL1] at q; exact q.mono fun _ _ h => wd_row h) (by kernel_rfl) fun y aa w hy hb S => ?_
  have S := S.add (rfTk y.2.2.1 0 ((some [(2, s, x, 0)]).getD [])) hy.2.1 (fun i hi hbl => by have h1 := hlt i hi; have h2 := hbl.1; have h3 := hy.2.2.1.resolve_left hbl.2; omega)
  refine sy_run ⟨0, [22]⟩ 60 S fun bs aa w S => ?_
  refine sy_reg S fun S => ?_
  refine sy_ops 1 S fun bs aa w S => ?_
  refine sy_ex (op := .binOp .add 9 (.const (.string ⟨#[48]⟩)) (.tmp 164) 9) (ty := 9) (v := .string (strOf [48] ++ strOf s)) S (by kernel_rfl) (ex_cat Tryd.underlying9 (by kernel_rfl) (by kernel_rfl) (by rw [strOf_size, strOf_size]; simp only [List.length_singleton]; omega)) fun aa S => ?_
  refine sy_cast 165 S (congrArg Value.string (strOf_app [48] s)) (by kernel_rfl) fun S => ?_
  refine sy_nm S fun bs S => ?_
  have hlt := fun i hi => S.lt (i := i) hi
  refine sy_call S (X := Option Addr × Nat × Nat × Nat) (val := fun q => wdV q (none)) (C := fun q w' => wdC2 w (none) q w') (by have q := words_t w (S.fact (f := rfSg) (by simp)) (48 :: s) hsb2 (by rw [List.length_cons]; omega); rw [hL2] at q; exact q.mono fun _ _ h => wd_row h) (by kernel_rfl) fun z aa w hz hb S => ?_
  have S := S.add (rfTk z.2.2.1 0 ((none).getD [])) hz.2.1 (fun i hi hbl => by have h1 := hlt i hi; have h2 := hbl.1; have h3 := hz.2.2.1.resolve_left hbl.2; omega)
  refine sy_run ⟨0, [25]⟩ 60 S fun bs aa w S => ?_
  refine sy_reg S fun S => ?_
  refine sy_ops 11 S fun bs aa w S => ?_
  refine sy_ix (b := y.2.2.1) (off := 0) (len := 1) (n := 0) (size := 4) (i := 0) S (by rw [← hy.1.resolve_left (show ¬((1 : Nat) = 0) by decide)]; kernel_rfl) rfl (by decide) fun aa S => ?_
  refine sy_ldo S (ld_tk (j := 0) (ts := [(2, s, x, 0)]) (S.fact (f := rfTk y.2.2.1 0 ((some [(2, s, x, 0)]).getD [])) (by simp)) (Nat.zero_lt_one)) (by kernel_rfl) fun aa S => ?_
  refine sy_ops 3 S fun bs aa w S => ?_
  refine sy_ex (op := .binOp .eql 30 (.tmp 184) (.tmp 187) 30) (ty := 4) (v := .bool true) S (by kernel_rfl) (ex_eqT (p := (2, s, x, 0)) (q := (2, s, x, 0)) hsb hsb (by kernel_rfl) (by kernel_rfl) (decide_eq_true rfl)) fun aa S => ?_
  refine sy_run ⟨0, []⟩ 60 S fun bs aa w S => ?_
  exact sy_ret S (by kernel_rfl) (by kernel_rfl) fun hg => ⟨rfl, bel_gr hg⟩
set_option maxHeartbeats 8000000 in
theorem lt_15 (w0 : World) (n : Nat) (hn : n < 18446744073709551616) (ts : List Tk) (q : Option Addr) (c b : Nat) (hq : ts.length = 0 ∨ q = some ⟨b, 0, none⟩) (htl : ts.length ≤ 600) (hG : ∀ i, i < ts.length → tkG (ts.getD i tk0) ∧ (i + 1 < ts.length → tkJ (ts.getD i tk0) (ts.getD (i + 1) tk0))) (m i : Nat) (hi : i < ts.length) (ih : ∀ (aa : Act) (w : World) (S : Sy w0 [] [] (ltS n q ts.length c 0 (i + 1)) [rfTk b 0 ts, rfSg] aa w), post Tryd.prog (.rnd (m) (bodyL ltC) :: ltC.k.tail) (bodyPost Tryd.prog Tryd.f8 (fun e w' => e = .returned (.bool true) ∧ Below w0.heap.size w0 w')) .normal aa w) (aa : Act) (w : World) (S : Sy w0 [] [] (ltS n q ts.length c 0 (i)) [rfTk b 0 ts, rfSg] aa w) : post Tryd.prog (lt15 m) (bodyPost Tryd.prog Tryd.f8 (fun e w' => e = .returned (.bool true) ∧ Below w0.heap.size w0 w')) .normal aa w := by
  obtain ⟨tk, _⟩ := hG i hi
  obtain ⟨-, tkb, tkl, -, -, tko⟩ := tk
  refine sy_run (c := ⟨lt15 m, ltS n q ts.length c 0 i⟩) ⟨0, []⟩ 60 S fun bs aa w S => ?_
  by_cases hi0 : i = 0
  case pos =>
    letI : KP := ⟨[87]⟩
    letI : HF := ⟨[rfTk b 0 ts]⟩
    refine dr_enter [] (by kernel_rfl) (by kernel_rfl) S (by kernel_rfl) (fun aa w D => ?_) (fun f hf => by have e1 : f = rfTk b 0 ts := List.mem_singleton.1 hf; subst e1; simp)
    refine dr_ex2 (fun d v c a w h => by cases d <;> exact h) 1 (op := .binOp .gtr 3 (.tmp 86) (.const (.int .i64 0)) 3) (ty := 4) (v := .bool false) D (by kernel_rfl) (by kernel_rfl) (by kernel_rfl) (by kernel_rfl) (ex_gtI (ki := .i64) (p := (i : Int)) (q := 0) (by kernel_rfl) (by kernel_rfl) (decide_eq_false (by omega))) fun aa D => ?_
    refine dr_end D (by kernel_rfl) fun S => ?_
    refine sy_run ⟨0, [7]⟩ 60 S fun bs aa w S => ?_
    refine sy_reg S fun S => ?_
    refine sy_ops 2 S fun bs aa w S => ?_
    refine sy_cast 39 S (congrArg (Value.int .i64) (by rw [IntKind.wrap_i64]; omega : IntKind.i64.wrap ((i : Int) + 1) = ((i + 1 : Nat) : Int))) (by kernel_rfl) fun S => ?_
    refine sy_run ⟨0, [999]⟩ 50 S fun bs aa w S => ?_
    have S2 := S.to [] (ltS n q ts.length c 0 (i + 1)) (by kernel_rfl) (by kernel_rfl) (by kernel_rfl) (by kernel_rfl) (by kernel_rfl)
    refine sy_at2 (k' := (.rnd (m) (bodyL ltC) :: ltC.k.tail)) (by kernel_rfl) ?_
    exact ih aa w S2
  obtain ⟨tu, tj⟩ := hG (i - 1) (by omega)
  obtain ⟨-, tub, tul, -, -, tuo⟩ := tu
  have tj := tj (by omega)
  rw [show i - 1 + 1 = i by omega] at tj
  by_cases hk1 : (ts.getD i tk0).1 = 3
  case neg =>
    letI : KP := ⟨[87, 94]⟩
    letI : HF := ⟨[rfTk b 0 ts]⟩
    refine dr_enter [] (by kernel_rfl) (by kernel_rfl) S (by kernel_rfl) (fun aa w D => ?_) (fun f hf => by have e1 : f = rfTk b 0 ts := List.mem_singleton.1 hf; subst e1; simp)
    refine dr_ex2 (fun d v c a w h => by cases d <;> exact h) 1 (op := .binOp .gtr 3 (.tmp 86) (.const (.int .i64 0)) 3) (ty := 4) (v := .bool true) D (by kernel_rfl) (by kernel_rfl) (by kernel_rfl) (by kernel_rfl) (ex_gtI (ki := .i64) (p := (i : Int)) (q := 0) (by kernel_rfl) (by kernel_rfl) (decide_eq_true (by omega))) fun aa D => ?_
    refine dr_tix 5 D (by kernel_rfl) (by kernel_rfl) (by kernel_rfl) (b := b) (off := 0) (len := ts.length) (n := i) (size := 4) (ix := (i : Int)) (by rw [← hq.resolve_left (by omega)]; kernel_rfl) rfl (by omega) fun aa D => ?_
    refine dr_tld 7 D (by kernel_rfl) (by kernel_rfl) (by kernel_rfl) (ty := 3) (ad := ⟨b, 0 + i * 4, none⟩) (v := .int .i64 ((ts.getD i tk0).1 : Int)) (fun W hW => ld_at (by kernel_rfl) ((show TkAt W b 0 ts from hW (rfTk b 0 ts) (by show _ ∈ [rfTk b 0 ts]; simp)) i (by omega)).1) (by kernel_rfl) fun aa D => ?_
    refine dr_ex2 (fun d v c a w h => by cases d <;> exact h) 8 (op := .binOp .eql 3 (.tmp 93) (.const (.int .i64 3)) 3) (ty := 4) (v := .bool false) D (by kernel_rfl) (by kernel_rfl) (by kernel_rfl) (by kernel_rfl) (ex_eqI (ki := .i64) (p := ((ts.getD i tk0).1 : Int)) (q := 3) (by kernel_rfl) (by kernel_rfl) (decide_eq_false (by omega))) fun aa D => ?_
    refine dr_end D (by kernel_rfl) fun S => ?_
    refine sy_run ⟨0, [7]⟩ 60 S fun bs aa w S => ?_
    refine sy_reg S fun S => ?_
    refine sy_ops 2 S fun bs aa w S => ?_
    refine sy_cast 39 S (congrArg (Value.int .i64) (by rw [IntKind.wrap_i64]; omega : IntKind.i64.wrap ((i : Int) + 1) = ((i + 1 : Nat) : Int))) (by kernel_rfl) fun S => ?_
    refine sy_run ⟨0, [999]⟩ 50 S fun bs aa w S => ?_
    have S2 := S.to [] (ltS n q ts.length c 0 (i + 1)) (by kernel_rfl) (by kernel_rfl) (by kernel_rfl) (by kernel_rfl) (by kernel_rfl)
    refine sy_at2 (k' := (.rnd (m) (bodyL ltC) :: ltC.k.tail)) (by kernel_rfl) ?_
    exact ih aa w S2
  by_cases hk2 : (ts.getD (i - 1) tk0).1 = 3
  case neg =>
    letI : KP := ⟨[87, 94, 99, 103]⟩
    letI : HF := ⟨[rfTk b 0 ts]⟩
    refine dr_enter [] (by kernel_rfl) (by kernel_rfl) S (by kernel_rfl) (fun aa w D => ?_) (fun f hf => by have e1 : f = rfTk b 0 ts := List.mem_singleton.1 hf; subst e1; simp)
    refine dr_ex2 (fun d v c a w h => by cases d <;> exact h) 1 (op := .binOp .gtr 3 (.tmp 86) (.const (.int .i64 0)) 3) (ty := 4) (v := .bool true) D (by kernel_rfl) (by kernel_rfl) (by kernel_rfl) (by kernel_rfl) (ex_gtI (ki := .i64) (p := (i : Int)) (q := 0) (by kernel_rfl) (by kernel_rfl) (decide_eq_true (by omega))) fun aa D => ?_
    refine dr_tix 5 D (by kernel_rfl) (by kernel_rfl) (by kernel_rfl) (b := b) (off := 0) (len := ts.length) (n := i) (size := 4) (ix := (i : Int)) (by rw [← hq.resolve_left (by omega)]; kernel_rfl) rfl (by omega) fun aa D => ?_
    refine dr_tld 7 D (by kernel_rfl) (by kernel_rfl) (by kernel_rfl) (ty := 3) (ad := ⟨b, 0 + i * 4, none⟩) (v := .int .i64 ((ts.getD i tk0).1 : Int)) (fun W hW => ld_at (by kernel_rfl) ((show TkAt W b 0 ts from hW (rfTk b 0 ts) (by show _ ∈ [rfTk b 0 ts]; simp)) i (by omega)).1) (by kernel_rfl) fun aa D => ?_
    refine dr_ex2 (fun d v c a w h => by cases d <;> exact h) 8 (op := .binOp .eql 3 (.tmp 93) (.const (.int .i64 3)) 3) (ty := 4) (v := .bool true) D (by kernel_rfl) (by kernel_rfl) (by kernel_rfl) (by kernel_rfl) (ex_eqI (ki := .i64) (p := ((ts.getD i tk0).1 : Int)) (q := 3) (by kernel_rfl) (by kernel_rfl) (decide_eq_true (by omega))) fun aa D => ?_
    refine dr_ex2 (fun d v c a w h => by cases d <;> exact h) 13 (op := .binOp .sub 3 (.tmp 98) (.const (.int .i64 1)) 3) (ty := 3) (v := .int .i64 ((i - 1 : Nat) : Int)) D (by kernel_rfl) (by kernel_rfl) (by kernel_rfl) (by kernel_rfl) (ex_sub1 (i := i) (by kernel_rfl) (by kernel_rfl) (by omega) (by omega)) fun aa D => ?_
    refine dr_tix 14 D (by kernel_rfl) (by kernel_rfl) (by kernel_rfl) (b := b) (off := 0) (len := ts.length) (n := (i - 1)) (size := 4) (ix := ((i - 1 : Nat) : Int)) (by rw [← hq.resolve_left (by omega)]; kernel_rfl) rfl (by omega) fun aa D => ?_
    refine dr_tld 16 D (by kernel_rfl) (by kernel_rfl) (by kernel_rfl) (ty := 3) (ad := ⟨b, 0 + (i - 1) * 4, none⟩) (v := .int .i64 ((ts.getD (i - 1) tk0).1 : Int)) (fun W hW => ld_at (by kernel_rfl) ((show TkAt W b 0 ts from hW (rfTk b 0 ts) (by show _ ∈ [rfTk b 0 ts]; simp)) (i - 1) (by omega)).1) (by kernel_rfl) fun aa D => ?_
    refine dr_ex2 (fun d v c a w h => by cases d <;> exact h) 17 (op := .binOp .eql 3 (.tmp 102) (.const (.int .i64 3)) 3) (ty := 4) (v := .bool false) D (by kernel_rfl) (by kernel_rfl) (by kernel_rfl) (by kernel_rfl) (ex_eqI (ki := .i64) (p := ((ts.getD (i - 1) tk0).1 : Int)) (q := 3) (by kernel_rfl) (by kernel_rfl) (decide_eq_false (by omega))) fun aa D => ?_
    refine dr_end D (by kernel_rfl) fun S => ?_
    refine sy_run ⟨0, [7]⟩ 60 S fun bs aa w S => ?_
    refine sy_reg S fun S => ?_
    refine sy_ops 2 S fun bs aa w S => ?_
    refine sy_cast 39 S (congrArg (Value.int .i64) (by rw [IntKind.wrap_i64]; omega : IntKind.i64.wrap ((i : Int) + 1) = ((i + 1 : Nat) : Int))) (by kernel_rfl) fun S => ?_
    refine sy_run ⟨0, [999]⟩ 50 S fun bs aa w S => ?_
    have S2 := S.to [] (ltS n q ts.length c 0 (i + 1)) (by kernel_rfl) (by kernel_rfl) (by kernel_rfl) (by kernel_rfl) (by kernel_rfl)
    refine sy_at2 (k' := (.rnd (m) (bodyL ltC) :: ltC.k.tail)) (by kernel_rfl) ?_
    exact ih aa w S2
  by_cases hk3 : (ts.getD i tk0).2.2.2 = (ts.getD (i - 1) tk0).2.2.2 + 1
  case neg =>
    letI : KP := ⟨[87, 94, 99, 103, 113, 118]⟩
    letI : HF := ⟨[rfTk b 0 ts]⟩
    refine dr_enter [] (by kernel_rfl) (by kernel_rfl) S (by kernel_rfl) (fun aa w D => ?_) (fun f hf => by have e1 : f = rfTk b 0 ts := List.mem_singleton.1 hf; subst e1; simp)
    refine dr_ex2 (fun d v c a w h => by cases d <;> exact h) 1 (op := .binOp .gtr 3 (.tmp 86) (.const (.int .i64 0)) 3) (ty := 4) (v := .bool true) D (by kernel_rfl) (by kernel_rfl) (by kernel_rfl) (by kernel_rfl) (ex_gtI (ki := .i64) (p := (i : Int)) (q := 0) (by kernel_rfl) (by kernel_rfl) (decide_eq_true (by omega))) fun aa D => ?_
    refine dr_tix 5 D (by kernel_rfl) (by kernel_rfl) (by kernel_rfl) (b := b) (off := 0) (len := ts.length) (n := i) (size := 4) (ix := (i : Int)) (by rw [← hq.resolve_left (by omega)]; kernel_rfl) rfl (by omega) fun aa D => ?_
    refine dr_tld 7 D (by kernel_rfl) (by kernel_rfl) (by kernel_rfl) (ty := 3) (ad := ⟨b, 0 + i * 4, none⟩) (v := .int .i64 ((ts.getD i tk0).1 : Int)) (fun W hW => ld_at (by kernel_rfl) ((show TkAt W b 0 ts from hW (rfTk b 0 ts) (by show _ ∈ [rfTk b 0 ts]; simp)) i (by omega)).1) (by kernel_rfl) fun aa D => ?_
    refine dr_ex2 (fun d v c a w h => by cases d <;> exact h) 8 (op := .binOp .eql 3 (.tmp 93) (.const (.int .i64 3)) 3) (ty := 4) (v := .bool true) D (by kernel_rfl) (by kernel_rfl) (by kernel_rfl) (by kernel_rfl) (ex_eqI (ki := .i64) (p := ((ts.getD i tk0).1 : Int)) (q := 3) (by kernel_rfl) (by kernel_rfl) (decide_eq_true (by omega))) fun aa D => ?_
    refine dr_ex2 (fun d v c a w h => by cases d <;> exact h) 13 (op := .binOp .sub 3 (.tmp 98) (.const (.int .i64 1)) 3) (ty := 3) (v := .int .i64 ((i - 1 : Nat) : Int)) D (by kernel_rfl) (by kernel_rfl) (by kernel_rfl) (by kernel_rfl) (ex_sub1 (i := i) (by kernel_rfl) (by kernel_rfl) (by omega) (by omega)) fun aa D => ?_
    refine dr_tix 14 D (by kernel_rfl) (by kernel_rfl) (by kernel_rfl) (b := b) (off := 0) (len := ts.length) (n := (i - 1)) (size := 4) (ix := ((i - 1 : Nat) : Int)) (by rw [← hq.resolve_left (by omega)]; kernel_rfl) rfl (by omega) fun aa D => ?_
    refine dr_tld 16 D (by kernel_rfl) (by kernel_rfl) (by kernel_rfl) (ty := 3) (ad := ⟨b, 0 + (i - 1) * 4, none⟩) (v := .int .i64 ((ts.getD (i - 1) tk0).1 : Int)) (fun W hW => ld_at (by kernel_rfl) ((show TkAt W b 0 ts from hW (rfTk b 0 ts) (by show _ ∈ [rfTk b 0 ts]; simp)) (i - 1) (by omega)).1) (by kernel_rfl) fun aa D => ?_
    refine dr_ex2 (fun d v c a w h => by cases d <;> exact h) 17 (op := .binOp .eql 3 (.tmp 102) (.const (.int .i64 3)) 3) (ty := 4) (v := .bool true) D (by kernel_rfl) (by kernel_rfl) (by kernel_rfl) (by kernel_rfl) (ex_eqI (ki := .i64) (p := ((ts.getD (i - 1) tk0).1 : Int)) (q := 3) (by kernel_rfl) (by kernel_rfl) (decide_eq_true (by omega))) fun aa D => ?_
    refine dr_tix 22 D (by kernel_rfl) (by kernel_rfl) (by kernel_rfl) (b := b) (off := 0) (len := ts.length) (n := i) (size := 4) (ix := (i : Int)) (by rw [← hq.resolve_left (by omega)]; kernel_rfl) rfl (by omega) fun aa D => ?_
    refine dr_tld 24 D (by kernel_rfl) (by kernel_rfl) (by kernel_rfl) (ty := 3) (ad := ⟨b, 0 + i * 4 + 3, none⟩) (v := .int .i64 ((ts.getD i tk0).2.2.2 : Int)) (fun W hW => ld_at (by kernel_rfl) ((show TkAt W b 0 ts from hW (rfTk b 0 ts) (by show _ ∈ [rfTk b 0 ts]; simp)) i (by omega)).2.2.2) (by kernel_rfl) fun aa D => ?_
    refine dr_ex2 (fun d v c a w h => by cases d <;> exact h) 27 (op := .binOp .sub 3 (.tmp 112) (.const (.int .i64 1)) 3) (ty := 3) (v := .int .i64 ((i - 1 : Nat) : Int)) D (by kernel_rfl) (by kernel_rfl) (by kernel_rfl) (by kernel_rfl) (ex_sub1 (i := i) (by kernel_rfl) (by kernel_rfl) (by omega) (by omega)) fun aa D => ?_
    refine dr_tix 28 D (by kernel_rfl) (by kernel_rfl) (by kernel_rfl) (b := b) (off := 0) (len := ts.length) (n := (i - 1)) (size := 4) (ix := ((i - 1 : Nat) : Int)) (by rw [← hq.resolve_left (by omega)]; kernel_rfl) rfl (by omega) fun aa D => ?_
    refine dr_tld 30 D (by kernel_rfl) (by kernel_rfl) (by kernel_rfl) (ty := 3) (ad := ⟨b, 0 + (i - 1) * 4 + 3, none⟩) (v := .int .i64 ((ts.getD (i - 1) tk0).2.2.2 : Int)) (fun W hW => ld_at (by kernel_rfl) ((show TkAt W b 0 ts from hW (rfTk b 0 ts) (by show _ ∈ [rfTk b 0 ts]; simp)) (i - 1) (by omega)).2.2.2) (by kernel_rfl) fun aa D => ?_
    refine dr_ex2 (fun d v c a w h => by cases d <;> exact h) 32 (op := .binOp .eql 3 (.tmp 110) (.tmp 117) 3) (ty := 4) (v := .bool false) D (by kernel_rfl) (by kernel_rfl) (by kernel_rfl) (by kernel_rfl) (ex_eqI (ki := .i64) (p := ((ts.getD i tk0).2.2.2 : Int)) (q := (IntKind.i64.wrap (((ts.getD (i - 1) tk0).2.2.2 : Int) + 1))) (by kernel_rfl) (by kernel_rfl) (by rw [IntKind.wrap_i64]; exact decide_eq_false (by omega))) fun aa D => ?_
    refine dr_end D (by kernel_rfl) fun S => ?_
    refine sy_run ⟨0, [7]⟩ 60 S fun bs aa w S => ?_
    refine sy_reg S fun S => ?_
    refine sy_ops 2 S fun bs aa w S => ?_
    refine sy_cast 39 S (congrArg (Value.int .i64) (by rw [IntKind.wrap_i64]; omega : IntKind.i64.wrap ((i : Int) + 1) = ((i + 1 : Nat) : Int))) (by kernel_rfl) fun S => ?_
    refine sy_run ⟨0, [999]⟩ 50 S fun bs aa w S => ?_
    have S2 := S.to [] (ltS n q ts.length c 0 (i + 1)) (by kernel_rfl) (by kernel_rfl) (by kernel_rfl) (by kernel_rfl) (by kernel_rfl)
    refine sy_at2 (k' := (.rnd (m) (bodyL ltC) :: ltC.k.tail)) (by kernel_rfl) ?_
    exact ih aa w S2
  case pos =>
    obtain ⟨j1, j2⟩ := tj hk2 hk1 hk3
    have hcb : ∀ x ∈ (ts.getD (i - 1) tk0).2.1 ++ (ts.getD i tk0).2.1, x < 256 := fun x hx => (List.mem_append.1 hx).elim (tub x) (tkb x)
    letI : KP := ⟨[87, 94, 99, 103, 113, 118]⟩
    letI : HF := ⟨[rfTk b 0 ts]⟩
    refine dr_enter [] (by kernel_rfl) (by kernel_rfl) S (by kernel_rfl) (fun aa w D => ?_) (fun f hf => by have e1 : f = rfTk b 0 ts := List.mem_singleton.1 hf; subst e1; simp)
    refine dr_ex2 (fun d v c a w h => by cases d <;> exact h) 1 (op := .binOp .gtr 3 (.tmp 86) (.const (.int .i64 0)) 3) (ty := 4) (v := .bool true) D (by kernel_rfl) (by kernel_rfl) (by kernel_rfl) (by kernel_rfl) (ex_gtI (ki := .i64) (p := (i : Int)) (q := 0) (by kernel_rfl) (by kernel_rfl) (decide_eq_true (by omega))) fun aa D => ?_
    refine dr_tix 5 D (by kernel_rfl) (by kernel_rfl) (by kernel_rfl) (b := b) (off := 0) (len := ts.length) (n := i) (size := 4) (ix := (i : Int)) (by rw [← hq.resolve_left (by omega)]; kernel_rfl) rfl (by omega) fun aa D => ?_
    refine dr_tld 7 D (by kernel_rfl) (by kernel_rfl) (by kernel_rfl) (ty := 3) (ad := ⟨b, 0 + i * 4, none⟩) (v := .int .i64 ((ts.getD i tk0).1 : Int)) (fun W hW => ld_at (by kernel_rfl) ((show TkAt W b 0 ts from hW (rfTk b 0 ts) (by show _ ∈ [rfTk b 0 ts]; simp)) i (by omega)).1) (by kernel_rfl) fun aa D => ?_
    refine dr_ex2 (fun d v c a w h => by cases d <;> exact h) 8 (op := .binOp .eql 3 (.tmp 93) (.const (.int .i64 3)) 3) (ty := 4) (v := .bool true) D (by kernel_rfl) (by kernel_rfl) (by kernel_rfl) (by kernel_rfl) (ex_eqI (ki := .i64) (p := ((ts.getD i tk0).1 : Int)) (q := 3) (by kernel_rfl) (by kernel_rfl) (decide_eq_true (by omega))) fun aa D => ?_
    refine dr_ex2 (fun d v c a w h => by cases d <;> exact h) 13 (op := .binOp .sub 3 (.tmp 98) (.const (.int .i64 1)) 3) (ty := 3) (v := .int .i64 ((i - 1 : Nat) : Int)) D (by kernel_rfl) (by kernel_rfl) (by kernel_rfl) (by kernel_rfl) (ex_sub1 (i := i) (by kernel_rfl) (by kernel_rfl) (by omega) (by omega)) fun aa D => ?_
    refine dr_tix 14 D (by kernel_rfl) (by kernel_rfl) (by kernel_rfl) (b := b) (off := 0) (len := ts.length) (n := (i - 1)) (size := 4) (ix := ((i - 1 : Nat) : Int)) (by rw [← hq.resolve_left (by omega)]; kernel_rfl) rfl (by omega) fun aa D => ?_
    refine dr_tld 16 D (by kernel_rfl) (by kernel_rfl) (by kernel_rfl) (ty := 3) (ad := ⟨b, 0 + (i - 1) * 4, none⟩) (v := .int .i64 ((ts.getD (i - 1) tk0).1 : Int)) (fun W hW => ld_at (by kernel_rfl) ((show TkAt W b 0 ts from hW (rfTk b 0 ts) (by show _ ∈ [rfTk b 0 ts]; simp)) (i - 1) (by omega)).1) (by kernel_rfl) fun aa D => ?_
    refine dr_ex2 (fun d v c a w h => by cases d <;> exact h) 17 (op := .binOp .eql 3 (.tmp 102) (.const (.int .i64 3)) 3) (ty := 4) (v := .bool true) D (by kernel_rfl) (by kernel_rfl) (by kernel_rfl) (by kernel_rfl) (ex_eqI (ki := .i64) (p := ((ts.getD (i - 1) tk0).1 : Int)) (q := 3) (by kernel_rfl) (by kernel_rfl) (decide_eq_true (by omega))) fun aa D => ?_
    refine dr_tix 22 D (by kernel_rfl) (by kernel_rfl) (by kernel_rfl) (b := b) (off := 0) (len := ts.length) (n := i) (size := 4) (ix := (i : Int)) (by rw [← hq.resolve_left (by omega)]; kernel_rfl) rfl (by omega) fun aa D => ?_
    refine dr_tld 24 D (by kernel_rfl) (by kernel_rfl) (by kernel_rfl) (ty := 3) (ad := ⟨b, 0 + i * 4 + 3, none⟩) (v := .int .i64 ((ts.getD i tk0).2.2.2 : Int)) (fun W hW => ld_at (by kernel_rfl) ((show TkAt W b 0 ts from hW (rfTk b 0 ts) (by show _ ∈ [rfTk b 0 ts]; simp)) i (by omega)).2.2.2) (by kernel_rfl) fun aa D => ?_
    refine dr_ex2 (fun d v c a w h => by cases d <;> exact h) 27 (op := .binOp .sub 3 (.tmp 112) (.const (.int .i64 1)) 3) (ty := 3) (v := .int .i64 ((i - 1 : Nat) : Int)) D (by kernel_rfl) (by kernel_rfl) (by kernel_rfl) (by kernel_rfl) (ex_sub1 (i := i) (by kernel_rfl) (by kernel_rfl) (by omega) (by omega)) fun aa D => ?_
    refine dr_tix 28 D (by kernel_rfl) (by kernel_rfl) (by kernel_rfl) (b := b) (off := 0) (len := ts.length) (n := (i - 1)) (size := 4) (ix := ((i - 1 : Nat) : Int)) (by rw [← hq.resolve_left (by omega)]; kernel_rfl) rfl (by omega) fun aa D => ?_
    refine dr_tld 30 D (by kernel_rfl) (by kernel_rfl) (by kernel_rfl) (ty := 3) (ad := ⟨b, 0 + (i - 1) * 4 + 3, none⟩) (v := .int .i64 ((ts.getD (i - 1) tk0).2.2.2 : Int)) (fun W hW => ld_at (by kernel_rfl) ((show TkAt W b 0 ts from hW (rfTk b 0 ts) (by show _ ∈ [rfTk b 0 ts]; simp)) (i - 1) (by omega)).2.2.2) (by kernel_rfl) fun aa D => ?_
    refine dr_ex2 (fun d v c a w h => by cases d <;> exact h) 32 (op := .binOp .eql 3 (.tmp 110) (.tmp 117) 3) (ty := 4) (v := .bool true) D (by kernel_rfl) (by kernel_rfl) (by kernel_rfl) (by kernel_rfl) (ex_eqI (ki := .i64) (p := ((ts.getD i tk0).2.2.2 : Int)) (q := (IntKind.i64.wrap (((ts.getD (i - 1) tk0).2.2.2 : Int) + 1))) (by kernel_rfl) (by kernel_rfl) (by rw [IntKind.wrap_i64]; exact decide_eq_true (by omega))) fun aa D => ?_
    refine dr_end D (by kernel_rfl) fun S => ?_
    refine sy_run ⟨0, []⟩ 60 S fun bs aa w S => ?_
    letI : KP := ⟨[123, 132]⟩
    letI : HF := ⟨[rfTk b 0 ts]⟩
    refine dr_enter [] (by kernel_rfl) (by kernel_rfl) S (by kernel_rfl) (fun aa w D => ?_) (fun f hf => by have e1 : f = rfTk b 0 ts := List.mem_singleton.1 hf; subst e1; simp)
    refine dr_ex2 (fun d v c a w h => by cases d <;> exact h) 2 (op := .binOp .sub 3 (.tmp 122) (.const (.int .i64 1)) 3) (ty := 3) (v := .int .i64 ((i - 1 : Nat) : Int)) D (by kernel_rfl) (by kernel_rfl) (by kernel_rfl) (by kernel_rfl) (ex_sub1 (i := i) (by kernel_rfl) (by kernel_rfl) (by omega) (by omega)) fun aa D => ?_
    refine dr_tix 3 D (by kernel_rfl) (by kernel_rfl) (by kernel_rfl) (b := b) (off := 0) (len := ts.length) (n := (i - 1)) (size := 4) (ix := ((i - 1 : Nat) : Int)) (by rw [← hq.resolve_left (by omega)]; kernel_rfl) rfl (by omega) fun aa D => ?_
    refine dr_tld 5 D (by kernel_rfl) (by kernel_rfl) (by kernel_rfl) (ty := 9) (ad := ⟨b, 0 + (i - 1) * 4 + 1, none⟩) (v := .string (strOf (ts.getD (i - 1) tk0).2.1)) (fun W hW => ld_at (by kernel_rfl) ((show TkAt W b 0 ts from hW (rfTk b 0 ts) (by show _ ∈ [rfTk b 0 ts]; simp)) (i - 1) (by omega)).2.1) (by kernel_rfl) fun aa D => ?_
    refine dr_tix 8 D (by kernel_rfl) (by kernel_rfl) (by kernel_rfl) (b := b) (off := 0) (len := ts.length) (n := i) (size := 4) (ix := (i : Int)) (by rw [← hq.resolve_left (by omega)]; kernel_rfl) rfl (by omega) fun aa D => ?_
    refine dr_tld 10 D (by kernel_rfl) (by kernel_rfl) (by kernel_rfl) (ty := 9) (ad := ⟨b, 0 + i * 4 + 1, none⟩) (v := .string (strOf (ts.getD i tk0).2.1)) (fun W hW => ld_at (by kernel_rfl) ((show TkAt W b 0 ts from hW (rfTk b 0 ts) (by show _ ∈ [rfTk b 0 ts]; simp)) i (by omega)).2.1) (by kernel_rfl) fun aa D => ?_
    refine dr_ex2 (fun d v c a w h => by cases d <;> exact h) 11 (op := .binOp .add 9 (.tmp 126) (.tmp 131) 9) (ty := 9) (v := .string (strOf ((ts.getD (i - 1) tk0).2.1 ++ (ts.getD i tk0).2.1))) D (by kernel_rfl) (by kernel_rfl) (by kernel_rfl) (by kernel_rfl) (by rw [← strOf_app]; exact ex_cat Tryd.underlying9 (by kernel_rfl) (by kernel_rfl) (by rw [strOf_size, strOf_size]; omega)) fun aa D => ?_
    refine dr_call 12 D (by kernel_rfl) (by kernel_rfl) (by kernel_rfl) (X := Option Addr × Nat × Nat × Nat) (val := fun p => wdV p (some [(3, (ts.getD (i - 1) tk0).2.1, 0, 0), (3, (ts.getD i tk0).2.1, 0, 1)])) (C := fun p w' => wdC2 w (some [(3, (ts.getD (i - 1) tk0).2.1, 0, 0), (3, (ts.getD i tk0).2.1, 0, 1)]) p w') (f := 10) (args := #[.string (strOf ((ts.getD (i - 1) tk0).2.1 ++ (ts.getD i tk0).2.1))]) (by have q := words_t w (D.S.fact (f := rfSg) (by simp)) ((ts.getD (i - 1) tk0).2.1 ++ (ts.getD i tk0).2.1) hcb (by rw [List.length_append]; omega); rw [j2] at q; exact q.mono fun _ _ h => wd_row h) (by kernel_rfl) fun z aa w hz hb D => ?_
    refine dr_end D (by kernel_rfl) fun S => ?_
    refine sy_run ⟨0, [17]⟩ 60 S fun bs aa w S => ?_
    refine sy_reg S fun S => ?_
    refine sy_ops 2 S fun bs aa w S => ?_
    refine sy_ex (op := .binOp .sub 3 (.tmp 137) (.const (.int .i64 1)) 3) (ty := 3) (v := .int .i64 ((i - 1 : Nat) : Int)) S (by kernel_rfl) (ex_sub1 (i := i) (by kernel_rfl) (by kernel_rfl) (by omega) (by omega)) fun aa S => ?_
    refine sy_ix (b := b) (off := 0) (len := ts.length) (n := (i - 1)) (size := 4) (i := ((i - 1 : Nat) : Int)) S (by rw [← hq.resolve_left (by omega)]; kernel_rfl) rfl (by omega) fun aa S => ?_
    refine sy_ops 1 S fun bs aa w S => ?_
    refine sy_ldo S (ld_at (ty := 9) (b := b) (off := 0 + (i - 1) * 4 + 1) (by kernel_rfl) (((S.fact (f := rfTk b 0 ts) (by simp)) (i - 1) (by omega)).2.1)) (by kernel_rfl) fun aa S => ?_
    refine sy_ops 1 S fun bs aa w S => ?_
    refine sy_cast 142 S (congrArg (Value.int .i64) (by rw [strOf_size]; omega : ((strOf (ts.getD (i - 1) tk0).2.1).size : Int) = 1)) (by kernel_rfl) fun S => ?_
    refine sy_run ⟨0, [7]⟩ 60 S fun bs aa w S => ?_
    refine sy_reg S fun S => ?_
    refine sy_ops 2 S fun bs aa w S => ?_
    refine sy_cast 39 S (congrArg (Value.int .i64) (by rw [IntKind.wrap_i64]; omega : IntKind.i64.wrap ((i : Int) + 1) = ((i + 1 : Nat) : Int))) (by kernel_rfl) fun S => ?_
    refine sy_run ⟨0, [999]⟩ 50 S fun bs aa w S => ?_
    have S2 := S.to [] (ltS n q ts.length c 0 (i + 1)) (by kernel_rfl) (by kernel_rfl) (by kernel_rfl) (by kernel_rfl) (by kernel_rfl)
    refine sy_at2 (k' := (.rnd (m) (bodyL ltC) :: ltC.k.tail)) (by kernel_rfl) ?_
    exact ih aa w S2
set_option maxHeartbeats 8000000 in
theorem lt_s (w0 : World) (n : Nat) (hn : n < 18446744073709551616) (ts : List Tk) (q : Option Addr) (c b : Nat) (hq : ts.length = 0 ∨ q = some ⟨b, 0, none⟩) (htl : ts.length ≤ 600) (hG : ∀ i, i < ts.length → tkG (ts.getD i tk0) ∧ (i + 1 < ts.length → tkJ (ts.getD i tk0) (ts.getD (i + 1) tk0))) (m i : Nat) (hi : i < ts.length) (ih : ∀ (aa : Act) (w : World) (S : Sy w0 [] [] (ltS n q ts.length c 0 (i + 1)) [rfTk b 0 ts, rfSg] aa w), post Tryd.prog (.rnd (m) (bodyL ltC) :: ltC.k.tail) (bodyPost Tryd.prog Tryd.f8 (fun e w' => e = .returned (.bool true) ∧ Below w0.heap.size w0 w')) .normal aa w) (aa : Act) (w : World) (S : Sy w0 [] [] (ltS n q ts.length c 0 (i)) [rfTk b 0 ts, rfSg] aa w) : post Tryd.prog (.rnd (m + 1) (bodyL ltC) :: ltC.k.tail) (bodyPost Tryd.prog Tryd.f8 (fun e w' => e = .returned (.bool true) ∧ Below w0.heap.size w0 w')) .normal aa w := by
  obtain ⟨tk, _⟩ := hG i hi
  obtain ⟨tk1, tkb, tkl, tkn, tkz, tko⟩ := tk
  refine sy_run (c := ⟨(.rnd (m + 1) (bodyL ltC) :: ltC.k.tail), ltS n q ts.length c 0 i⟩) ⟨0, [6]⟩ 50 S fun bs aa w S => ?_
  refine sy_reg S fun S => ?_
  refine sy_ops 4 S fun bs aa w S => ?_
  refine sy_cast 33 S (congrArg Value.bool (decide_eq_true (by omega) : decide ((i : Int) < (ts.length : Int)) = true)) (by kernel_rfl) fun S => ?_
  refine sy_run ⟨0, [8]⟩ 60 S fun bs aa w S => ?_
  refine sy_reg S fun S => ?_
  refine sy_ops 2 S fun bs aa w S => ?_
  refine sy_ix (b := b) (off := 0) (len := ts.length) (n := i) (size := 4) (i := (i : Int)) S (by rw [← hq.resolve_left (by omega)]; kernel_rfl) rfl hi fun aa S => ?_
  refine sy_ops 1 S fun bs aa w S => ?_
  refine sy_ldo S (ld_at (ty := 9) (b := b) (off := 0 + i * 4 + 1) (by kernel_rfl) (((S.fact (f := rfTk b 0 ts) (by simp)) i hi).2.1)) (by kernel_rfl) fun aa S => ?_
  refine sy_nm S fun bs S => ?_
  have hlt := fun i hi => S.lt (i := i) hi
  refine sy_call S (X := Option Addr × Nat × Nat × Nat) (val := fun q => wdV q (some [((ts.getD i tk0).1, (ts.getD i tk0).2.1, (ts.getD i tk0).2.2.1, 0)])) (C := fun q w' => wdC2 w (some [((ts.getD i tk0).1, (ts.getD i tk0).2.1, (ts.getD i tk0).2.2.1, 0)]) q w') (by have q := words_t w (S.fact (f := rfSg) (by simp)) (ts.getD i tk0).2.1 tkb (by omega); rw [tk1] at q; exact q.mono fun _ _ h => wd_row h) (by kernel_rfl) fun x aa w hx hb S => ?_
  have S := S.add (rfTk x.2.2.1 0 ((some [((ts.getD i tk0).1, (ts.getD i tk0).2.1, (ts.getD i tk0).2.2.1, 0)]).getD [])) hx.2.1 (fun i hi hbl => by have h1 := hlt i hi; have h2 := hbl.1; have h3 := hx.2.2.1.resolve_left hbl.2; omega)
  refine sy_run ⟨0, [11]⟩ 60 S fun bs aa w S => ?_
  refine sy_reg S fun S => ?_
  refine sy_ops 2 S fun bs aa w S => ?_
  refine sy_ix (b := b) (off := 0) (len := ts.length) (n := i) (size := 4) (i := (i : Int)) S (by rw [← hq.resolve_left (by omega)]; kernel_rfl) rfl hi fun aa S => ?_
  refine sy_ldo S (ld_tk (j := i) (ts := ts) (S.fact (f := rfTk b 0 ts) (by simp)) hi) (by kernel_rfl) fun aa S => ?_
  refine sy_cast 59 S (show tkA (ts.getD i tk0) = .agg #[.int .i64 ((ts.getD i tk0).1 : Int), .string (strOf (ts.getD i tk0).2.1), .int .i64 ((ts.getD i tk0).2.2.1 : Int), .int .i64 ((ts.getD i tk0).2.2.2 : Int)] from rfl) (by kernel_rfl) fun S => ?_
  refine sy_run ⟨0, []⟩ 60 S fun bs aa w S => ?_
  have hx1 : x.1 = some ⟨x.2.2.1, 0, none⟩ := hx.1.resolve_left (show ¬((1 : Nat) = 0) by decide)
  by_cases hk : (ts.getD i tk0).1 = 2
  case pos =>
    letI : KP := ⟨[65, 69, 74, 79]⟩
    letI : HF := ⟨[rfTk x.2.2.1 0 ((some [((ts.getD i tk0).1, (ts.getD i tk0).2.1, (ts.getD i tk0).2.2.1, 0)]).getD [])]⟩
    refine dr_enter [0] (by kernel_rfl) (by kernel_rfl) S (by kernel_rfl) (fun aa w D => ?_) (fun f hf => by have e1 : f = rfTk x.2.2.1 0 ((some [((ts.getD i tk0).1, (ts.getD i tk0).2.1, (ts.getD i tk0).2.2.1, 0)]).getD []) := List.mem_singleton.1 hf; subst e1; simp)
    refine dr_tix 1 D (by kernel_rfl) (by kernel_rfl) (by kernel_rfl) (b := x.2.2.1) (off := 0) (len := 1) (n := 0) (size := 4) (ix := 0) (by rw [← hx1]; kernel_rfl) rfl (by decide) fun aa D => ?_
    refine dr_tld 2 D (by kernel_rfl) (by kernel_rfl) (by kernel_rfl) (ty := 30) (ad := ⟨x.2.2.1, 0 + 0 * 4, none⟩) (v := tkA ((ts.getD i tk0).1, (ts.getD i tk0).2.1, (ts.getD i tk0).2.2.1, 0)) (fun W hW => ld_tk (j := 0) (ts := [((ts.getD i tk0).1, (ts.getD i tk0).2.1, (ts.getD i tk0).2.2.1, 0)]) (show TkAt W x.2.2.1 0 ((some [((ts.getD i tk0).1, (ts.getD i tk0).2.1, (ts.getD i tk0).2.2.1, 0)]).getD []) from hW (rfTk x.2.2.1 0 ((some [((ts.getD i tk0).1, (ts.getD i tk0).2.1, (ts.getD i tk0).2.2.1, 0)]).getD [])) (by show _ ∈ [rfTk x.2.2.1 0 ((some [((ts.getD i tk0).1, (ts.getD i tk0).2.1, (ts.getD i tk0).2.2.1, 0)]).getD [])]; simp)) Nat.zero_lt_one) (by kernel_rfl) fun aa D => ?_
    refine dr_ex2 (fun d v c a w h => by cases d <;> exact h) 4 (op := .binOp .neq 30 (.tmp 63) (.tmp 64) 30) (ty := 4) (v := .bool false) D (by kernel_rfl) (by kernel_rfl) (by kernel_rfl) (by kernel_rfl) (ex_neT (p := ((ts.getD i tk0).1, (ts.getD i tk0).2.1, (ts.getD i tk0).2.2.1, 0)) (q := ((ts.getD i tk0).1, (ts.getD i tk0).2.1, (ts.getD i tk0).2.2.1, 0)) tkb tkb (by kernel_rfl) (by kernel_rfl) (by rw [decide_eq_true rfl]; rfl)) fun aa D => ?_
    refine dr_ex2 (fun d v c a w h => by cases d <;> exact h) 8 (op := .binOp .lss 3 (.tmp 68) (.const (.int .i64 0)) 3) (ty := 4) (v := .bool false) D (by kernel_rfl) (by kernel_rfl) (by kernel_rfl) (by kernel_rfl) (ex_ltI (ki := .i64) (p := ((ts.getD i tk0).2.2.1 : Int)) (q := 0) (by kernel_rfl) (by kernel_rfl) (decide_eq_false (by omega))) fun aa D => ?_
    refine dr_ex2 (fun d v c a w h => by cases d <;> exact h) 13 (op := .binOp .gtr 3 (.tmp 73) (.const (.int .i64 1099511627776)) 3) (ty := 4) (v := .bool false) D (by kernel_rfl) (by kernel_rfl) (by kernel_rfl) (by kernel_rfl) (ex_gtI (ki := .i64) (p := ((ts.getD i tk0).2.2.1 : Int)) (q := 1099511627776) (by kernel_rfl) (by kernel_rfl) (decide_eq_false (by omega))) fun aa D => ?_
    refine dr_ex2 (fun d v c a w h => by cases d <;> exact h) 18 (op := .binOp .neq 3 (.tmp 78) (.const (.int .i64 2)) 3) (ty := 4) (v := .bool false) D (by kernel_rfl) (by kernel_rfl) (by kernel_rfl) (by kernel_rfl) (ex_neI (ki := .i64) (p := ((ts.getD i tk0).1 : Int)) (q := 2) (by kernel_rfl) (by kernel_rfl) (by rw [decide_eq_true (by omega)]; rfl)) fun aa D => ?_
    refine dr_end D (by kernel_rfl) fun S => ?_
    refine sy_run ⟨0, []⟩ 60 S fun bs aa w S => ?_
    have S := S.sub (F' := [rfTk b 0 ts, rfSg]) (by intro f hf; simp only [List.mem_cons, List.not_mem_nil, or_false] at hf; rcases hf with rfl | rfl <;> simp)
    have S2 := S.to [] (ltS n q ts.length c 0 i) (by kernel_rfl) (by kernel_rfl) (by kernel_rfl) (by kernel_rfl) (by kernel_rfl)
    refine sy_at2 (k' := lt15 m) (by kernel_rfl) ?_
    exact lt_15 w0 n hn ts q c b hq htl hG m i hi ih aa w S2
  case neg =>
    letI : KP := ⟨[65, 69, 74, 79, 83]⟩
    letI : HF := ⟨[rfTk x.2.2.1 0 ((some [((ts.getD i tk0).1, (ts.getD i tk0).2.1, (ts.getD i tk0).2.2.1, 0)]).getD [])]⟩
    refine dr_enter [0] (by kernel_rfl) (by kernel_rfl) S (by kernel_rfl) (fun aa w D => ?_) (fun f hf => by have e1 : f = rfTk x.2.2.1 0 ((some [((ts.getD i tk0).1, (ts.getD i tk0).2.1, (ts.getD i tk0).2.2.1, 0)]).getD []) := List.mem_singleton.1 hf; subst e1; simp)
    refine dr_tix 1 D (by kernel_rfl) (by kernel_rfl) (by kernel_rfl) (b := x.2.2.1) (off := 0) (len := 1) (n := 0) (size := 4) (ix := 0) (by rw [← hx1]; kernel_rfl) rfl (by decide) fun aa D => ?_
    refine dr_tld 2 D (by kernel_rfl) (by kernel_rfl) (by kernel_rfl) (ty := 30) (ad := ⟨x.2.2.1, 0 + 0 * 4, none⟩) (v := tkA ((ts.getD i tk0).1, (ts.getD i tk0).2.1, (ts.getD i tk0).2.2.1, 0)) (fun W hW => ld_tk (j := 0) (ts := [((ts.getD i tk0).1, (ts.getD i tk0).2.1, (ts.getD i tk0).2.2.1, 0)]) (show TkAt W x.2.2.1 0 ((some [((ts.getD i tk0).1, (ts.getD i tk0).2.1, (ts.getD i tk0).2.2.1, 0)]).getD []) from hW (rfTk x.2.2.1 0 ((some [((ts.getD i tk0).1, (ts.getD i tk0).2.1, (ts.getD i tk0).2.2.1, 0)]).getD [])) (by show _ ∈ [rfTk x.2.2.1 0 ((some [((ts.getD i tk0).1, (ts.getD i tk0).2.1, (ts.getD i tk0).2.2.1, 0)]).getD [])]; simp)) Nat.zero_lt_one) (by kernel_rfl) fun aa D => ?_
    refine dr_ex2 (fun d v c a w h => by cases d <;> exact h) 4 (op := .binOp .neq 30 (.tmp 63) (.tmp 64) 30) (ty := 4) (v := .bool false) D (by kernel_rfl) (by kernel_rfl) (by kernel_rfl) (by kernel_rfl) (ex_neT (p := ((ts.getD i tk0).1, (ts.getD i tk0).2.1, (ts.getD i tk0).2.2.1, 0)) (q := ((ts.getD i tk0).1, (ts.getD i tk0).2.1, (ts.getD i tk0).2.2.1, 0)) tkb tkb (by kernel_rfl) (by kernel_rfl) (by rw [decide_eq_true rfl]; rfl)) fun aa D => ?_
    refine dr_ex2 (fun d v c a w h => by cases d <;> exact h) 8 (op := .binOp .lss 3 (.tmp 68) (.const (.int .i64 0)) 3) (ty := 4) (v := .bool false) D (by kernel_rfl) (by kernel_rfl) (by kernel_rfl) (by kernel_rfl) (ex_ltI (ki := .i64) (p := ((ts.getD i tk0).2.2.1 : Int)) (q := 0) (by kernel_rfl) (by kernel_rfl) (decide_eq_false (by omega))) fun aa D => ?_
    refine dr_ex2 (fun d v c a w h => by cases d <;> exact h) 13 (op := .binOp .gtr 3 (.tmp 73) (.const (.int .i64 1099511627776)) 3) (ty := 4) (v := .bool false) D (by kernel_rfl) (by kernel_rfl) (by kernel_rfl) (by kernel_rfl) (ex_gtI (ki := .i64) (p := ((ts.getD i tk0).2.2.1 : Int)) (q := 1099511627776) (by kernel_rfl) (by kernel_rfl) (decide_eq_false (by omega))) fun aa D => ?_
    refine dr_ex2 (fun d v c a w h => by cases d <;> exact h) 18 (op := .binOp .neq 3 (.tmp 78) (.const (.int .i64 2)) 3) (ty := 4) (v := .bool true) D (by kernel_rfl) (by kernel_rfl) (by kernel_rfl) (by kernel_rfl) (ex_neI (ki := .i64) (p := ((ts.getD i tk0).1 : Int)) (q := 2) (by kernel_rfl) (by kernel_rfl) (by rw [decide_eq_false (by omega)]; rfl)) fun aa D => ?_
    refine dr_ex2 (fun d v c a w h => by cases d <;> exact h) 22 (op := .binOp .neq 3 (.tmp 82) (.const (.int .i64 0)) 3) (ty := 4) (v := .bool false) D (by kernel_rfl) (by kernel_rfl) (by kernel_rfl) (by kernel_rfl) (ex_neI (ki := .i64) (p := ((ts.getD i tk0).2.2.1 : Int)) (q := 0) (by kernel_rfl) (by kernel_rfl) (by rw [decide_eq_true (by have := tkz hk; omega)]; rfl)) fun aa D => ?_
    refine dr_end D (by kernel_rfl) fun S => ?_
    refine sy_run ⟨0, []⟩ 60 S fun bs aa w S => ?_
    have S := S.sub (F' := [rfTk b 0 ts, rfSg]) (by intro f hf; simp only [List.mem_cons, List.not_mem_nil, or_false] at hf; rcases hf with rfl | rfl <;> simp)
    have S2 := S.to [] (ltS n q ts.length c 0 i) (by kernel_rfl) (by kernel_rfl) (by kernel_rfl) (by kernel_rfl) (by kernel_rfl)
    refine sy_at2 (k' := lt15 m) (by kernel_rfl) ?_
    exact lt_15 w0 n hn ts q c b hq htl hG m i hi ih aa w S2
theorem lt_a (w0 : World) (n : Nat) (hn : n < 18446744073709551616) (ts : List Tk) (q : Option Addr) (c b : Nat) (hq : ts.length = 0 ∨ q = some ⟨b, 0, none⟩) (htl : ts.length ≤ 600) (hG : ∀ i, i < ts.length → tkG (ts.getD i tk0) ∧ (i + 1 < ts.length → tkJ (ts.getD i tk0) (ts.getD (i + 1) tk0))) : ∀ (m i : Nat), i + m = ts.length → ∀ (aa : Act) (w : World) (S : Sy w0 [] [] (ltS n q ts.length c 0 (i)) [rfTk b 0 ts, rfSg] aa w), post Tryd.prog (.rnd (m + 1) (bodyL ltC) :: ltC.k.tail) (bodyPost Tryd.prog Tryd.f8 (fun e w' => e = .returned (.bool true) ∧ Below w0.heap.size w0 w')) .normal aa w := by
  intro m
  induction m with
  | zero => intro i hi aa w S; obtain rfl : i = ts.length := by omega
            exact lt_e w0 n hn ts q c b hq htl hG 0 0 aa w S
  | succ m ih => intro i hi aa w S; exact lt_s w0 n hn ts q c b hq htl hG (m + 1) i (by omega) (fun aa w S => ih (i + 1) (by omega) aa w S) aa w S
set_option maxHeartbeats 8000000 in
theorem lt_all (w0 : World) (hG : rfSg.P w0) (l : List Nat) (hl : ∀ b ∈ l, b < 256) (n : Nat) (hn : n < 18446744073709551616) : Calls Tryd.prog 8 #[.string (strOf l), .int .u64 (n : Int)] w0 (fun e w' => e = .returned (.bool true) ∧ Below w0.heap.size w0 w') := by
  refine sy_enterF [] [rfSg] (by intro f hf; simp only [List.mem_singleton] at hf; subst hf; exact hG) Tryd.func8 rfl rfl fun aa S => ?_
  refine sy_run ⟨0, [1]⟩ 60 S fun bs aa w S => ?_
  refine sy_reg S fun S => ?_
  refine sy_call1 S (sane4 w (S.fact (f := rfSg) (by simp))) (by kernel_rfl) fun aa w hb S => ?_
  refine sy_run ⟨0, [2]⟩ 60 S fun bs aa w S => ?_
  refine sy_reg S fun S => ?_
  refine sy_ops 2 S fun bs aa w S => ?_
  refine sy_cast 22 S (congrArg (Value.int .i64) (by rw [strOf_size] : ((strOf l).size : Int) = (l.length : Int))) (by kernel_rfl) fun S => ?_
  refine sy_ops 1 S fun bs aa w S => ?_
  by_cases h6 : l.length ≤ 600
  case neg =>
    refine sy_cast 23 S (congrArg Value.bool (decide_eq_true (by omega) : decide ((l.length : Int) > 600) = true)) (by kernel_rfl) fun S => ?_
    refine sy_run ⟨0, []⟩ 60 S fun bs aa w S => ?_
    exact sy_ret S (by kernel_rfl) (by kernel_rfl) fun hg => ⟨rfl, bel_gr hg⟩
  refine sy_cast 23 S (congrArg Value.bool (decide_eq_false (by omega) : decide ((l.length : Int) > 600) = false)) (by kernel_rfl) fun S => ?_
  have hrl := lex_len (l := l)
  cases hR : lexW l 0 with
  | none =>
    refine sy_run ⟨0, [4]⟩ 60 S fun bs aa w S => ?_
    refine sy_reg S fun S => ?_
    refine sy_ops 1 S fun bs aa w S => ?_
    refine sy_nm S fun bs S => ?_
    have hlt := fun i hi => S.lt (i := i) hi
    refine sy_call S (X := Option Addr × Nat × Nat × Nat) (val := fun q => wdV q (none)) (C := fun q w' => wdC2 w (none) q w') (by have q := words_t w (S.fact (f := rfSg) (by simp)) l (hl) (by omega); rw [hR] at q; exact q.mono fun _ _ h => wd_row h) (by kernel_rfl) fun x aa w hx hb S => ?_
    have S := S.add (rfTk x.2.2.1 0 ((none).getD [])) hx.2.1 (fun i hi hbl => by have h1 := hlt i hi; have h2 := hbl.1; have h3 := hx.2.2.1.resolve_left hbl.2; omega)
    refine sy_run ⟨0, []⟩ 60 S fun bs aa w S => ?_
    have S2 := S.to [] (ltS n x.1 ([] : List Tk).length x.2.1 (erO none) 0) (by kernel_rfl) (by kernel_rfl) (by kernel_rfl) (by kernel_rfl) (by kernel_rfl)
    refine sy_loop 1 (by kernel_rfl) ?_
    refine sy_at2 (k' := (.rnd (0 + 1) (bodyL ltC) :: ltC.k.tail)) (by kernel_rfl) ?_
    exact lt_e w0 n hn [] x.1 x.2.1 x.2.2.1 (Or.inl rfl) (Nat.zero_le _) (fun i hi => absurd hi (Nat.not_lt_zero _)) 0 (erO none) aa w S2
  | some ts =>
    rw [hR] at hrl
    have hrl : ts.length ≤ l.length := hrl
    refine sy_run ⟨0, [4]⟩ 60 S fun bs aa w S => ?_
    refine sy_reg S fun S => ?_
    refine sy_ops 1 S fun bs aa w S => ?_
    refine sy_nm S fun bs S => ?_
    have hlt := fun i hi => S.lt (i := i) hi
    refine sy_call S (X := Option Addr × Nat × Nat × Nat) (val := fun q => wdV q (some ts)) (C := fun q w' => wdC2 w (some ts) q w') (by have q := words_t w (S.fact (f := rfSg) (by simp)) l (hl) (by omega); rw [hR] at q; exact q.mono fun _ _ h => wd_row h) (by kernel_rfl) fun x aa w hx hb S => ?_
    have S := S.add (rfTk x.2.2.1 0 ((some ts).getD [])) hx.2.1 (fun i hi hbl => by have h1 := hlt i hi; have h2 := hbl.1; have h3 := hx.2.2.1.resolve_left hbl.2; omega)
    refine sy_run ⟨0, []⟩ 60 S fun bs aa w S => ?_
    have S2 := S.to [] (ltS n x.1 ts.length x.2.1 0 0) (by kernel_rfl) (by kernel_rfl) (by kernel_rfl) (by kernel_rfl) (by kernel_rfl)
    refine sy_loop (ts.length + 1) (by kernel_rfl) ?_
    refine sy_at2 (k' := (.rnd (ts.length + 1) (bodyL ltC) :: ltC.k.tail)) (by kernel_rfl) ?_
    exact lt_a w0 n hn ts x.1 x.2.1 x.2.2.1 hx.1 (by omega) (all_G h6 hR) ts.length 0 (by omega) aa w S2
end Go.Proofs.YthkgmahkmflfkaaDoor
