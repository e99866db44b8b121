
/-
  Layer 4: rows of tokens compared.
-/
import Derived.Test.YthkgmahkmflfkaaDoorRows
import Derived.Test.YthkgmahkmflfkaaDoorBase
import Derived.Test.YthkgmahkmflfkaaDoorLx9
import Derived.WalkKit
namespace Go.Proofs.YthkgmahkmflfkaaDoor
open Go Go.RowKit SZ
set_option linter.unusedVariables false
set_option linter.unusedSimpArgs false
set_option maxRecDepth 100000
attribute [local irreducible] post GD Nxt NxtAll
def tkA (t : Tk) : Value := .agg #[.int .i64 (t.1 : Int), .string (strOf t.2.1), .int .i64 (t.2.2.1 : Int), .int .i64 (t.2.2.2 : Int)]
theorem tk_struct : Tryd.prog.underlying 30 = some (.struct (Tryd.prog.fieldsOf 30)) := by kernel_rfl
theorem tk_held : Tryd.prog.stoodInHeld 30 = false := by kernel_rfl
theorem tk_guard : Tryd.prog.eqGuardType Tryd.prog.depth 30 = false := by kernel_rfl
theorem tk_neq (a b : Tk) (ha : ∀ x ∈ a.2.1, x < 256) (hb : ∀ x ∈ b.2.1, x < 256) (w : World) : (binOp .neq 30 (tkA a) (tkA b)).run Tryd.prog w = .ok (.bool (!decide (a = b))) w := by
  unfold tkA
  rw [run_neq_struct, show (10000 : Nat) = 9999 + 1 from rfl, run_equalIn_agg w 9999 30 _ _ tk_struct tk_held]
  have u3 := Tryd.underlying3
  have a3 := Tryd.isAgg3
  have z3 := Tryd.sizeOf3
  have u9 := Tryd.underlying9
  have a9 := Tryd.isAgg9
  have z9 := Tryd.sizeOf9
  simp only [Program.fieldsOf, Tryd.underlying30]
  go_simp
  have hs := str_eq ha hb
  obtain ⟨a1, a2, a3, a4⟩ := a
  obtain ⟨b1, b2, b3, b4⟩ := b
  simp only at hs
  simp only [Prod.mk.injEq] at *
  by_cases h1 : a1 = b1 <;> by_cases h2 : a2 = b2 <;> by_cases h3 : a3 = b3 <;> by_cases h4 : a4 = b4 <;> simp_all <;> omega
theorem ex_neT {s : SS} {bs : List Nat} {x y : Operand} {t' ty : TypeId} {p q : Tk} {b : Bool} (hp : ∀ x ∈ p.2.1, x < 256) (hq : ∀ x ∈ q.2.1, x < 256) (hx : s.val x = some (.v (tkA p))) (hy : s.val y = some (.v (tkA q))) (hb : (!decide (p = q)) = b) :
    ∀ (o : Oper) (ρ : Operand → Value) (W : World), o.op = .binOp .neq 30 x y t' → o.type = ty → (∀ x y, s.val x = some y → ρ x = den bs y) → (execOp ρ o).run Tryd.prog W = .ok (.value (.bool b)) W := by
  intro o ρ W h1 h2 h3
  have e1 : ρ x = tkA p := h3 x _ hx
  have e2 : ρ y = tkA q := h3 y _ hy
  subst hb
  have hg : ∀ W, (eqGuard .neq 30 x y (tkA p) (tkA q)).run Tryd.prog W = .ok () W := fun W => run_eqGuard_agg W .neq 30 x y _ _ tk_guard
  have hr : ∀ W, (binOp .neq 30 (tkA p) (tkA q)).run Tryd.prog W = .ok (.bool (!decide (p = q))) W := fun W => tk_neq p q hp hq W
  unfold execOp
  simp only [h1, e1, e2, hg, hr, Sem.run_bind, Sem.run_pure, Result.andThen_ok]
def tk0 : Tk := (0, [], 0, 0)
/-- Tokens in memory. -/
def TkAt (w : World) (b o : Nat) (ts : List Tk) : Prop := ∀ j, j < ts.length → w.cell? ⟨b, o + j * 4, none⟩ = some (.int .i64 ((ts.getD j tk0).1 : Int)) ∧ w.cell? ⟨b, o + j * 4 + 1, none⟩ = some (.string (strOf (ts.getD j tk0).2.1)) ∧ w.cell? ⟨b, o + j * 4 + 2, none⟩ = some (.int .i64 ((ts.getD j tk0).2.2.1 : Int)) ∧ w.cell? ⟨b, o + j * 4 + 3, none⟩ = some (.int .i64 ((ts.getD j tk0).2.2.2 : Int))
def rfTk (b o : Nat) (ts : List Tk) : RF := ⟨fun b' => b' = b ∧ ts.length ≠ 0, fun w => TkAt w b o ts, fun w h b' hb => by
  obtain ⟨rfl, hl⟩ := hb
  exact World.block_lt_of_cell? w _ (h 0 (by omega)).1, fun w w' h hb j hj => by
  have e := fun p => World.cell?_of_block (a := ⟨b, p, none⟩) (hb b ⟨rfl, by omega⟩)
  obtain ⟨h1, h2, h3, h4⟩ := h j hj
  exact ⟨(e _).trans h1, (e _).trans h2, (e _).trans h3, (e _).trans h4⟩⟩
theorem ld_tk {w : World} {b o j : Nat} {ts : List Tk} (h : TkAt w b o ts) (hj : j < ts.length) : (loadVar 30 ⟨b, o + j * 4, none⟩).run Tryd.prog w = .ok (tkA (ts.getD j tk0)) w := by
  obtain ⟨h0, h1, h2, h3⟩ := h j hj
  refine run_loadVar_mid w b (o + j * 4) 30 [.int .i64 ((ts.getD j tk0).1 : Int), .string (strOf (ts.getD j tk0).2.1), .int .i64 ((ts.getD j tk0).2.2.1 : Int), .int .i64 ((ts.getD j tk0).2.2.2 : Int)] _ ?_ Tryd.underlying30 rfl (by kernel_rfl)
  intro i x hi
  match i, hi with
  | 0, hi => simp at hi; subst hi; exact h0
  | 1, hi => simp at hi; subst hi; exact h1
  | 2, hi => simp at hi; subst hi; exact h2
  | 3, hi => simp at hi; subst hi; exact h3
  | i + 4, hi => simp at hi
theorem tkC_at : ∀ (ts : List Tk) (j : Nat), j < ts.length → (tkC ts)[j * 4]? = some (.int .i64 ((ts.getD j tk0).1 : Int)) ∧ (tkC ts)[j * 4 + 1]? = some (.string (strOf (ts.getD j tk0).2.1)) ∧ (tkC ts)[j * 4 + 2]? = some (.int .i64 ((ts.getD j tk0).2.2.1 : Int)) ∧ (tkC ts)[j * 4 + 3]? = some (.int .i64 ((ts.getD j tk0).2.2.2 : Int))
  | t :: r, 0, _ => ⟨rfl, rfl, rfl, rfl⟩
  | t :: r, j + 1, h => by
    have ih := tkC_at r j (by simpa using h)
    have e : ∀ k, (tkC (t :: r))[(j + 1) * 4 + k]? = (tkC r)[j * 4 + k]? := fun k => by
      show (([.int .i64 (t.1 : Int), .string (strOf t.2.1), .int .i64 (t.2.2.1 : Int), .int .i64 (t.2.2.2 : Int)] : List Value) ++ tkC r)[(j + 1) * 4 + k]? = _
      rw [List.getElem?_append_right (by simp; omega)]
      congr 1
      simp
      omega
    have e0 := e 0
    simp only [Nat.add_zero] at e0
    rw [e0, e 1, e 2, e 3]
    exact ih
/-- A row of tokens that a call has made. -/
theorem tk_of {w : World} {B : Nat} {v : Value} {ts : List Tk} (h : w.ownsRow B 30 4 v ts.length (tkC ts)) : ∃ a c b, v = .slice a ts.length c ∧ (ts.length = 0 ∨ a = some ⟨b, 0, none⟩) ∧ TkAt w b 0 ts ∧ (ts.length = 0 ∨ B ≤ b) ∧ (a = none → c = 0) := by
  have h0 := h
  rcases h.2 with ⟨rfl, hz⟩ | ⟨g, cap, cur, rfl, hb, hg, hn, hc, _, _⟩
  · exact ⟨none, 0, 0, by rw [hz], Or.inl hz, fun j hj => by omega, Or.inl hz, fun _ => rfl⟩
  · refine ⟨some ⟨g, 0, none⟩, cap, g, rfl, Or.inr rfl, fun j hj => ?_, Or.inr hb, fun h => by cases h⟩
    obtain ⟨q1, q2, q3, q4⟩ := tkC_at ts j hj
    rw [Nat.zero_add]
    refine ⟨?_, ?_, ?_, ?_⟩
    · rw [h0.cellAt _ (by omega)]; exact q1
    · rw [h0.cellAt _ (by omega)]; exact q2
    · rw [h0.cellAt _ (by omega)]; exact q3
    · rw [h0.cellAt _ (by omega)]; exact q4
noncomputable def smC : Cfg := ⟨goZ 60 [0] [.code (bodyOf Tryd.f12)], ⟨0, [], []⟩⟩
noncomputable def smS (a1 a2 : Option Addr) (n1 n2 c1 c2 j : Nat) : SS := ⟨26, [(0, .v (.slice a1 n1 c1)), (1, .v (.slice a2 n2 c2)), (5, .v (.int .i64 (j : Int)))], []⟩
theorem eq_all {xs ys : List Tk} (hn : xs.length = ys.length) (h : ∀ i, i < xs.length → xs.getD i tk0 = ys.getD i tk0) : xs = ys := by
  apply List.ext_getElem hn
  intro i h1 h2
  have := h i h1
  simpa [List.getD, List.getElem?_eq_getElem h1, List.getElem?_eq_getElem h2] using this
set_option maxHeartbeats 8000000 in
theorem sm_e (w0 : World) (xs ys : List Tk) (a1 a2 : Option Addr) (c1 c2 b1 o1 b2 o2 : Nat) (h1 : xs.length = 0 ∨ a1 = some ⟨b1, o1, none⟩) (h2 : ys.length = 0 ∨ a2 = some ⟨b2, o2, none⟩) (hl : xs.length ≤ 100000) (hx : ∀ t ∈ xs, ∀ b ∈ t.2.1, b < 256) (hy : ∀ t ∈ ys, ∀ b ∈ t.2.1, b < 256) (hn : xs.length = ys.length) (m : Nat) (hv : ∀ i, i < xs.length → xs.getD i tk0 = ys.getD i tk0) (aa : Act) (w : World) (S : Sy w0 [] [] (smS a1 a2 xs.length ys.length c1 c2 (xs.length)) [rfTk b1 o1 xs, rfTk b2 o2 ys] aa w) : post Tryd.prog (.rnd (m + 1) (bodyL smC) :: smC.k.tail) (bodyPost Tryd.prog Tryd.f12 (fun e w' => e = .returned (.bool (decide (xs = ys))) ∧ Below w0.heap.size w0 w')) .normal aa w := by
  refine sy_run (c := ⟨(.rnd (m + 1) (bodyL smC) :: smC.k.tail), smS a1 a2 xs.length ys.length c1 c2 xs.length⟩) ⟨0, [4]⟩ 50 S fun bs aa w S => ?_
  refine sy_reg S fun S => ?_
  refine sy_ops 4 S fun bs aa w S => ?_
  refine sy_cast 14 S (congrArg Value.bool (decide_eq_false (by omega) : decide ((xs.length : Int) < (xs.length : Int)) = false)) (by kernel_rfl) fun S => ?_
  refine sy_run ⟨0, []⟩ 60 S fun bs aa w S => ?_
  rw [decide_eq_true (eq_all hn hv)]
  exact sy_ret S (by kernel_rfl) (by kernel_rfl) fun hg => ⟨rfl, bel_gr hg⟩
set_option maxHeartbeats 8000000 in
theorem sm_s (w0 : World) (xs ys : List Tk) (a1 a2 : Option Addr) (c1 c2 b1 o1 b2 o2 : Nat) (h1 : xs.length = 0 ∨ a1 = some ⟨b1, o1, none⟩) (h2 : ys.length = 0 ∨ a2 = some ⟨b2, o2, none⟩) (hl : xs.length ≤ 100000) (hx : ∀ t ∈ xs, ∀ b ∈ t.2.1, b < 256) (hy : ∀ t ∈ ys, ∀ b ∈ t.2.1, b < 256) (hn : xs.length = ys.length) (m j : Nat) (hj : j < xs.length) (hp : (xs.getD j tk0) = (ys.getD j tk0)) (ih : (∀ i, i < j + 1 → xs.getD i tk0 = ys.getD i tk0) → ∀ (aa : Act) (w : World) (S : Sy w0 [] [] (smS a1 a2 xs.length ys.length c1 c2 (j + 1)) [rfTk b1 o1 xs, rfTk b2 o2 ys] aa w), post Tryd.prog (.rnd (m) (bodyL smC) :: smC.k.tail) (bodyPost Tryd.prog Tryd.f12 (fun e w' => e = .returned (.bool (decide (xs = ys))) ∧ Below w0.heap.size w0 w')) .normal aa w) (hv : ∀ i, i < j → xs.getD i tk0 = ys.getD i tk0) (aa : Act) (w : World) (S : Sy w0 [] [] (smS a1 a2 xs.length ys.length c1 c2 (j)) [rfTk b1 o1 xs, rfTk b2 o2 ys] aa w) : post Tryd.prog (.rnd (m + 1) (bodyL smC) :: smC.k.tail) (bodyPost Tryd.prog Tryd.f12 (fun e w' => e = .returned (.bool (decide (xs = ys))) ∧ Below w0.heap.size w0 w')) .normal aa w := by
  refine sy_run (c := ⟨(.rnd (m + 1) (bodyL smC) :: smC.k.tail), smS a1 a2 xs.length ys.length c1 c2 j⟩) ⟨0, [4]⟩ 50 S fun bs aa w S => ?_
  refine sy_reg S fun S => ?_
  refine sy_ops 4 S fun bs aa w S => ?_
  refine sy_cast 14 S (congrArg Value.bool (decide_eq_true (by omega) : decide ((j : Int) < (xs.length : Int)) = true)) (by kernel_rfl) fun S => ?_
  refine sy_run ⟨0, []⟩ 60 S fun bs aa w S => ?_
  letI : KP := ⟨[25]⟩
  letI : HF := ⟨[rfTk b1 o1 xs, rfTk b2 o2 ys]⟩
  refine dr_enter [] (by kernel_rfl) (by kernel_rfl) S (by kernel_rfl) (fun aa w D => ?_) (fun f hf => by have hf2 : f ∈ [rfTk b1 o1 xs, rfTk b2 o2 ys] := hf; simp only [List.mem_cons, List.not_mem_nil, or_false] at hf2; rcases hf2 with rfl | rfl <;> simp)
  refine dr_tix 2 D (by kernel_rfl) (by kernel_rfl) (by kernel_rfl) (b := b1) (off := o1) (len := xs.length) (n := j) (size := 4) (ix := (j : Int)) (by rw [← h1.resolve_left (by omega)]; kernel_rfl) rfl (by omega) fun aa D => ?_
  refine dr_tld 3 D (by kernel_rfl) (by kernel_rfl) (by kernel_rfl) (ty := 30) (ad := ⟨b1, o1 + j * 4, none⟩) (v := tkA (xs.getD j tk0)) (fun W hW => ld_tk (j := j) (show TkAt W b1 o1 xs from hW (rfTk b1 o1 xs) (by show _ ∈ [rfTk b1 o1 xs, rfTk b2 o2 ys]; simp)) (by omega)) (by kernel_rfl) fun aa D => ?_
  refine dr_tix 6 D (by kernel_rfl) (by kernel_rfl) (by kernel_rfl) (b := b2) (off := o2) (len := ys.length) (n := j) (size := 4) (ix := (j : Int)) (by rw [← h2.resolve_left (by omega)]; kernel_rfl) rfl (by omega) fun aa D => ?_
  refine dr_tld 7 D (by kernel_rfl) (by kernel_rfl) (by kernel_rfl) (ty := 30) (ad := ⟨b2, o2 + j * 4, none⟩) (v := tkA (ys.getD j tk0)) (fun W hW => ld_tk (j := j) (show TkAt W b2 o2 ys from hW (rfTk b2 o2 ys) (by show _ ∈ [rfTk b1 o1 xs, rfTk b2 o2 ys]; simp)) (by omega)) (by kernel_rfl) fun aa D => ?_
  refine dr_ex2 (fun d v c a w h => by cases d <;> exact h) 8 (op := .binOp .neq 30 (.tmp 20) (.tmp 24) 30) (ty := 4) (v := .bool false) D (by kernel_rfl) (by kernel_rfl) (by kernel_rfl) (by kernel_rfl) (ex_neT (p := (xs.getD j tk0)) (q := (ys.getD j tk0)) (hx _ (getD_mem xs j tk0 (by omega))) (hy _ (getD_mem ys j tk0 (by omega))) (by kernel_rfl) (by kernel_rfl) (by rw [decide_eq_true hp]; rfl)) fun aa D => ?_
  refine dr_end D (by kernel_rfl) fun S => ?_
  refine sy_run ⟨0, [5]⟩ 60 S fun bs aa w S => ?_
  refine sy_reg S fun S => ?_
  refine sy_ops 2 S fun bs aa w S => ?_
  refine sy_cast 16 S (congrArg (Value.int .i64) (by rw [IntKind.wrap_i64]; omega : IntKind.i64.wrap ((j : Int) + 1) = ((j + 1 : Nat) : Int))) (by kernel_rfl) fun S => ?_
  refine sy_run ⟨0, [999]⟩ 50 S fun bs aa w S => ?_
  have S2 := S.to [] (smS a1 a2 xs.length ys.length c1 c2 (j + 1)) (by kernel_rfl) (by kernel_rfl) (by kernel_rfl) (by kernel_rfl) (by kernel_rfl)
  refine sy_at2 (k' := (.rnd (m) (bodyL smC) :: smC.k.tail)) (by kernel_rfl) ?_
  exact ih (fun i hi => by rcases Nat.lt_or_ge i j with h | h; exact hv i h; rw [show i = j by omega]; exact hp) aa w S2
set_option maxHeartbeats 8000000 in
theorem sm_b (w0 : World) (xs ys : List Tk) (a1 a2 : Option Addr) (c1 c2 b1 o1 b2 o2 : Nat) (h1 : xs.length = 0 ∨ a1 = some ⟨b1, o1, none⟩) (h2 : ys.length = 0 ∨ a2 = some ⟨b2, o2, none⟩) (hl : xs.length ≤ 100000) (hx : ∀ t ∈ xs, ∀ b ∈ t.2.1, b < 256) (hy : ∀ t ∈ ys, ∀ b ∈ t.2.1, b < 256) (hn : xs.length = ys.length) (m j : Nat) (hj : j < xs.length) (hp : (xs.getD j tk0) ≠ (ys.getD j tk0)) (aa : Act) (w : World) (S : Sy w0 [] [] (smS a1 a2 xs.length ys.length c1 c2 (j)) [rfTk b1 o1 xs, rfTk b2 o2 ys] aa w) : post Tryd.prog (.rnd (m + 1) (bodyL smC) :: smC.k.tail) (bodyPost Tryd.prog Tryd.f12 (fun e w' => e = .returned (.bool (decide (xs = ys))) ∧ Below w0.heap.size w0 w')) .normal aa w := by
  refine sy_run (c := ⟨(.rnd (m + 1) (bodyL smC) :: smC.k.tail), smS a1 a2 xs.length ys.length c1 c2 j⟩) ⟨0, [4]⟩ 50 S fun bs aa w S => ?_
  refine sy_reg S fun S => ?_
  refine sy_ops 4 S fun bs aa w S => ?_
  refine sy_cast 14 S (congrArg Value.bool (decide_eq_true (by omega) : decide ((j : Int) < (xs.length : Int)) = true)) (by kernel_rfl) fun S => ?_
  refine sy_run ⟨0, []⟩ 60 S fun bs aa w S => ?_
  letI : KP := ⟨[25]⟩
  letI : HF := ⟨[rfTk b1 o1 xs, rfTk b2 o2 ys]⟩
  refine dr_enter [] (by kernel_rfl) (by kernel_rfl) S (by kernel_rfl) (fun aa w D => ?_) (fun f hf => by have hf2 : f ∈ [rfTk b1 o1 xs, rfTk b2 o2 ys] := hf; simp only [List.mem_cons, List.not_mem_nil, or_false] at hf2; rcases hf2 with rfl | rfl <;> simp)
  refine dr_tix 2 D (by kernel_rfl) (by kernel_rfl) (by kernel_rfl) (b := b1) (off := o1) (len := xs.length) (n := j) (size := 4) (ix := (j : Int)) (by rw [← h1.resolve_left (by omega)]; kernel_rfl) rfl (by omega) fun aa D => ?_
  refine dr_tld 3 D (by kernel_rfl) (by kernel_rfl) (by kernel_rfl) (ty := 30) (ad := ⟨b1, o1 + j * 4, none⟩) (v := tkA (xs.getD j tk0)) (fun W hW => ld_tk (j := j) (show TkAt W b1 o1 xs from hW (rfTk b1 o1 xs) (by show _ ∈ [rfTk b1 o1 xs, rfTk b2 o2 ys]; simp)) (by omega)) (by kernel_rfl) fun aa D => ?_
  refine dr_tix 6 D (by kernel_rfl) (by kernel_rfl) (by kernel_rfl) (b := b2) (off := o2) (len := ys.length) (n := j) (size := 4) (ix := (j : Int)) (by rw [← h2.resolve_left (by omega)]; kernel_rfl) rfl (by omega) fun aa D => ?_
  refine dr_tld 7 D (by kernel_rfl) (by kernel_rfl) (by kernel_rfl) (ty := 30) (ad := ⟨b2, o2 + j * 4, none⟩) (v := tkA (ys.getD j tk0)) (fun W hW => ld_tk (j := j) (show TkAt W b2 o2 ys from hW (rfTk b2 o2 ys) (by show _ ∈ [rfTk b1 o1 xs, rfTk b2 o2 ys]; simp)) (by omega)) (by kernel_rfl) fun aa D => ?_
  refine dr_ex2 (fun d v c a w h => by cases d <;> exact h) 8 (op := .binOp .neq 30 (.tmp 20) (.tmp 24) 30) (ty := 4) (v := .bool true) D (by kernel_rfl) (by kernel_rfl) (by kernel_rfl) (by kernel_rfl) (ex_neT (p := (xs.getD j tk0)) (q := (ys.getD j tk0)) (hx _ (getD_mem xs j tk0 (by omega))) (hy _ (getD_mem ys j tk0 (by omega))) (by kernel_rfl) (by kernel_rfl) (by rw [decide_eq_false hp]; rfl)) fun aa D => ?_
  refine dr_end D (by kernel_rfl) fun S => ?_
  refine sy_run ⟨0, []⟩ 60 S fun bs aa w S => ?_
  rw [decide_eq_false (fun q : xs = ys => hp (by rw [q]))]
  exact sy_ret S (by kernel_rfl) (by kernel_rfl) fun hg => ⟨rfl, bel_gr hg⟩
theorem sm_a (w0 : World) (xs ys : List Tk) (a1 a2 : Option Addr) (c1 c2 b1 o1 b2 o2 : Nat) (h1 : xs.length = 0 ∨ a1 = some ⟨b1, o1, none⟩) (h2 : ys.length = 0 ∨ a2 = some ⟨b2, o2, none⟩) (hl : xs.length ≤ 100000) (hx : ∀ t ∈ xs, ∀ b ∈ t.2.1, b < 256) (hy : ∀ t ∈ ys, ∀ b ∈ t.2.1, b < 256) (hn : xs.length = ys.length) : ∀ (m j : Nat), j + m = xs.length → ∀ (hv : ∀ i, i < j → xs.getD i tk0 = ys.getD i tk0) (aa : Act) (w : World) (S : Sy w0 [] [] (smS a1 a2 xs.length ys.length c1 c2 (j)) [rfTk b1 o1 xs, rfTk b2 o2 ys] aa w), post Tryd.prog (.rnd (m + 1) (bodyL smC) :: smC.k.tail) (bodyPost Tryd.prog Tryd.f12 (fun e w' => e = .returned (.bool (decide (xs = ys))) ∧ Below w0.heap.size w0 w')) .normal aa w := by
  intro m
  induction m with
  | zero => intro j hj hv aa w S; obtain rfl : j = xs.length := by omega
            exact sm_e w0 xs ys a1 a2 c1 c2 b1 o1 b2 o2 h1 h2 hl hx hy hn 0 hv aa w S
  | succ m ih =>
    intro j hj hv aa w S
    by_cases hp : (xs.getD j tk0) = (ys.getD j tk0)
    · exact sm_s w0 xs ys a1 a2 c1 c2 b1 o1 b2 o2 h1 h2 hl hx hy hn (m + 1) j (by omega) hp (fun h => ih (j + 1) (by omega) h) hv aa w S
    · exact sm_b w0 xs ys a1 a2 c1 c2 b1 o1 b2 o2 h1 h2 hl hx hy hn (m + 1) j (by omega) hp aa w S
set_option maxHeartbeats 8000000 in
theorem same_t (w0 : World) (xs ys : List Tk) (a1 a2 : Option Addr) (c1 c2 b1 o1 b2 o2 : Nat) (h1 : xs.length = 0 ∨ a1 = some ⟨b1, o1, none⟩) (h2 : ys.length = 0 ∨ a2 = some ⟨b2, o2, none⟩) (hl : xs.length ≤ 100000) (hx : ∀ t ∈ xs, ∀ b ∈ t.2.1, b < 256) (hy : ∀ t ∈ ys, ∀ b ∈ t.2.1, b < 256) (hA : TkAt w0 b1 o1 xs) (hB : TkAt w0 b2 o2 ys) : Calls Tryd.prog 12 #[.slice a1 xs.length c1, .slice a2 ys.length c2] w0 (fun e w' => e = .returned (.bool (decide (xs = ys))) ∧ Below w0.heap.size w0 w') := by
  refine sy_enterF [] [rfTk b1 o1 xs, rfTk b2 o2 ys] (by intro f hf; simp only [List.mem_cons, List.not_mem_nil, or_false] at hf; rcases hf with rfl | rfl; exact hA; exact hB) Tryd.func12 rfl rfl fun aa S => ?_
  refine sy_run ⟨0, [1]⟩ 60 S fun bs aa w S => ?_
  refine sy_reg S fun S => ?_
  refine sy_ops 5 S fun bs aa w S => ?_
  by_cases hn : xs.length = ys.length
  case neg =>
    refine sy_cast 10 S (congrArg Value.bool (by rw [decide_eq_false (by omega)]; rfl : (!decide ((xs.length : Int) = (ys.length : Int))) = true)) (by kernel_rfl) fun S => ?_
    refine sy_run ⟨0, []⟩ 60 S fun bs aa w S => ?_
    rw [decide_eq_false (fun q : xs = ys => hn (by rw [q]))]
    exact sy_ret S (by kernel_rfl) (by kernel_rfl) fun hg => ⟨rfl, bel_gr hg⟩
  refine sy_cast 10 S (congrArg Value.bool (by rw [decide_eq_true (by omega)]; rfl : (!decide ((xs.length : Int) = (ys.length : Int))) = false)) (by kernel_rfl) fun S => ?_
  refine sy_run ⟨0, []⟩ 60 S fun bs aa w S => ?_
  have S2 := S.to [] (smS a1 a2 xs.length ys.length c1 c2 0) (by kernel_rfl) (by kernel_rfl) (by kernel_rfl) (by kernel_rfl) (by kernel_rfl)
  refine sy_loop (xs.length + 1) (by kernel_rfl) ?_
  refine sy_at2 (k' := (.rnd (xs.length + 1) (bodyL smC) :: smC.k.tail)) (by kernel_rfl) ?_
  exact sm_a w0 xs ys a1 a2 c1 c2 b1 o1 b2 o2 h1 h2 hl hx hy hn xs.length 0 (by omega) (fun i hi => absurd hi (Nat.not_lt_zero _)) aa w S2
end Go.Proofs.YthkgmahkmflfkaaDoor
