/-
  Merged: WlB, WlC, WlE, WlF, WlG, WlH, WlI, WlJ, WlK, WlL, WlM, WlN, WlV, WlR, WlT, WlQ
-/
import Derived.Test.YtfhmdlihnidjoaaRows
import Derived.Test.YtfhmdlihnidjoaaPf1
import Derived.Test.YtfhmdlihnidjoaaPf3
import Derived.Test.YtfhmdlihnidjoaaPf13
import Derived.Test.YtfhmdlihnidjoaaPf12
import Derived.WalkKit
import Derived.Test.YtfhmdlihnidjoaaPf5
import Derived.Laws.CopyOwn
import Derived.Test.YtfhmdlihnidjoaaPf10
import Derived.Deep.Fields
import Derived.Deep.Slices
import Derived.Test.YtfhmdlihnidjoaaPf9
namespace Go.Proofs.Ytfhmdlihnidjoaa
set_option linter.unusedVariables false
set_option linter.unusedSectionVars false
set_option linter.unusedSimpArgs false
set_option maxRecDepth 100000
set_option maxHeartbeats 8000000
open Go Go.RowKit SZ
attribute [local irreducible] post GD Nxt Qai
structure Et where
  ver : Int
  a : Option Addr
  c : Nat
  b : Nat
  o : Nat
  ws : Ws
def Et.v (e : Et) : Value := .agg #[.int .i64 e.ver, .slice e.a e.ws.length e.c]
def Et.cs (e : Et) : List Value := [.int .i64 e.ver, .slice e.a e.ws.length e.c]
def Et.ok (e : Et) : Prop := e.ws.length = 0 ∨ e.a = some ⟨e.b, e.o, none⟩
def Qc8 (w : World) (b o : Nat) (W : Ws) : Prop := ∀ j, j < W.length → w.cell? ⟨b, o + j * 2, none⟩ = some (.int .i64 (W.getD j (0, 0)).1) ∧ w.cell? ⟨b, o + j * 2 + 1, none⟩ = some (.int .i64 (W.getD j (0, 0)).2)
def QaN (b o : Nat) (W : Ws) : RF := ⟨fun b' => b' = b ∧ W.length ≠ 0, fun w => Qc8 w b o W, fun w h b' hb => by
  obtain ⟨rfl, hl⟩ := hb
  exact World.block_lt_of_cell? w _ (h 0 (by omega)).1, fun w w' h hb j hj => ⟨(World.cell?_of_block (a := ⟨b, o + j * 2, none⟩) (hb b ⟨rfl, by omega⟩)).trans (h j hj).1, (World.cell?_of_block (a := ⟨b, o + j * 2 + 1, none⟩) (hb b ⟨rfl, by omega⟩)).trans (h j hj).2⟩⟩
theorem Qh3 {w : World} {b o j : Nat} {W : Ws} (h : Qc8 w b o W) (hj : j < W.length) : (loadVar 42 ⟨b, o + j * 2, none⟩).run Try.prog w = .ok (.agg #[.int .i64 (W.getD j (0, 0)).1, .int .i64 (W.getD j (0, 0)).2]) w := by
  obtain ⟨h0, h1⟩ := h j hj
  refine run_loadVar_mid w b (o + j * 2) 42 [.int .i64 (W.getD j (0, 0)).1, .int .i64 (W.getD j (0, 0)).2] _ ?_ Try.underlying42 rfl (by kernel_rfl)
  intro i x hi
  match i, hi with
  | 0, hi => simp at hi; subst hi; exact h0
  | 1, hi => simp at hi; subst hi; exact h1
  | i + 2, hi => simp at hi
theorem Qms (ws : Ws) (j : Nat) (hj : j < ws.length) (l : Int) : asc l (ws.drop j) = (decide (l < (ws.getD j (0, 0)).1) && asc (ws.getD j (0, 0)).1 (ws.drop (j + 1))) := by
  rw [List.drop_eq_getElem_cons hj]
  simp [asc, List.getD, List.getElem?_eq_getElem hj]
theorem Qmr (ws : Ws) (l : Int) : asc l (ws.drop ws.length) = true := by simp [asc]
noncomputable def riC : Cfg := ⟨goZ 60 [0] [.code (QaW Try.f77)], ⟨0, [], []⟩⟩
noncomputable def riS (e : Et) (j : Nat) (last : Int) : SS := ⟨34, [(1, .p 0 0), (3, .v (.int .i64 last)), (21, .v (.slice e.a e.ws.length e.c)), (22, .v (.int .i64 (e.ws.length : Int))), (23, .v (.int .i64 (j : Int)))], [⟨60, e.cs⟩]⟩
section
variable (w0 : World) (e : Et) (hg : e.ok) (h32 : e.ws.length ≤ 32) (R : Bool)
include w0 e hg h32 R
theorem ri_e (last : Int) (m : Nat) (he : asc last (e.ws.drop e.ws.length) = R) (x0 : Nat) (aa : Act) (w : World) (S : Sy w0 [] [x0] (riS e (e.ws.length) last) [QaN e.b e.o e.ws] aa w) : post Try.prog (.rnd (m + 1) (Qa_ riC) :: riC.k.tail) (bodyPost Try.prog Try.f77 fun y w' => y = .returned (.bool R) ∧ Below w0.heap.size w0 w') .normal aa w := by
  rw [Qmr] at he
  subst he
  refine Qap (c := ⟨(.rnd (m + 1) (Qa_ riC) :: riC.k.tail), riS e (e.ws.length) last⟩) 5 50 1 S fun bs aa w S => ?_
  refine Qab 24 S (decide_eq_false (by omega) : decide ((e.ws.length : Int) < (e.ws.length : Int)) = false) fun S => ?_
  refine Qah S fun bs aa w S => ?_
  exact Qan S (by kernel_rfl) (by kernel_rfl) fun hg => ⟨rfl, Qaq hg⟩
theorem ri_f (last : Int) (m j : Nat) (hj : j < e.ws.length) (hp : ¬ last < (e.ws.getD j (0, 0)).1) (he : asc last (e.ws.drop j) = R) (x0 : Nat) (aa : Act) (w : World) (S : Sy w0 [] [x0] (riS e (j) last) [QaN e.b e.o e.ws] aa w) : post Try.prog (.rnd (m + 1) (Qa_ riC) :: riC.k.tail) (bodyPost Try.prog Try.f77 fun y w' => y = .returned (.bool R) ∧ Below w0.heap.size w0 w') .normal aa w := by
  rw [Qms _ _ hj, decide_eq_false hp, Bool.false_and] at he
  subst he
  refine Qap (c := ⟨(.rnd (m + 1) (Qa_ riC) :: riC.k.tail), riS e (j) last⟩) 5 50 1 S fun bs aa w S => ?_
  refine Qab 24 S (decide_eq_true (by omega) : decide ((j : Int) < (e.ws.length : Int)) = true) fun S => ?_
  refine Qaj ⟨0, [6]⟩ 60 S fun bs aa w S => ?_
  refine Qcn S fun S => ?_
  refine QbI (b := e.b) (off := e.o) (len := e.ws.length) (n := j) (size := 2) (i := (j : Int)) S (by rw [← hg.resolve_left (by omega)]; kernel_rfl) rfl hj fun aa S => ?_
  refine Qbf S (Qh3 (j := j) (S.fact (f := QaN e.b e.o e.ws) (by simp)) hj) (by kernel_rfl) fun aa S => ?_
  refine Qap 7 60 4 S fun bs aa w S => ?_
  refine Qab 30 S (decide_eq_true (by omega) : decide ((e.ws.getD j (0, 0)).1 ≤ last) = true) fun S => ?_
  refine Qah S fun bs aa w S => ?_
  exact Qan S (by kernel_rfl) (by kernel_rfl) fun hg => ⟨rfl, Qaq hg⟩
theorem ri_t (last : Int) (m j : Nat) (hj : j < e.ws.length) (hp : last < (e.ws.getD j (0, 0)).1) (ih : asc (e.ws.getD j (0, 0)).1 (e.ws.drop (j + 1)) = R → ∀ (x0 : Nat) (aa : Act) (w : World) (S : Sy w0 [] [x0] (riS e (j + 1) ((e.ws.getD j (0, 0)).1)) [QaN e.b e.o e.ws] aa w), post Try.prog (.rnd (m) (Qa_ riC) :: riC.k.tail) (bodyPost Try.prog Try.f77 fun y w' => y = .returned (.bool R) ∧ Below w0.heap.size w0 w') .normal aa w) (he : asc last (e.ws.drop j) = R) (x0 : Nat) (aa : Act) (w : World) (S : Sy w0 [] [x0] (riS e (j) last) [QaN e.b e.o e.ws] aa w) : post Try.prog (.rnd (m + 1) (Qa_ riC) :: riC.k.tail) (bodyPost Try.prog Try.f77 fun y w' => y = .returned (.bool R) ∧ Below w0.heap.size w0 w') .normal aa w := by
  rw [Qms _ _ hj, decide_eq_true hp, Bool.true_and] at he
  refine Qap (c := ⟨(.rnd (m + 1) (Qa_ riC) :: riC.k.tail), riS e (j) last⟩) 5 50 1 S fun bs aa w S => ?_
  refine Qab 24 S (decide_eq_true (by omega) : decide ((j : Int) < (e.ws.length : Int)) = true) fun S => ?_
  refine Qaj ⟨0, [6]⟩ 60 S fun bs aa w S => ?_
  refine Qcn S fun S => ?_
  refine QbI (b := e.b) (off := e.o) (len := e.ws.length) (n := j) (size := 2) (i := (j : Int)) S (by rw [← hg.resolve_left (by omega)]; kernel_rfl) rfl hj fun aa S => ?_
  refine Qbf S (Qh3 (j := j) (S.fact (f := QaN e.b e.o e.ws) (by simp)) hj) (by kernel_rfl) fun aa S => ?_
  refine Qap 7 60 4 S fun bs aa w S => ?_
  refine Qab 30 S (decide_eq_false (by omega) : decide ((e.ws.getD j (0, 0)).1 ≤ last) = false) fun S => ?_
  refine Qap 10 60 1 S fun bs aa w S => ?_
  refine QaB 33 S (by rw [IntKind.wrap_i64]; omega : IntKind.i64.wrap ((j : Int) + 1) = ((j + 1 : Nat) : Int)) fun S => ?_
  refine Qaj ⟨0, [999]⟩ 50 S fun bs aa w S => ?_
  have S2 := S.to [0] (riS e (j + 1) ((e.ws.getD j (0, 0)).1)) (by kernel_rfl) (by kernel_rfl) (by kernel_rfl) (by kernel_rfl) (by kernel_rfl)
  refine Qag (k' := (.rnd (m) (Qa_ riC) :: riC.k.tail)) (by kernel_rfl) ?_
  exact ih he _ aa w S2
theorem ri_a : ∀ (r j : Nat) (last : Int), j + r = e.ws.length → asc last (e.ws.drop j) = R → ∀ (x0 : Nat) (aa : Act) (w : World) (S : Sy w0 [] [x0] (riS e (j) last) [QaN e.b e.o e.ws] aa w), post Try.prog (.rnd (r + 1) (Qa_ riC) :: riC.k.tail) (bodyPost Try.prog Try.f77 fun y w' => y = .returned (.bool R) ∧ Below w0.heap.size w0 w') .normal aa w := by
  intro r
  induction r with
  | zero => intro j last hj he x0 aa w S; obtain rfl : j = e.ws.length := by omega
            exact ri_e w0 e hg h32 R last 0 he x0 aa w S
  | succ r ih =>
    intro j last hj he x0 aa w S
    by_cases hp : last < (e.ws.getD j (0, 0)).1
    · exact ri_t w0 e hg h32 R last (r + 1) j (by omega) hp (ih (j + 1) (e.ws.getD j (0, 0)).1 (by omega)) he x0 aa w S
    · exact ri_f w0 e hg h32 R last (r + 1) j (by omega) hp he x0 aa w S
end
theorem right_e (w0 : World) (e : Et) (hg : e.ok) (hA : Qc8 w0 e.b e.o e.ws) : Calls Try.prog 77 #[e.v] w0 fun y w' => y = .returned (.bool (QaG e.ver e.ws)) ∧ Below w0.heap.size w0 w' := by
  refine Qas [] [QaN e.b e.o e.ws] (by intro f hf; simp only [List.mem_singleton] at hf; subst hf; exact hA) Try.func77 rfl rfl fun aa S => ?_
  refine Qap 1 60 3 S fun bs aa w S => ?_
  by_cases h1 : 1 ≤ e.ver
  case neg =>
    have ev : QaG e.ver e.ws = false := by simp [QaG, h1]
    rw [ev]
    refine Qab 8 S (decide_eq_true (by omega) : decide (e.ver < 1) = true) fun S => ?_
    refine Qah S fun bs aa w S => ?_
    exact Qan S (by kernel_rfl) (by kernel_rfl) fun hg => ⟨rfl, Qaq hg⟩
  refine Qab 8 S (decide_eq_false (by omega) : decide (e.ver < 1) = false) fun S => ?_
  refine Qad 4 S fun bs aa w S => ?_
  by_cases h2 : e.ver ≤ 1099511627776
  case neg =>
    have ev : QaG e.ver e.ws = false := by simp [QaG, h2]
    rw [ev]
    refine Qab 12 S (decide_eq_true (by omega) : decide (e.ver > 1099511627776) = true) fun S => ?_
    refine Qah S fun bs aa w S => ?_
    exact Qan S (by kernel_rfl) (by kernel_rfl) fun hg => ⟨rfl, Qaq hg⟩
  refine Qab 12 S (decide_eq_false (by omega) : decide (e.ver > 1099511627776) = false) fun S => ?_
  refine Qad 6 S fun bs aa w S => ?_
  by_cases h3 : e.ws.length ≤ 32
  case neg =>
    have ev : QaG e.ver e.ws = false := by simp [QaG, h3]
    rw [ev]
    refine Qab 18 S (decide_eq_true (by omega) : decide ((e.ws.length : Int) > 32) = true) fun S => ?_
    refine Qah S fun bs aa w S => ?_
    exact Qan S (by kernel_rfl) (by kernel_rfl) fun hg => ⟨rfl, Qaq hg⟩
  refine Qab 18 S (decide_eq_false (by omega) : decide ((e.ws.length : Int) > 32) = false) fun S => ?_
  refine Qah S fun bs aa w S => ?_
  have ev : QaG e.ver e.ws = asc (-1) (e.ws.drop 0) := by simp [QaG, h1, h2, h3]
  rw [ev]
  have S2 := S.to [0] (riS e 0 (-1)) (by kernel_rfl) (by kernel_rfl) (by kernel_rfl) (by kernel_rfl) (by kernel_rfl)
  refine QaR (e.ws.length + 1) (by kernel_rfl) ?_
  refine Qag (k' := (.rnd (e.ws.length + 1) (Qa_ riC) :: riC.k.tail)) (by kernel_rfl) ?_
  exact ri_a w0 e hg h3 _ e.ws.length 0 (-1) (by omega) rfl _ aa w S2
noncomputable def rvC : Cfg := ⟨goZ 60 [0] [.code (QaW Try.f48)], ⟨0, [], []⟩⟩
noncomputable def rvS (e : Et) (j : Nat) (last : Int) : SS := ⟨53, [(1, .p 0 0), (3, .v (.int .i64 (j : Int)))], [⟨60, e.cs⟩]⟩
theorem ex_max {s : SS} {bs : List Nat} {x y : Operand} {ts : Array TypeId} {ty : TypeId} {p q : Int} (hx : s.val x = some (.v (.int .i64 p))) (hy : s.val y = some (.v (.int .i64 q))) {z : Int} (hz : (if p < q then q else p) = z) :
    ∀ (o : Oper) (ρ : Operand → Value) (W : World), o.op = .call { callee := .builtin .max, args := #[x, y], argTypes := ts } → o.type = ty → (∀ x y, s.val x = some y → ρ x = den bs y) → (execOp ρ o).run Try.prog W = .ok (.value (.int .i64 z)) W := by
  intro o ρ W h1 h2 h3
  have hr := run_max_int2 (P := Try.prog) W ts o.type .i64 .i64 p q
  have e1 : ρ x = .int .i64 p := h3 x _ hx
  have e2 : ρ y = .int .i64 q := h3 y _ hy
  unfold execOp
  subst hz
  simp only [h1, resolve, invoke, builtin, Sem.run_bind, Sem.run_pure, Result.andThen_ok, List.map_toArray, List.map_cons, List.map_nil, e1, e2, hr]
theorem ex_leI {s : SS} {bs : List Nat} {x y : Operand} {t t' ty : TypeId} {ki : IntKind} {p q : Int} {b : Bool} (hx : s.val x = some (.v (.int ki p))) (hy : s.val y = some (.v (.int ki q))) (hb : decide (p ≤ q) = b) :
    ∀ (o : Oper) (ρ : Operand → Value) (W : World), o.op = .binOp .leq t x y t' → o.type = ty → (∀ x y, s.val x = some y → ρ x = den bs y) → (execOp ρ o).run Try.prog W = .ok (.value (.bool b)) W := by
  intro o ρ W h1 h2 h3
  have e1 : ρ x = .int ki p := h3 x _ hx
  have e2 : ρ y = .int ki q := h3 y _ hy
  subst hb
  unfold execOp
  simp only [h1, e1, e2, eqGuard, binOp_leq, Sem.run_bind, Sem.run_pure, Result.andThen_ok]
  rfl
section
variable (w0 : World) (e : Et) (hg : e.ok) (h32 : e.ws.length ≤ 32)
include w0 e hg h32
theorem rv_e (R : Bool) (last : Int) (m : Nat) (he : asc last (e.ws.drop e.ws.length) = R) (x0 : Nat) (aa : Act) (w : World) (S : Sy w0 [] [x0] (rvS e (e.ws.length) last) [QaN e.b e.o e.ws] aa w) : post Try.prog (.rnd (m + 1) (Qa_ rvC) :: rvC.k.tail) (bodyPost Try.prog Try.f48 fun y w' => y = .returned (.bool R) ∧ Below w0.heap.size w0 w') .normal aa w := by
  rw [Qmr] at he
  subst he
  refine Qap (c := ⟨(.rnd (m + 1) (Qa_ rvC) :: rvC.k.tail), rvS e (e.ws.length) last⟩) 4 50 5 S fun bs aa w S => ?_
  refine Qab 22 S (decide_eq_false (by omega) : decide ((e.ws.length : Int) < (e.ws.length : Int)) = false) fun S => ?_
  refine Qah S fun bs aa w S => ?_
  exact Qan S (by kernel_rfl) (by kernel_rfl) fun hg => ⟨rfl, Qaq hg⟩
theorem rv_f0 (last : Int) (m j : Nat) (hj : j < e.ws.length) (hp : (e.ws.getD j (0, 0)).1 < 0) (x0 : Nat) (aa : Act) (w : World) (S : Sy w0 [] [x0] (rvS e (j) last) [QaN e.b e.o e.ws] aa w) : post Try.prog (.rnd (m + 1) (Qa_ rvC) :: rvC.k.tail) (bodyPost Try.prog Try.f48 fun y w' => y = .returned (.bool false) ∧ Below w0.heap.size w0 w') .normal aa w := by
  refine Qap (c := ⟨(.rnd (m + 1) (Qa_ rvC) :: rvC.k.tail), rvS e (j) last⟩) 4 50 5 S fun bs aa w S => ?_
  refine Qab 22 S (decide_eq_true (by omega) : decide ((j : Int) < (e.ws.length : Int)) = true) fun S => ?_
  refine Qah S fun bs aa w S => ?_
  letI : KP := ⟨[31]⟩
  letI : HF := ⟨[QaN e.b e.o e.ws]⟩
  refine QaF [0] (by kernel_rfl) (by kernel_rfl) S (by kernel_rfl) (fun aa w D => ?_) (fun f hf => hf)
  refine QaZ 3 D (by kernel_rfl) (by kernel_rfl) (by kernel_rfl) (b := e.b) (off := e.o) (len := e.ws.length) (n := j) (size := 2) (ix := (j : Int)) (by rw [← hg.resolve_left (by omega)]; kernel_rfl) (rfl) hj fun aa D => ?_
  refine Qbl 5 D (by kernel_rfl) (by kernel_rfl) (by kernel_rfl) (ty := 3) (ad := ⟨e.b, e.o + j * 2, none⟩) (v := .int .i64 (e.ws.getD j (0, 0)).1) (fun W hW => Qa6 (by kernel_rfl) ((show Qc8 W e.b e.o e.ws from hW (QaN e.b e.o e.ws) (by show _ ∈ [QaN e.b e.o e.ws]; simp)) j hj).1) (by kernel_rfl) fun aa D => ?_
  refine Qbj (fun d v c a w h => by cases d <;> exact h) 6 (op := .binOp .lss 3 (.tmp 30) (.const (.int .i64 0)) 3) (ty := 4) (v := .bool true) D (by kernel_rfl) (by kernel_rfl) (by kernel_rfl) (by kernel_rfl) (Qjh (ki := .i64) (p := (e.ws.getD j (0, 0)).1) (q := 0) (by kernel_rfl) (by kernel_rfl) (decide_eq_true (by omega))) fun aa D => ?_
  refine QaM D (by kernel_rfl) fun S => ?_
  refine Qah S fun bs aa w S => ?_
  exact Qan S (by kernel_rfl) (by kernel_rfl) fun hg => ⟨rfl, Qaq hg⟩
theorem rv_f1 (last : Int) (m j : Nat) (hj : j < e.ws.length) (hp : ¬(e.ws.getD j (0, 0)).1 < 0) (h0 : 0 < j) (hq : (e.ws.getD j (0, 0)).1 ≤ (e.ws.getD (j - 1) (0, 0)).1) (x0 : Nat) (aa : Act) (w : World) (S : Sy w0 [] [x0] (rvS e (j) last) [QaN e.b e.o e.ws] aa w) : post Try.prog (.rnd (m + 1) (Qa_ rvC) :: rvC.k.tail) (bodyPost Try.prog Try.f48 fun y w' => y = .returned (.bool false) ∧ Below w0.heap.size w0 w') .normal aa w := by
  refine Qap (c := ⟨(.rnd (m + 1) (Qa_ rvC) :: rvC.k.tail), rvS e (j) last⟩) 4 50 5 S fun bs aa w S => ?_
  refine Qab 22 S (decide_eq_true (by omega) : decide ((j : Int) < (e.ws.length : Int)) = true) fun S => ?_
  refine Qah S fun bs aa w S => ?_
  letI : KP := ⟨[31, 34, 46, 50]⟩
  letI : HF := ⟨[QaN e.b e.o e.ws]⟩
  refine QaF [0] (by kernel_rfl) (by kernel_rfl) S (by kernel_rfl) (fun aa w D => ?_) (fun f hf => hf)
  refine QaZ 3 D (by kernel_rfl) (by kernel_rfl) (by kernel_rfl) (b := e.b) (off := e.o) (len := e.ws.length) (n := j) (size := 2) (ix := (j : Int)) (by rw [← hg.resolve_left (by omega)]; kernel_rfl) (rfl) hj fun aa D => ?_
  refine Qbl 5 D (by kernel_rfl) (by kernel_rfl) (by kernel_rfl) (ty := 3) (ad := ⟨e.b, e.o + j * 2, none⟩) (v := .int .i64 (e.ws.getD j (0, 0)).1) (fun W hW => Qa6 (by kernel_rfl) ((show Qc8 W e.b e.o e.ws from hW (QaN e.b e.o e.ws) (by show _ ∈ [QaN e.b e.o e.ws]; simp)) j hj).1) (by kernel_rfl) fun aa D => ?_
  refine Qbj (fun d v c a w h => by cases d <;> exact h) 6 (op := .binOp .lss 3 (.tmp 30) (.const (.int .i64 0)) 3) (ty := 4) (v := .bool false) D (by kernel_rfl) (by kernel_rfl) (by kernel_rfl) (by kernel_rfl) (Qjh (ki := .i64) (p := (e.ws.getD j (0, 0)).1) (q := 0) (by kernel_rfl) (by kernel_rfl) (decide_eq_false (by omega))) fun aa D => ?_
  refine Qbj (fun d v c a w h => by cases d <;> exact h) 9 (op := .binOp .gtr 3 (.tmp 33) (.const (.int .i64 0)) 3) (ty := 4) (v := .bool true) D (by kernel_rfl) (by kernel_rfl) (by kernel_rfl) (by kernel_rfl) (QlW (ki := .i64) (p := (j : Int)) (q := 0) (by kernel_rfl) (by kernel_rfl) (decide_eq_true (by omega))) fun aa D => ?_
  refine QaZ 14 D (by kernel_rfl) (by kernel_rfl) (by kernel_rfl) (b := e.b) (off := e.o) (len := e.ws.length) (n := j) (size := 2) (ix := (j : Int)) (by rw [← hg.resolve_left (by omega)]; kernel_rfl) (rfl) hj fun aa D => ?_
  refine Qbl 16 D (by kernel_rfl) (by kernel_rfl) (by kernel_rfl) (ty := 3) (ad := ⟨e.b, e.o + j * 2, none⟩) (v := .int .i64 (e.ws.getD j (0, 0)).1) (fun W hW => Qa6 (by kernel_rfl) ((show Qc8 W e.b e.o e.ws from hW (QaN e.b e.o e.ws) (by show _ ∈ [QaN e.b e.o e.ws]; simp)) j hj).1) (by kernel_rfl) fun aa D => ?_
  refine Qbj (fun d v c a w h => by cases d <;> exact h) 21 (op := .call { callee := .builtin .max, args := #[.tmp 45, .const (.int .i64 0)], argTypes := #[3, 3] }) (ty := 3) (v := .int .i64 ((j - 1 : Nat) : Int)) D (by kernel_rfl) (by kernel_rfl) (by kernel_rfl) (by kernel_rfl) (ex_max (p := IntKind.i64.wrap ((j : Int) - 1)) (q := 0) (by kernel_rfl) (by kernel_rfl) (by rw [IntKind.wrap_i64]; split <;> omega)) fun aa D => ?_
  refine QaZ 22 D (by kernel_rfl) (by kernel_rfl) (by kernel_rfl) (b := e.b) (off := e.o) (len := e.ws.length) (n := (j - 1)) (size := 2) (ix := ((j - 1 : Nat) : Int)) (by rw [← hg.resolve_left (by omega)]; kernel_rfl) (rfl) (by omega) fun aa D => ?_
  refine Qbl 24 D (by kernel_rfl) (by kernel_rfl) (by kernel_rfl) (ty := 3) (ad := ⟨e.b, e.o + (j - 1) * 2, none⟩) (v := .int .i64 (e.ws.getD (j - 1) (0, 0)).1) (fun W hW => Qa6 (by kernel_rfl) ((show Qc8 W e.b e.o e.ws from hW (QaN e.b e.o e.ws) (by show _ ∈ [QaN e.b e.o e.ws]; simp)) (j - 1) (by omega)).1) (by kernel_rfl) fun aa D => ?_
  refine Qbj (fun d v c a w h => by cases d <;> exact h) 25 (op := .binOp .leq 3 (.tmp 41) (.tmp 49) 3) (ty := 4) (v := .bool true) D (by kernel_rfl) (by kernel_rfl) (by kernel_rfl) (by kernel_rfl) (ex_leI (ki := .i64) (p := (e.ws.getD j (0, 0)).1) (q := (e.ws.getD (j - 1) (0, 0)).1) (by kernel_rfl) (by kernel_rfl) (decide_eq_true (by omega))) fun aa D => ?_
  refine QaM D (by kernel_rfl) fun S => ?_
  refine Qah S fun bs aa w S => ?_
  exact Qan S (by kernel_rfl) (by kernel_rfl) fun hg => ⟨rfl, Qaq hg⟩
section
variable (R : Bool) (last : Int) (m j : Nat) (hj : j < e.ws.length) (hp : ¬(e.ws.getD j (0, 0)).1 < 0)
include R last m j hj hp
theorem rv_t0 (h0 : j = 0) (ih : ∀ (x0 : Nat) (aa : Act) (w : World) (S : Sy w0 [] [x0] (rvS e (j + 1) ((e.ws.getD j (0, 0)).1)) [QaN e.b e.o e.ws] aa w), post Try.prog (.rnd (m) (Qa_ rvC) :: rvC.k.tail) (bodyPost Try.prog Try.f48 fun y w' => y = .returned (.bool R) ∧ Below w0.heap.size w0 w') .normal aa w) (x0 : Nat) (aa : Act) (w : World) (S : Sy w0 [] [x0] (rvS e (j) last) [QaN e.b e.o e.ws] aa w) : post Try.prog (.rnd (m + 1) (Qa_ rvC) :: rvC.k.tail) (bodyPost Try.prog Try.f48 fun y w' => y = .returned (.bool R) ∧ Below w0.heap.size w0 w') .normal aa w := by
  refine Qap (c := ⟨(.rnd (m + 1) (Qa_ rvC) :: rvC.k.tail), rvS e (j) last⟩) 4 50 5 S fun bs aa w S => ?_
  refine Qab 22 S (decide_eq_true (by omega) : decide ((j : Int) < (e.ws.length : Int)) = true) fun S => ?_
  refine Qah S fun bs aa w S => ?_
  letI : KP := ⟨[31, 34]⟩
  letI : HF := ⟨[QaN e.b e.o e.ws]⟩
  refine QaF [0] (by kernel_rfl) (by kernel_rfl) S (by kernel_rfl) (fun aa w D => ?_) (fun f hf => hf)
  refine QaZ 3 D (by kernel_rfl) (by kernel_rfl) (by kernel_rfl) (b := e.b) (off := e.o) (len := e.ws.length) (n := j) (size := 2) (ix := (j : Int)) (by rw [← hg.resolve_left (by omega)]; kernel_rfl) (rfl) hj fun aa D => ?_
  refine Qbl 5 D (by kernel_rfl) (by kernel_rfl) (by kernel_rfl) (ty := 3) (ad := ⟨e.b, e.o + j * 2, none⟩) (v := .int .i64 (e.ws.getD j (0, 0)).1) (fun W hW => Qa6 (by kernel_rfl) ((show Qc8 W e.b e.o e.ws from hW (QaN e.b e.o e.ws) (by show _ ∈ [QaN e.b e.o e.ws]; simp)) j hj).1) (by kernel_rfl) fun aa D => ?_
  refine Qbj (fun d v c a w h => by cases d <;> exact h) 6 (op := .binOp .lss 3 (.tmp 30) (.const (.int .i64 0)) 3) (ty := 4) (v := .bool false) D (by kernel_rfl) (by kernel_rfl) (by kernel_rfl) (by kernel_rfl) (Qjh (ki := .i64) (p := (e.ws.getD j (0, 0)).1) (q := 0) (by kernel_rfl) (by kernel_rfl) (decide_eq_false (by omega))) fun aa D => ?_
  refine Qbj (fun d v c a w h => by cases d <;> exact h) 9 (op := .binOp .gtr 3 (.tmp 33) (.const (.int .i64 0)) 3) (ty := 4) (v := .bool false) D (by kernel_rfl) (by kernel_rfl) (by kernel_rfl) (by kernel_rfl) (QlW (ki := .i64) (p := (j : Int)) (q := 0) (by kernel_rfl) (by kernel_rfl) (decide_eq_false (by omega))) fun aa D => ?_
  refine QaM D (by kernel_rfl) fun S => ?_
  refine Qap 5 60 2 S fun bs aa w S => ?_
  refine QaB 24 S (by rw [IntKind.wrap_i64]; omega : IntKind.i64.wrap ((j : Int) + 1) = ((j + 1 : Nat) : Int)) fun S => ?_
  refine Qaj ⟨0, [999]⟩ 50 S fun bs aa w S => ?_
  have S2 := S.to [0] (rvS e (j + 1) ((e.ws.getD j (0, 0)).1)) (by kernel_rfl) (by kernel_rfl) (by kernel_rfl) (by kernel_rfl) (by kernel_rfl)
  refine Qag (k' := (.rnd (m) (Qa_ rvC) :: rvC.k.tail)) (by kernel_rfl) ?_
  exact ih _ aa w S2
theorem rv_t1 (h0 : 0 < j) (hq : ¬(e.ws.getD j (0, 0)).1 ≤ (e.ws.getD (j - 1) (0, 0)).1) (ih : ∀ (x0 : Nat) (aa : Act) (w : World) (S : Sy w0 [] [x0] (rvS e (j + 1) ((e.ws.getD j (0, 0)).1)) [QaN e.b e.o e.ws] aa w), post Try.prog (.rnd (m) (Qa_ rvC) :: rvC.k.tail) (bodyPost Try.prog Try.f48 fun y w' => y = .returned (.bool R) ∧ Below w0.heap.size w0 w') .normal aa w) (x0 : Nat) (aa : Act) (w : World) (S : Sy w0 [] [x0] (rvS e (j) last) [QaN e.b e.o e.ws] aa w) : post Try.prog (.rnd (m + 1) (Qa_ rvC) :: rvC.k.tail) (bodyPost Try.prog Try.f48 fun y w' => y = .returned (.bool R) ∧ Below w0.heap.size w0 w') .normal aa w := by
  refine Qap (c := ⟨(.rnd (m + 1) (Qa_ rvC) :: rvC.k.tail), rvS e (j) last⟩) 4 50 5 S fun bs aa w S => ?_
  refine Qab 22 S (decide_eq_true (by omega) : decide ((j : Int) < (e.ws.length : Int)) = true) fun S => ?_
  refine Qah S fun bs aa w S => ?_
  letI : KP := ⟨[31, 34, 46, 50]⟩
  letI : HF := ⟨[QaN e.b e.o e.ws]⟩
  refine QaF [0] (by kernel_rfl) (by kernel_rfl) S (by kernel_rfl) (fun aa w D => ?_) (fun f hf => hf)
  refine QaZ 3 D (by kernel_rfl) (by kernel_rfl) (by kernel_rfl) (b := e.b) (off := e.o) (len := e.ws.length) (n := j) (size := 2) (ix := (j : Int)) (by rw [← hg.resolve_left (by omega)]; kernel_rfl) (rfl) hj fun aa D => ?_
  refine Qbl 5 D (by kernel_rfl) (by kernel_rfl) (by kernel_rfl) (ty := 3) (ad := ⟨e.b, e.o + j * 2, none⟩) (v := .int .i64 (e.ws.getD j (0, 0)).1) (fun W hW => Qa6 (by kernel_rfl) ((show Qc8 W e.b e.o e.ws from hW (QaN e.b e.o e.ws) (by show _ ∈ [QaN e.b e.o e.ws]; simp)) j hj).1) (by kernel_rfl) fun aa D => ?_
  refine Qbj (fun d v c a w h => by cases d <;> exact h) 6 (op := .binOp .lss 3 (.tmp 30) (.const (.int .i64 0)) 3) (ty := 4) (v := .bool false) D (by kernel_rfl) (by kernel_rfl) (by kernel_rfl) (by kernel_rfl) (Qjh (ki := .i64) (p := (e.ws.getD j (0, 0)).1) (q := 0) (by kernel_rfl) (by kernel_rfl) (decide_eq_false (by omega))) fun aa D => ?_
  refine Qbj (fun d v c a w h => by cases d <;> exact h) 9 (op := .binOp .gtr 3 (.tmp 33) (.const (.int .i64 0)) 3) (ty := 4) (v := .bool true) D (by kernel_rfl) (by kernel_rfl) (by kernel_rfl) (by kernel_rfl) (QlW (ki := .i64) (p := (j : Int)) (q := 0) (by kernel_rfl) (by kernel_rfl) (decide_eq_true (by omega))) fun aa D => ?_
  refine QaZ 14 D (by kernel_rfl) (by kernel_rfl) (by kernel_rfl) (b := e.b) (off := e.o) (len := e.ws.length) (n := j) (size := 2) (ix := (j : Int)) (by rw [← hg.resolve_left (by omega)]; kernel_rfl) (rfl) hj fun aa D => ?_
  refine Qbl 16 D (by kernel_rfl) (by kernel_rfl) (by kernel_rfl) (ty := 3) (ad := ⟨e.b, e.o + j * 2, none⟩) (v := .int .i64 (e.ws.getD j (0, 0)).1) (fun W hW => Qa6 (by kernel_rfl) ((show Qc8 W e.b e.o e.ws from hW (QaN e.b e.o e.ws) (by show _ ∈ [QaN e.b e.o e.ws]; simp)) j hj).1) (by kernel_rfl) fun aa D => ?_
  refine Qbj (fun d v c a w h => by cases d <;> exact h) 21 (op := .call { callee := .builtin .max, args := #[.tmp 45, .const (.int .i64 0)], argTypes := #[3, 3] }) (ty := 3) (v := .int .i64 ((j - 1 : Nat) : Int)) D (by kernel_rfl) (by kernel_rfl) (by kernel_rfl) (by kernel_rfl) (ex_max (p := IntKind.i64.wrap ((j : Int) - 1)) (q := 0) (by kernel_rfl) (by kernel_rfl) (by rw [IntKind.wrap_i64]; split <;> omega)) fun aa D => ?_
  refine QaZ 22 D (by kernel_rfl) (by kernel_rfl) (by kernel_rfl) (b := e.b) (off := e.o) (len := e.ws.length) (n := (j - 1)) (size := 2) (ix := ((j - 1 : Nat) : Int)) (by rw [← hg.resolve_left (by omega)]; kernel_rfl) (rfl) (by omega) fun aa D => ?_
  refine Qbl 24 D (by kernel_rfl) (by kernel_rfl) (by kernel_rfl) (ty := 3) (ad := ⟨e.b, e.o + (j - 1) * 2, none⟩) (v := .int .i64 (e.ws.getD (j - 1) (0, 0)).1) (fun W hW => Qa6 (by kernel_rfl) ((show Qc8 W e.b e.o e.ws from hW (QaN e.b e.o e.ws) (by show _ ∈ [QaN e.b e.o e.ws]; simp)) (j - 1) (by omega)).1) (by kernel_rfl) fun aa D => ?_
  refine Qbj (fun d v c a w h => by cases d <;> exact h) 25 (op := .binOp .leq 3 (.tmp 41) (.tmp 49) 3) (ty := 4) (v := .bool false) D (by kernel_rfl) (by kernel_rfl) (by kernel_rfl) (by kernel_rfl) (ex_leI (ki := .i64) (p := (e.ws.getD j (0, 0)).1) (q := (e.ws.getD (j - 1) (0, 0)).1) (by kernel_rfl) (by kernel_rfl) (decide_eq_false (by omega))) fun aa D => ?_
  refine QaM D (by kernel_rfl) fun S => ?_
  refine Qap 5 60 2 S fun bs aa w S => ?_
  refine QaB 24 S (by rw [IntKind.wrap_i64]; omega : IntKind.i64.wrap ((j : Int) + 1) = ((j + 1 : Nat) : Int)) fun S => ?_
  refine Qaj ⟨0, [999]⟩ 50 S fun bs aa w S => ?_
  have S2 := S.to [0] (rvS e (j + 1) ((e.ws.getD j (0, 0)).1)) (by kernel_rfl) (by kernel_rfl) (by kernel_rfl) (by kernel_rfl) (by kernel_rfl)
  refine Qag (k' := (.rnd (m) (Qa_ rvC) :: rvC.k.tail)) (by kernel_rfl) ?_
  exact ih _ aa w S2
end
theorem rv_a (R : Bool) : ∀ (r j : Nat) (last : Int), j + r = e.ws.length → ((j = 0 ∧ last = -1) ∨ (0 < j ∧ last = (e.ws.getD (j - 1) (0, 0)).1 ∧ 0 ≤ last)) → asc last (e.ws.drop j) = R → ∀ (x0 : Nat) (aa : Act) (w : World) (S : Sy w0 [] [x0] (rvS e (j) last) [QaN e.b e.o e.ws] aa w), post Try.prog (.rnd (r + 1) (Qa_ rvC) :: rvC.k.tail) (bodyPost Try.prog Try.f48 fun y w' => y = .returned (.bool R) ∧ Below w0.heap.size w0 w') .normal aa w := by
  intro r
  induction r with
  | zero => intro j last hj hl he x0 aa w S; obtain rfl : j = e.ws.length := by omega
            exact rv_e w0 e hg h32 R last 0 he x0 aa w S
  | succ r ih =>
    intro j last hj hl he x0 aa w S
    rw [Qms _ _ (by omega)] at he
    by_cases hp : last < (e.ws.getD j (0, 0)).1
    · rw [decide_eq_true hp, Bool.true_and] at he
      have hn := ih (j + 1) (e.ws.getD j (0, 0)).1 (by omega) (Or.inr ⟨by omega, by rw [Nat.add_sub_cancel], by omega⟩) he
      rcases hl with ⟨h0, hl⟩ | ⟨h0, hl, hl2⟩
      · exact rv_t0 w0 e hg h32 R last (r + 1) j (by omega) (by omega) h0 hn x0 aa w S
      · exact rv_t1 w0 e hg h32 R last (r + 1) j (by omega) (by omega) h0 (by omega) hn x0 aa w S
    · rw [decide_eq_false hp, Bool.false_and] at he
      subst he
      by_cases hq : (e.ws.getD j (0, 0)).1 < 0
      · exact rv_f0 w0 e hg h32 last (r + 1) j (by omega) hq x0 aa w S
      · exact rv_f1 w0 e hg h32 last (r + 1) j (by omega) hq (by omega) (by omega) x0 aa w S
end
theorem rvalid_e (w0 : World) (e : Et) (hg : e.ok) (hA : Qc8 w0 e.b e.o e.ws) : Calls Try.prog 48 #[e.v] w0 fun y w' => y = .returned (.bool (QaG e.ver e.ws)) ∧ Below w0.heap.size w0 w' := by
  refine Qas [] [QaN e.b e.o e.ws] (by intro f hf; simp only [List.mem_singleton] at hf; subst hf; exact hA) Try.func48 rfl rfl fun aa S => ?_
  refine Qap 1 60 3 S fun bs aa w S => ?_
  by_cases h1 : 1 ≤ e.ver
  case neg =>
    have ev : QaG e.ver e.ws = false := by simp [QaG, h1]
    rw [ev]
    refine Qab 6 S (decide_eq_true (by omega) : decide (e.ver < 1) = true) fun S => ?_
    refine Qah S fun bs aa w S => ?_
    exact Qan S (by kernel_rfl) (by kernel_rfl) fun hg => ⟨rfl, Qaq hg⟩
  refine Qab 6 S (decide_eq_false (by omega) : decide (e.ver < 1) = false) fun S => ?_
  refine Qad 4 S fun bs aa w S => ?_
  by_cases h2 : e.ver ≤ 1099511627776
  case neg =>
    have ev : QaG e.ver e.ws = false := by simp [QaG, h2]
    rw [ev]
    refine Qab 10 S (decide_eq_true (by omega) : decide (e.ver > 1099511627776) = true) fun S => ?_
    refine Qah S fun bs aa w S => ?_
    exact Qan S (by kernel_rfl) (by kernel_rfl) fun hg => ⟨rfl, Qaq hg⟩
  refine Qab 10 S (decide_eq_false (by omega) : decide (e.ver > 1099511627776) = false) fun S => ?_
  refine Qad 6 S fun bs aa w S => ?_
  by_cases h3 : e.ws.length ≤ 32
  case neg =>
    have ev : QaG e.ver e.ws = false := by simp [QaG, h3]
    rw [ev]
    refine Qab 16 S (decide_eq_true (by omega) : decide ((e.ws.length : Int) > 32) = true) fun S => ?_
    refine Qah S fun bs aa w S => ?_
    exact Qan S (by kernel_rfl) (by kernel_rfl) fun hg => ⟨rfl, Qaq hg⟩
  refine Qab 16 S (decide_eq_false (by omega) : decide ((e.ws.length : Int) > 32) = false) fun S => ?_
  refine Qah S fun bs aa w S => ?_
  have ev : QaG e.ver e.ws = asc (-1) (e.ws.drop 0) := by simp [QaG, h1, h2, h3]
  rw [ev]
  have S2 := S.to [0] (rvS e 0 (-1)) (by kernel_rfl) (by kernel_rfl) (by kernel_rfl) (by kernel_rfl) (by kernel_rfl)
  refine QaR (e.ws.length + 1) (by kernel_rfl) ?_
  refine Qag (k' := (.rnd (e.ws.length + 1) (Qa_ rvC) :: rvC.k.tail)) (by kernel_rfl) ?_
  exact rv_a w0 e hg h3 _ e.ws.length 0 (-1) (by omega) (Or.inl ⟨rfl, rfl⟩) rfl _ aa w S2
def Qex (v : Value) (l : List Nat) : RF := ⟨fun b' => l.length ≠ 0 ∧ ∃ o n c, v = .slice (some ⟨b', o, none⟩) n c, fun w => Qeu w v l, fun w h b' hb => by
    obtain ⟨hl, o, n, c, rfl⟩ := hb
    obtain ⟨a', c', he, _, h | ⟨b, o', rfl, h⟩⟩ := h
    · exact absurd h hl
    · simp only [Value.slice.injEq, Option.some.injEq, Addr.mk.injEq] at he
      obtain ⟨⟨rfl, rfl, _⟩, _, _⟩ := he
      exact World.block_lt_of_cell? w _ (h 0 (by omega)), fun w w' h hb => by
    obtain ⟨a', c', rfl, h1, h⟩ := h
    refine ⟨a', c', rfl, h1, ?_⟩
    by_cases h0 : l.length = 0
    · exact Or.inl h0
    · obtain ⟨b, o', rfl, hq⟩ := h.resolve_left h0
      exact Or.inr ⟨b, o', rfl, fun j hj => (World.cell?_of_block (a := ⟨b, o' + j, none⟩) (hb b ⟨h0, o', _, _, rfl⟩)).trans (hq j hj)⟩⟩
theorem QgG (p : ByteArray) (j : Nat) : (Qaf p).getD j 0 = byt p j := by
  unfold Qaf byt
  simp only [List.getD_eq_getElem?_getD, List.getElem?_map]
  cases p.data.toList[j]? <;> rfl
theorem byte_lt (p : ByteArray) : ∀ b ∈ Qaf p, b < 256 := by
  intro b hb
  simp only [Qaf, List.mem_map] at hb
  obtain ⟨c, _, rfl⟩ := hb
  exact c.toNat_lt
theorem ex_sb {s : SS} {bs : List Nat} {w : World} {x : Operand} {p : ByteArray} (hx : s.val x = some (.v (.string p))) (hp : p.size ≤ maxLen) :
    ∀ (o : Oper) (ρ : Operand → Value), o.op = .convert 9 48 x → o.type = 48 → (∀ x y, s.val x = some y → ρ x = den bs y) → ∃ v w', (execOp ρ o).run Try.prog w = .ok (.value v) w' ∧ (Qeu w' v (Qaf p) ∧ ∀ b, (Qex v (Qaf p)).bl b → w.heap.size ≤ b) ∧ Below w.heap.size w w' := by
  intro o ρ h1 h2 h3
  have e1 : ρ x = .string p := h3 x _ hx
  have hr := run_bytes_of_string (P := Try.prog) w 9 48 5 p Try.underlying9 Try.underlying48 Try.underlying5
  have hl : (Qaf p).length = p.size := QbL p
  have g1 := grownCap_ge w p.size 0 5
  have g2 := grownCap_le_maxLen w p.size 0 5 hp
  refine ⟨_, w.drew.alloc (.cells (bytesRow p (grownCap w p.size 0 5)) 5 ((bytesRow p (grownCap w p.size 0 5)).size, (bytesRow p (grownCap w p.size 0 5)).size + 1)), ?_, ⟨⟨some ⟨w.heap.size, 0, none⟩, grownCap w p.size 0 5, by rw [hl], ⟨by rw [hl]; simpa [maxLen] using hp, by rw [hl]; exact g1, by simpa [maxLen] using g2, fun h => by cases h⟩, Or.inr ⟨_, _, rfl, fun j hj => ?_⟩⟩, fun b hb => ?_⟩, ?_⟩
  · unfold execOp
    simp only [h1, e1, Sem.run_bind, Sem.run_pure, Result.andThen_ok, hr]
  · have hj' : j < p.data.size := by rw [hl] at hj; exact hj
    have hb := bytesRow_at p (grownCap w p.size 0 5) j hj'
    have hh : (w.drew.alloc (.cells (bytesRow p (grownCap w p.size 0 5)) 5 ((bytesRow p (grownCap w p.size 0 5)).size, (bytesRow p (grownCap w p.size 0 5)).size + 1))).heap[w.heap.size]? = some (.cells (bytesRow p (grownCap w p.size 0 5)) 5 ((bytesRow p (grownCap w p.size 0 5)).size, (bytesRow p (grownCap w p.size 0 5)).size + 1)) := heap_alloc_new w.drew _
    unfold World.cell?
    rw [Nat.zero_add]
    simp only [hh]
    rw [QgG, hb]
    unfold byt
    simp [List.getD, List.getElem?_eq_getElem, hj']
    rw [Array.getElem?_eq_getElem hj', Option.getD_some]
  · obtain ⟨_, o2, n2, c2, he⟩ := hb
    simp only [Value.slice.injEq, Option.some.injEq, Addr.mk.injEq] at he
    omega
  · exact ⟨rfl, rfl, rfl, by simp, fun k hk => heap_alloc_old w.drew _ hk⟩
theorem wsum_t (w0 : World) (p : ByteArray) (hp : p.size ≤ maxLen) : Calls Try.prog 85 #[.string p] w0 fun y w' => y = .returned (.int .i64 (Qb0 (Qaf p) : Int)) ∧ Below w0.heap.size w0 w' := by
  refine Qas [] [] (by intro f hf; cases hf) Try.func85 rfl rfl fun aa S => ?_
  refine Qap 1 60 1 S fun bs aa w S => ?_
  refine sy_exB S (by kernel_rfl) (fun o ρ h1 h2 h3 => ex_sb (x := .tmp 3) (p := p) (by kernel_rfl) hp o ρ h1 h2 h3) fun v aa w' hC hb S => ?_
  refine QaJ S ((sum_any v (Qaf p) (byte_lt p) w' hC.1).mono fun e w2 h => ⟨h.1, by rw [← h.2]; exact Below.refl _ _⟩) (by kernel_rfl) fun aa w hb S => ?_
  refine Qah S fun bs aa w S => ?_
  exact Qan S (by kernel_rfl) (by kernel_rfl) fun hg => ⟨rfl, Qaq hg⟩
theorem mod_a (x c : Nat) (hx : x < 65521) (hc : c < 256) : Int.tmod (IntKind.i64.wrap ((x : Int) + IntKind.i64.wrap (c : Int))) 65521 = (((x + c) % 65521 : Nat) : Int) := by
  have e : IntKind.i64.wrap (c : Int) = (c : Int) := by rw [IntKind.wrap_i64]; omega
  have e2 : IntKind.i64.wrap ((x : Int) + (c : Int)) = ((x + c : Nat) : Int) := by rw [IntKind.wrap_i64]; omega
  rw [e, e2]
  exact (Int.ofNat_tmod _ _).symm
theorem mod_b (x c : Nat) (hx : x < 65521) (hc : c < 65521) : Int.tmod (IntKind.i64.wrap ((x : Int) + (c : Int))) 65521 = (((x + c) % 65521 : Nat) : Int) := by
  have e2 : IntKind.i64.wrap ((x : Int) + (c : Int)) = ((x + c : Nat) : Int) := by rw [IntKind.wrap_i64]; omega
  rw [e2]
  exact (Int.ofNat_tmod _ _).symm
noncomputable def suC : Cfg := ⟨goZ 60 [] [.code (QaW Try.f50)], ⟨0, [], []⟩⟩
noncomputable def suS (p : ByteArray) (j : Nat) : SS := ⟨27, [(0, .v (.string p)), (3, .v (.int .i64 ((adS ((Qaf p).take j)).1 : Int))), (4, .v (.int .i64 ((adS ((Qaf p).take j)).2 : Int))), (5, .v (.int .i64 (j : Int)))], []⟩
theorem adS_step (p : ByteArray) (j : Nat) (hj : j < p.size) : adS ((Qaf p).take (j + 1)) = (((adS ((Qaf p).take j)).1 + byt p j) % 65521, ((adS ((Qaf p).take j)).2 + ((adS ((Qaf p).take j)).1 + byt p j) % 65521) % 65521) := by
  have hl := QbL p
  rw [Qeb _ _ (by omega), QgN, QgG]
theorem byt_lt (p : ByteArray) (j : Nat) : byt p j < 256 := UInt8.toNat_lt _
section
variable (w0 : World) (p : ByteArray)
include w0 p
theorem su_e (m : Nat) (aa : Act) (w : World) (S : Sy w0 [] [] (suS p (p.size)) [] aa w) : post Try.prog (.rnd (m + 1) (Qa_ suC) :: suC.k.tail) (bodyPost Try.prog Try.f50 fun y w' => y = .returned (.int .i64 (Qb0 (Qaf p) : Int)) ∧ Below w0.heap.size w0 w') .normal aa w := by
  refine Qap (c := ⟨(.rnd (m + 1) (Qa_ suC) :: suC.k.tail), suS p p.size⟩) 4 50 4 S fun bs aa w S => ?_
  refine Qab 9 S (decide_eq_false (by omega) : decide ((p.size : Int) < (p.size : Int)) = false) fun S => ?_
  refine Qap 8 60 4 S fun bs aa w S => ?_
  have hl := Qf5 (Qaf p)
  have e0 : (Qaf p).take p.size = Qaf p := List.take_of_length_le (by rw [QbL]; exact Nat.le_refl _)
  refine QaB 26 S (by rw [e0, IntKind.wrap_i64, IntKind.wrap_i64]; unfold Qb0; omega : IntKind.i64.wrap (IntKind.i64.wrap (65536 * ((adS ((Qaf p).take p.size)).2 : Int)) + ((adS ((Qaf p).take p.size)).1 : Int)) = (Qb0 (Qaf p) : Int)) fun S => ?_
  refine Qah S fun bs aa w S => ?_
  exact Qan S (by kernel_rfl) (by kernel_rfl) fun hg => ⟨rfl, Qaq hg⟩
theorem su_s (hp : p.size ≤ maxLen) (m j : Nat) (hj : j < p.size) (ih : ∀ (aa : Act) (w : World) (S : Sy w0 [] [] (suS p (j + 1)) [] aa w), post Try.prog (.rnd (m) (Qa_ suC) :: suC.k.tail) (bodyPost Try.prog Try.f50 fun y w' => y = .returned (.int .i64 (Qb0 (Qaf p) : Int)) ∧ Below w0.heap.size w0 w') .normal aa w) (aa : Act) (w : World) (S : Sy w0 [] [] (suS p (j)) [] aa w) : post Try.prog (.rnd (m + 1) (Qa_ suC) :: suC.k.tail) (bodyPost Try.prog Try.f50 fun y w' => y = .returned (.int .i64 (Qb0 (Qaf p) : Int)) ∧ Below w0.heap.size w0 w') .normal aa w := by
  have hmx : p.size ≤ 9223372036854775807 := hp
  have hs := adS_step p j hj
  have hl := Qf5 ((Qaf p).take j)
  have hby := byt_lt p j
  have e1 := congrArg Prod.fst hs
  have e2 := congrArg Prod.snd hs
  simp only at e1 e2
  clear hs
  have h2l := (Qf5 ((Qaf p).take (j + 1))).1
  refine Qap (c := ⟨(.rnd (m + 1) (Qa_ suC) :: suC.k.tail), suS p j⟩) 4 50 4 S fun bs aa w S => ?_
  refine Qab 9 S (decide_eq_true (by omega) : decide ((j : Int) < (p.size : Int)) = true) fun S => ?_
  refine Qap 6 60 3 S fun bs aa w S => ?_
  refine QcC (op := .index 9 (.tmp 13) (.tmp 14)) (ty := 5) (v := .int .u8 ((byt p j : Nat) : Int)) S (by kernel_rfl) (ex_ix (p := p) (k := j) Try.underlying9 (by kernel_rfl) (by kernel_rfl) hj) fun aa S => ?_
  refine Qad 3 S fun bs aa w S => ?_
  refine QaB 18 S ((mod_a _ _ hl.1 hby).trans (congrArg Nat.cast e1.symm) : Int.tmod (IntKind.i64.wrap (((adS ((Qaf p).take j)).1 : Int) + IntKind.i64.wrap ((byt p j : Nat) : Int))) 65521 = ((adS ((Qaf p).take (j + 1))).1 : Int)) fun S => ?_
  refine Qap 7 60 4 S fun bs aa w S => ?_
  refine QaB 22 S ((mod_b _ _ hl.2 h2l).trans (by rw [e2, e1]) : Int.tmod (IntKind.i64.wrap (((adS ((Qaf p).take j)).2 : Int) + ((adS ((Qaf p).take (j + 1))).1 : Int))) 65521 = ((adS ((Qaf p).take (j + 1))).2 : Int)) fun S => ?_
  refine Qap 5 60 2 S fun bs aa w S => ?_
  refine QaB 11 S (by rw [IntKind.wrap_i64]; omega : IntKind.i64.wrap ((j : Int) + 1) = ((j + 1 : Nat) : Int)) fun S => ?_
  refine Qaj ⟨0, [999]⟩ 50 S fun bs aa w S => ?_
  have S2 := S.to [] (suS p (j + 1)) (by kernel_rfl) (by kernel_rfl) (by kernel_rfl) (by kernel_rfl) (by kernel_rfl)
  refine Qag (k' := (.rnd (m) (Qa_ suC) :: suC.k.tail)) (by kernel_rfl) ?_
  exact ih aa w S2
theorem su_a (hp : p.size ≤ maxLen) : ∀ (r j : Nat), j + r = p.size → ∀ (aa : Act) (w : World) (S : Sy w0 [] [] (suS p (j)) [] aa w), post Try.prog (.rnd (r + 1) (Qa_ suC) :: suC.k.tail) (bodyPost Try.prog Try.f50 fun y w' => y = .returned (.int .i64 (Qb0 (Qaf p) : Int)) ∧ Below w0.heap.size w0 w') .normal aa w := by
  intro r
  induction r with
  | zero => intro j hj aa w S; obtain rfl : j = p.size := by omega
            exact su_e w0 p 0 aa w S
  | succ r ih => intro j hj aa w S; exact su_s w0 p hp (r + 1) j (by omega) (ih (j + 1) (by omega)) aa w S
theorem rsum_t (hp : p.size ≤ maxLen) : Calls Try.prog 50 #[.string p] w0 fun y w' => y = .returned (.int .i64 (Qb0 (Qaf p) : Int)) ∧ Below w0.heap.size w0 w' := by
  refine Qas [] [] (by intro f hf; cases hf) Try.func50 rfl rfl fun aa S => ?_
  refine Qah S fun bs aa w S => ?_
  have S2 := S.to [] (suS p 0) (by kernel_rfl) (by kernel_rfl) (by kernel_rfl) (by kernel_rfl) (by kernel_rfl)
  refine QaR (p.size + 1) (by kernel_rfl) ?_
  refine Qag (k' := (.rnd (p.size + 1) (Qa_ suC) :: suC.k.tail)) (by kernel_rfl) ?_
  exact su_a w0 p hp p.size 0 (by omega) aa w S2
end
theorem Qbq [DF] {w0 : World} {r bs : List Nat} {s : SS} {F : List RF} {a : Act} {w : World} (S : Sy w0 r bs s F a w) {G : Prop} (h : ∀ bs, Sy w0 r bs s F a w → G) : G := h bs S
theorem Qd3 {w : World} {g o c : Nat} {cs : List Value} {ty : TypeId} {l : List Nat} (h : w.heap[g]? = some (.cells cs.toArray ty (0, 0))) (hc : ∀ j, j < l.length → cs[o + j]? = some (.int .u8 ((l.getD j 0 : Nat) : Int))) (h1 : l.length ≤ c) (h2 : c ≤ 9223372036854775807) : Qeu w (.slice (some ⟨g, o, none⟩) l.length c) l :=
  ⟨_, _, rfl, ⟨by omega, h1, h2, fun h => by cases h⟩, Or.inr ⟨g, o, rfl, fun j hj => Qd9 h (hc j hj)⟩⟩
theorem Qj4 {s : SS} {bs : List Nat} {w : World} {x : Operand} {y : SV} {l : List Nat} {a : Option Addr} {n c : Nat} (hx : s.val x = some y) (hy : den bs y = .slice a n c) (hl : ∀ b ∈ l, b < 256) (h : Qeu w (.slice a n c) l) :
    ∀ (o : Oper) (ρ : Operand → Value), o.op = .convert 48 9 x → o.type = 9 → (∀ x y, s.val x = some y → ρ x = den bs y) → (execOp ρ o).run Try.prog w = .ok (.value (.string (QaO l))) w := by
  intro o ρ h1 h2 h3
  have e1 : ρ x = .slice a n c := (h3 x _ hx).trans hy
  have hr : (convert 48 9 (.slice a n c)).run Try.prog w = .ok (.string (QaO l)) w := run_str hl h 0
  unfold execOp
  simp only [h1, e1, Sem.run_bind, Sem.run_pure, Result.andThen_ok, hr]
theorem Qjf {s : SS} {bs : List Nat} {x y : Operand} {t t' ty : TypeId} {p q z : Int} (hx : s.val x = some (.v (.int .i64 p))) (hy : s.val y = some (.v (.int .i64 q))) (hq : 0 ≤ q) (hz : p / 2 ^ min q.toNat 64 = z) :
    ∀ (o : Oper) (ρ : Operand → Value) (W : World), o.op = .binOp .shr t x y t' → o.type = ty → (∀ x y, s.val x = some y → ρ x = den bs y) → (execOp ρ o).run Try.prog W = .ok (.value (.int .i64 z)) W := by
  intro o ρ W h1 h2 h3
  have e1 : ρ x = .int .i64 p := h3 x _ hx
  have e2 : ρ y = .int .i64 q := h3 y _ hy
  have hs := shift_shr_any .i64 .i64 p q hq
  have hb : IntKind.i64.bits = 64 := rfl
  rw [hb, hz] at hs
  unfold execOp
  simp only [h1, e1, e2, eqGuard, binOp_shr, hs, Sem.run_bind, Sem.run_pure, Result.andThen_ok]
  rfl
theorem ex_len {s : SS} {bs : List Nat} {x : Operand} {y : SV} {t ty e : TypeId} {a : Option Addr} {n c : Nat} (ht : Try.prog.underlying t = some (.slice e)) (hx : s.val x = some y) (hy : den bs y = .slice a n c) :
    ∀ (o : Oper) (ρ : Operand → Value) (W : World), o.op = .call { callee := .builtin .len, args := #[x], argTypes := #[t] } → o.type = ty → (∀ x y, s.val x = some y → ρ x = den bs y) → (execOp ρ o).run Try.prog W = .ok (.value (.int .i64 (n : Int))) W := by
  intro o ρ W h1 h2 h3
  have e1 : ρ x = .slice a n c := (h3 x _ hx).trans hy
  unfold execOp
  have hr : (Builtin.len_ #[t] o.type #[.slice a n c]).run Try.prog W = .ok (.int .i64 (n : Int)) W := by simp [Builtin.len_, run_underlying ht]; rfl
  simp only [h1, e1, resolve, invoke, builtin, List.map_toArray, List.map_cons, List.map_nil, Sem.run_bind, Sem.run_pure, Result.andThen_ok, hr]
def c32 (b : List Nat) : List Value := (List.range 32).map fun j => Value.int .u8 ((b.getD j 0 : Nat) : Int)
theorem c32_at (b : List Nat) (j : Nat) (hj : j < 32) : (c32 b)[0 + j]? = some (.int .u8 ((b.getD j 0 : Nat) : Int)) := by simp [c32, hj]
theorem c32_of (b : List Nat) (h : b.length = 32) : c32 b = b.map bV := by
  apply List.ext_getElem
  · simp [c32, h]
  · intro i h1 h2
    simp only [List.length_map] at h2
    simp [c32, bV, List.getD, List.getElem?_eq_getElem h2]
theorem Qir (b : List Nat) (h : b.length = 28) : c32 b = (b ++ [0, 0, 0, 0]).map bV := by
  rw [← c32_of _ (by simp [h])]
  unfold c32
  refine List.map_congr_left fun j hj => ?_
  rw [List.mem_range] at hj
  by_cases h1 : j < 28
  · simp [List.getD, List.getElem?_append_left (show j < b.length by omega)]
  · simp only [List.getD, List.getElem?_eq_none (show b.length ≤ j by omega), List.getElem?_append_right (show b.length ≤ j by omega), h]
    have : j = 28 ∨ j = 29 ∨ j = 30 ∨ j = 31 := by omega
    rcases this with rfl | rfl | rfl | rfl <;> rfl
abbrev z32c (f : Nat) : List Value := Value.int .u8 (f : Int) :: List.replicate 31 (Value.int .u8 0)
theorem Qmg (f : Nat) (p : List Nat) (hl : p.length ≤ 27) : (z32c f).take 1 ++ p.map bV ++ (z32c f).drop (1 + p.length) = c32 (Qa1 f p) := by
  rw [Qir _ (QbD hl)]
  have e : (z32c f).drop (1 + p.length) = List.replicate (31 - p.length) (Value.int .u8 0) := by
    rw [Nat.add_comm]
    show (List.replicate 31 (Value.int .u8 0)).drop p.length = _
    rw [List.drop_replicate]
  rw [e]
  show Value.int .u8 (f : Int) :: (p.map bV ++ _) = _
  unfold Qa1 Qg2
  simp only [List.cons_append, List.map_cons, List.map_append, List.append_assoc, List.map_replicate]
  show _ = Value.int .u8 (f : Int) :: _
  congr 2
  rw [show 31 - p.length = (27 - p.length) + 4 by omega, ← List.replicate_append_replicate]
  rfl
theorem sealed4 (f : Nat) (p : List Nat) (hl : p.length ≤ 27) (n : Nat) (hn : n = Qb0 (Qa1 f p)) : (c32 (Qa1 f p)).take 28 ++ [bV (n % 256), bV (n / 256 % 256), bV (n / 65536 % 256), bV (n / 16777216 % 256)] = (sec f p).map bV := by
  subst hn
  rw [Qir _ (QbD hl), List.map_append, List.take_append_of_le_length (by simp [QbD hl]), List.take_of_length_le (by simp [QbD hl])]
  unfold sec le4
  rw [List.map_append]
  rfl
theorem ex_cp {s : SS} {bs : List Nat} {w : World} {x y : Operand} {X Y : SV} {g : Nat} {f : Nat} {p : List Nat} {pa : Option Addr} {pc : Nat} (hl : p.length ≤ 27) (hx : s.val x = some X) (hX : den bs X = .slice (some ⟨g, 1, none⟩) 27 31) (hy : s.val y = some Y) (hY : den bs Y = .slice pa p.length pc) (hv : Qeu w (.slice pa p.length pc) p) (hg : w.heap[g]? = some (.cells (z32c f).toArray 132 (0, 0))) :
    ∀ (o : Oper) (ρ : Operand → Value), o.op = .call { callee := .builtin .copy, args := #[x, y], argTypes := #[48, 48] } → o.type = 3 → (∀ x y, s.val x = some y → ρ x = den bs y) → ∃ w', (execOp ρ o).run Try.prog w = .ok (.value (.int .i64 (p.length : Int))) w' ∧ w'.heap[g]? = some (.cells (c32 (Qa1 f p)).toArray 132 (0, 0)) ∧ Gr w w' [g] := by
  intro o ρ h1 h2 h3
  have e1 : ρ x = .slice (some ⟨g, 1, none⟩) 27 31 := (h3 x _ hx).trans hX
  have e2 : ρ y = .slice pa p.length pc := (h3 y _ hy).trans hY
  have hsz : (Try.prog.info? 5).map (·.size) = some 1 := by kernel_rfl
  have hu : Try.prog.underlying 48 = some (.slice 5) := Try.underlying48
  obtain ⟨_, hs⟩ := Qjb hv
  rcases Nat.eq_zero_or_pos p.length with h0 | h0
  · have hr := run_copy_none (P := Try.prog) w 48 48 o.type 5 (some ⟨g, 1, none⟩) pa 27 31 p.length pc hu hsz (by rw [h0]; rfl)
    refine ⟨w, ?_, ?_, Qgy _ _⟩
    · unfold execOp
      simp only [h1, e1, e2, resolve, invoke, builtin, List.map_toArray, List.map_cons, List.map_nil, Sem.run_bind, Sem.run_pure, Result.andThen_ok, hr]
      rw [h0]
      rfl
    · rw [hg, ← Qmg f p hl, List.length_eq_zero_iff.1 h0]
      simp
  · obtain ⟨ad, rfl, hc⟩ := hs.resolve_left (fun q => by omega)
    have hr := run_copy_row (P := Try.prog) w 48 48 o.type 5 g 1 27 31 ad p.length pc (z32c f).toArray 132 (p.map bV) hu hsz hg (by show (p.map bV).length = min p.length 27; rw [List.length_map, Nat.min_eq_left hl]) hc (by rw [List.length_map]; show 1 + p.length ≤ 32; omega) (Qmp p)
    refine ⟨_, ?_, setRow_heap w g _ _ _ _ hg, ?_⟩
    · unfold execOp
      simp only [h1, e1, e2, resolve, invoke, builtin, List.map_toArray, List.map_cons, List.map_nil, Sem.run_bind, Sem.run_pure, Result.andThen_ok, hr, Qmg f p hl, List.length_map]
      rw [← Qmg f p hl]
      rfl
    · exact ⟨rfl, rfl, rfl, by simp [World.setRow], fun k hk hne => setRow_other w g k _ (fun e => hne (by simp [e]))⟩
theorem u8_of (n d : Nat) : IntKind.u8.wrap (((n : Nat) : Int) / (d : Int)) = ((n / d % 256 : Nat) : Int) := by
  rw [← Int.natCast_ediv]
  show _ = _
  rw [IntKind.wrap_u8]
  omega
theorem ar_1 (b : Nat) (W : World) : (Instr.sliceAt 132 (.pointer (some ⟨b, 0, none⟩)) (some (.int .i64 1)) (some (.int .i64 28)) none).run Try.prog W = .ok (.slice (some ⟨b, 1, none⟩) 27 31) W := by kernel_rfl
theorem ar_2 (b : Nat) (W : World) : (Instr.sliceAt 132 (.pointer (some ⟨b, 0, none⟩)) none (some (.int .i64 28)) none).run Try.prog W = .ok (.slice (some ⟨b, 0, none⟩) 28 32) W := by kernel_rfl
theorem ar_3 (b : Nat) (W : World) : (Instr.sliceAt 132 (.pointer (some ⟨b, 0, none⟩)) (some (.int .i64 28)) none none).run Try.prog W = .ok (.slice (some ⟨b, 28, none⟩) 4 4) W := by kernel_rfl
theorem ar_4 (b : Nat) (W : World) : (Instr.sliceAt 132 (.pointer (some ⟨b, 0, none⟩)) none none none).run Try.prog W = .ok (.slice (some ⟨b, 0, none⟩) 32 32) W := by kernel_rfl
noncomputable def scC : Cfg := ⟨goZ 60 [] [.code (QaW Try.f80)], ⟨0, [], []⟩⟩
def cI (B : List Nat) (A : Nat) : Nat → List Value
  | 0 => (c32 B).take 28 ++ [bV 0, bV 0, bV 0, bV 0]
  | 1 => (c32 B).take 28 ++ [bV (A / 1 % 256), bV 0, bV 0, bV 0]
  | 2 => (c32 B).take 28 ++ [bV (A / 1 % 256), bV (A / 256 % 256), bV 0, bV 0]
  | 3 => (c32 B).take 28 ++ [bV (A / 1 % 256), bV (A / 256 % 256), bV (A / 65536 % 256), bV 0]
  | _ => (c32 B).take 28 ++ [bV (A / 1 % 256), bV (A / 256 % 256), bV (A / 65536 % 256), bV (A / 16777216 % 256)]
noncomputable def scS0 (f : Nat) (p : List Nat) (A : Nat) : SS := ⟨33, [(5, .p 0 0), (6, .v (.int .i64 (A : Int))), (18, .v (.int .i64 4)), (19, .v (.int .i64 0))], [⟨132, c32 (Qa1 f p)⟩]⟩
noncomputable def scS (f : Nat) (p : List Nat) (A : Nat) (i : Nat) : SS := ⟨33, [(5, .p 0 0), (6, .v (.int .i64 (A : Int))), (18, .v (.int .i64 4)), (19, .v (.int .i64 (i : Int)))], [⟨132, cI (Qa1 f p) A i⟩]⟩
theorem cI_0 (f : Nat) (p : List Nat) (hl : p.length ≤ 27) : c32 (Qa1 f p) = (c32 (Qa1 f p)).take 28 ++ [bV 0, bV 0, bV 0, bV 0] := by
  rw [Qir _ (QbD hl), List.map_append, List.take_append_of_le_length (by simp [QbD hl]), List.take_of_length_le (by simp [QbD hl])]
  rfl
section
variable (w0 : World) (f : Nat) (hf : f < 256) (p : List Nat) (hp : ∀ b ∈ p, b < 256) (hl : p.length ≤ 27) (A : Nat) (eA : A = Qb0 (Qa1 f p)) (v : Value) (x0 : Nat) (aa : Act) (w : World)
include w0 f hf p hp hl A eA v x0 aa w
theorem sc_r4 (S : Sy w0 [] [x0] (scS f p A 4) [Qex v p] aa w) : post Try.prog (.rnd 1 (Qa_ scC) :: scC.k.tail) (bodyPost Try.prog Try.f80 fun y w' => y = .returned (.string (QeI f p)) ∧ Below w0.heap.size w0 w') .normal aa w := by
  refine Qaj (c := ⟨(.rnd 1 (Qa_ scC) :: scC.k.tail), scS f p A 4⟩) ⟨0, [10]⟩ 60 S fun bs aa w S => ?_
  refine Qcn S fun S => ?_
  refine Qbq S fun bs S => ?_
  refine QiF 0 0 32 32 S (by kernel_rfl) (op := .slice 132 (.tmp 5) none none none) (ty := 48) (by kernel_rfl) (Qje (y := .p 0 0) (l2 := none) (h2 := none) (m2 := none) (by kernel_rfl) rfl (by kernel_rfl) (by kernel_rfl) (by kernel_rfl) (fun W => ar_4 _ W)) fun aa S => ?_
  have hbx : w.heap[bs.getD 0 0]? = some (.cells (cI (Qa1 f p) A 4).toArray 132 (0, 0)) := S.bx 0 ⟨132, cI (Qa1 f p) A 4⟩ (by kernel_rfl)
  have e4 : cI (Qa1 f p) A 4 = (sec f p).map bV := by
    show (c32 (Qa1 f p)).take 28 ++ [bV (A / 1 % 256), bV (A / 256 % 256), bV (A / 65536 % 256), bV (A / 16777216 % 256)] = _
    rw [Nat.div_one, sealed4 f p hl A eA]
  rw [e4] at hbx
  have hs32 := QhN (f := f) hl
  have hB : Qeu w (.slice (some ⟨bs.getD 0 0, 0, none⟩) 32 32) (sec f p) := by
    have h := Qd3 (o := 0) (c := 32) (l := sec f p) hbx (fun j hj => by simp [bV, List.getD, List.getElem?_eq_getElem hj]) (by omega) (by omega)
    rwa [hs32] at h
  refine QgT S (op := .convert 48 9 (.tmp 31)) (ty := 9) (v := .string (QeI f p)) (by kernel_rfl) (Qj4 (y := .s 0 0 32 32) (by kernel_rfl) rfl (Qgg hf hp) hB) fun aa S => ?_
  refine Qah S fun bs aa w S => ?_
  exact Qan S (by kernel_rfl) (by kernel_rfl) fun hg => ⟨rfl, Qaq hg⟩
theorem sc_r3 (S : Sy w0 [] [x0] (scS f p A 3) [Qex v p] aa w) : post Try.prog (.rnd 2 (Qa_ scC) :: scC.k.tail) (bodyPost Try.prog Try.f80 fun y w' => y = .returned (.string (QeI f p)) ∧ Below w0.heap.size w0 w') .normal aa w := by
  refine Qap (c := ⟨(.rnd 2 (Qa_ scC) :: scC.k.tail), scS f p A 3⟩) 8 60 5 S fun bs aa w S => ?_
  refine QcC (op := .binOp .shr 3 (.tmp 24) (.tmp 26) 3) (ty := 3) (v := .int .i64 ((A : Int) / ((16777216 : Nat) : Int))) S (by kernel_rfl) (Qjf (p := (A : Int)) (q := 24) (by kernel_rfl) (by kernel_rfl) (by decide) (by rfl)) fun aa S => ?_
  refine Qad 1 S fun bs aa w S => ?_
  refine Qco 28 S (congrArg (Value.int .u8) (u8_of A 16777216)) (by kernel_rfl) fun S => ?_
  refine QgS S fun aa S => ?_
  refine Qad 1 S fun bs aa w S => ?_
  refine Qaj ⟨0, [999]⟩ 60 S fun bs aa w S => ?_
  have S2 := S.to [0] (scS f p A 4) (by kernel_rfl) (by kernel_rfl) (by kernel_rfl) (by kernel_rfl) (by kernel_rfl)
  refine Qag (k' := (.rnd 1 (Qa_ scC) :: scC.k.tail)) (by kernel_rfl) ?_
  exact sc_r4 w0 f hf p hp hl A eA v _ aa w S2
theorem sc_r2 (S : Sy w0 [] [x0] (scS f p A 2) [Qex v p] aa w) : post Try.prog (.rnd 3 (Qa_ scC) :: scC.k.tail) (bodyPost Try.prog Try.f80 fun y w' => y = .returned (.string (QeI f p)) ∧ Below w0.heap.size w0 w') .normal aa w := by
  refine Qap (c := ⟨(.rnd 3 (Qa_ scC) :: scC.k.tail), scS f p A 2⟩) 8 60 5 S fun bs aa w S => ?_
  refine QcC (op := .binOp .shr 3 (.tmp 24) (.tmp 26) 3) (ty := 3) (v := .int .i64 ((A : Int) / ((65536 : Nat) : Int))) S (by kernel_rfl) (Qjf (p := (A : Int)) (q := 16) (by kernel_rfl) (by kernel_rfl) (by decide) (by rfl)) fun aa S => ?_
  refine Qad 1 S fun bs aa w S => ?_
  refine Qco 28 S (congrArg (Value.int .u8) (u8_of A 65536)) (by kernel_rfl) fun S => ?_
  refine QgS S fun aa S => ?_
  refine Qad 1 S fun bs aa w S => ?_
  refine Qaj ⟨0, [999]⟩ 60 S fun bs aa w S => ?_
  have S2 := S.to [0] (scS f p A 3) (by kernel_rfl) (by kernel_rfl) (by kernel_rfl) (by kernel_rfl) (by kernel_rfl)
  refine Qag (k' := (.rnd 2 (Qa_ scC) :: scC.k.tail)) (by kernel_rfl) ?_
  exact sc_r3 w0 f hf p hp hl A eA v _ aa w S2
theorem sc_r1 (S : Sy w0 [] [x0] (scS f p A 1) [Qex v p] aa w) : post Try.prog (.rnd 4 (Qa_ scC) :: scC.k.tail) (bodyPost Try.prog Try.f80 fun y w' => y = .returned (.string (QeI f p)) ∧ Below w0.heap.size w0 w') .normal aa w := by
  refine Qap (c := ⟨(.rnd 4 (Qa_ scC) :: scC.k.tail), scS f p A 1⟩) 8 60 5 S fun bs aa w S => ?_
  refine QcC (op := .binOp .shr 3 (.tmp 24) (.tmp 26) 3) (ty := 3) (v := .int .i64 ((A : Int) / ((256 : Nat) : Int))) S (by kernel_rfl) (Qjf (p := (A : Int)) (q := 8) (by kernel_rfl) (by kernel_rfl) (by decide) (by rfl)) fun aa S => ?_
  refine Qad 1 S fun bs aa w S => ?_
  refine Qco 28 S (congrArg (Value.int .u8) (u8_of A 256)) (by kernel_rfl) fun S => ?_
  refine QgS S fun aa S => ?_
  refine Qad 1 S fun bs aa w S => ?_
  refine Qaj ⟨0, [999]⟩ 60 S fun bs aa w S => ?_
  have S2 := S.to [0] (scS f p A 2) (by kernel_rfl) (by kernel_rfl) (by kernel_rfl) (by kernel_rfl) (by kernel_rfl)
  refine Qag (k' := (.rnd 3 (Qa_ scC) :: scC.k.tail)) (by kernel_rfl) ?_
  exact sc_r2 w0 f hf p hp hl A eA v _ aa w S2
theorem sc_r0 (S : Sy w0 [] [x0] (scS f p A 0) [Qex v p] aa w) : post Try.prog (.rnd 5 (Qa_ scC) :: scC.k.tail) (bodyPost Try.prog Try.f80 fun y w' => y = .returned (.string (QeI f p)) ∧ Below w0.heap.size w0 w') .normal aa w := by
  refine Qap (c := ⟨(.rnd 5 (Qa_ scC) :: scC.k.tail), scS f p A 0⟩) 8 60 5 S fun bs aa w S => ?_
  refine QcC (op := .binOp .shr 3 (.tmp 24) (.tmp 26) 3) (ty := 3) (v := .int .i64 ((A : Int) / ((1 : Nat) : Int))) S (by kernel_rfl) (Qjf (p := (A : Int)) (q := 0) (by kernel_rfl) (by kernel_rfl) (by decide) (by rfl)) fun aa S => ?_
  refine Qad 1 S fun bs aa w S => ?_
  refine Qco 28 S (congrArg (Value.int .u8) (u8_of A 1)) (by kernel_rfl) fun S => ?_
  refine QgS S fun aa S => ?_
  refine Qad 1 S fun bs aa w S => ?_
  refine Qaj ⟨0, [999]⟩ 60 S fun bs aa w S => ?_
  have S2 := S.to [0] (scS f p A 1) (by kernel_rfl) (by kernel_rfl) (by kernel_rfl) (by kernel_rfl) (by kernel_rfl)
  refine Qag (k' := (.rnd 4 (Qa_ scC) :: scC.k.tail)) (by kernel_rfl) ?_
  exact sc_r1 w0 f hf p hp hl A eA v _ aa w S2
end
theorem sector_t (w0 : World) (f : Nat) (hf : f < 256) (p : List Nat) (hp : ∀ b ∈ p, b < 256) (hl : p.length ≤ 27) (v : Value) (hv : Qeu w0 v p) : Calls Try.prog 80 #[.int .i64 (f : Int), v] w0 fun y w' => y = .returned (.string (QeI f p)) ∧ Below w0.heap.size w0 w' := by
  obtain ⟨pa, pc, rfl, _⟩ := id hv
  refine Qas [] [Qex (.slice pa p.length pc) p] (by intro f hf; simp only [List.mem_singleton] at hf; subst hf; exact hv) Try.func80 rfl rfl fun aa S => ?_
  refine Qap 2 60 2 S fun bs aa w S => ?_
  refine Qco 9 S (congrArg (Value.int .u8) (by rw [IntKind.wrap_u8]; omega : IntKind.u8.wrap (f : Int) = (f : Int))) (by kernel_rfl) fun S => ?_
  refine QgS S fun aa S => ?_
  refine Qad 1 S fun bs aa w S => ?_
  refine Qaj ⟨0, [3]⟩ 60 S fun bs aa w S => ?_
  refine Qcn S fun S => ?_
  refine Qbq S fun bs S => ?_
  refine QiF 0 1 27 31 S (by kernel_rfl) (op := .slice 132 (.tmp 5) (some (.const (.int .i64 1))) (some (.const (.int .i64 28))) none) (ty := 48) (by kernel_rfl) (Qje (y := .p 0 0) (l2 := (some (.v (.int .i64 1)))) (h2 := (some (.v (.int .i64 28)))) (m2 := none) (by kernel_rfl) rfl (by kernel_rfl) (by kernel_rfl) (by kernel_rfl) (fun W => ar_1 _ W)) fun aa S => ?_
  refine Qad 1 S fun bs aa w S => ?_
  refine Qbq S fun bs S => ?_
  have hbx : w.heap[bs.getD 0 0]? = some (.cells (z32c f).toArray 132 (0, 0)) := S.bx 0 ⟨132, z32c f⟩ (by kernel_rfl)
  refine sy_exK 0 ⟨132, z32c f⟩ ⟨132, c32 (Qa1 f p)⟩ (by kernel_rfl) S (op := .call { callee := .builtin .copy, args := #[.tmp 11, .tmp 12], argTypes := #[48, 48] }) (ty := 3) (v := .int .i64 (p.length : Int)) (by kernel_rfl) (ex_cp (X := .s 0 1 27 31) (Y := .v (.slice pa p.length pc)) hl (by kernel_rfl) rfl (by kernel_rfl) rfl (S.fact (f := Qex (.slice pa p.length pc) p) (by simp)) hbx) fun aa w S => ?_
  refine Qaj ⟨0, [4]⟩ 60 S fun bs aa w S => ?_
  refine Qcn S fun S => ?_
  refine Qbq S fun bs S => ?_
  refine QiF 0 0 28 32 S (by kernel_rfl) (op := .slice 132 (.tmp 5) none (some (.const (.int .i64 28))) none) (ty := 48) (by kernel_rfl) (Qje (y := .p 0 0) (l2 := none) (h2 := (some (.v (.int .i64 28)))) (m2 := none) (by kernel_rfl) rfl (by kernel_rfl) (by kernel_rfl) (by kernel_rfl) (fun W => ar_2 _ W)) fun aa S => ?_
  have hbx : w.heap[bs.getD 0 0]? = some (.cells (c32 (Qa1 f p)).toArray 132 (0, 0)) := S.bx 0 ⟨132, c32 (Qa1 f p)⟩ (by kernel_rfl)
  have hb28 := QbD (f := f) hl
  have hB : Qeu w (.slice (some ⟨bs.getD 0 0, 0, none⟩) 28 32) (Qa1 f p) := by
    have h := Qd3 (o := 0) (c := 32) (l := Qa1 f p) hbx (fun j hj => c32_at _ j (by omega)) (by omega) (by omega)
    rwa [hb28] at h
  refine QgT S (op := .convert 48 9 (.tmp 14)) (ty := 9) (v := .string (QaO (Qa1 f p))) (by kernel_rfl) (Qj4 (y := .s 0 0 28 32) (by kernel_rfl) rfl (Qcs hf hp) hB) fun aa S => ?_
  have hA : Qb0 (Qaf (QaO (Qa1 f p))) = Qb0 (Qa1 f p) := by rw [QbC _ (Qcs hf hp)]
  obtain ⟨A, eA⟩ : ∃ A, A = Qb0 (Qa1 f p) := ⟨_, rfl⟩
  refine QaJ S (by have h := wsum_t w (QaO (Qa1 f p)) (by rw [QfG, QbC _ (Qcs hf hp), hb28]; decide); rw [hA, ← eA] at h; exact h) (by kernel_rfl) fun aa w hb S => ?_
  refine Qaj ⟨0, [5]⟩ 60 S fun bs aa w S => ?_
  refine Qcn S fun S => ?_
  refine Qbq S fun bs S => ?_
  refine QiF 0 28 4 4 S (by kernel_rfl) (op := .slice 132 (.tmp 5) (some (.const (.int .i64 28))) none none) (ty := 48) (by kernel_rfl) (Qje (y := .p 0 0) (l2 := (some (.v (.int .i64 28)))) (h2 := none) (m2 := none) (by kernel_rfl) rfl (by kernel_rfl) (by kernel_rfl) (by kernel_rfl) (fun W => ar_3 _ W)) fun aa S => ?_
  refine QcC (op := .call { callee := .builtin .len, args := #[.tmp 17], argTypes := #[48] }) (ty := 3) (v := .int .i64 4) S (by kernel_rfl) (ex_len Try.underlying48 (y := .s 0 28 4 4) (by kernel_rfl) rfl) fun aa S => ?_
  refine Qah S fun bs aa w S => ?_
  have S2 := S.to [0] (scS0 f p A) (by kernel_rfl) (by kernel_rfl) (by kernel_rfl) (by kernel_rfl) (by kernel_rfl)
  have eS : scS0 f p A = scS f p A 0 := by
    unfold scS0 scS
    rw [show cI (Qa1 f p) A 0 = c32 (Qa1 f p) from (cI_0 f p hl).symm]
    rfl
  rw [eS] at S2
  refine QaR 5 (by kernel_rfl) ?_
  refine Qag (k' := (.rnd 5 (Qa_ scC) :: scC.k.tail)) (by kernel_rfl) ?_
  exact sc_r0 w0 f hf p hp hl A eA _ _ aa w S2
theorem sl_any (t : TypeId) (e : TypeId) (ht : Try.prog.underlying t = some (.slice e)) (he : (Try.prog.info? e).map (·.size) = some 1) (a : Option Addr) (n c l h : Nat) (h1 : l ≤ h) (h2 : h ≤ c) (lo hi : Option Value) (hb : ∀ W, (Instr.sliceBounds true n c lo hi none).run Try.prog W = .ok (l, h, c) W) (W : World) : (Instr.sliceAt t (.slice a n c) lo hi none).run Try.prog W = .ok (.slice (if c = l then a else a.map (·.add l)) (h - l) (c - l)) W := by
  have hE : Try.prog.elem t = e := by unfold Program.elem; rw [ht]
  have hu : Try.prog.underlying t = some (.slice (Try.prog.elem t)) := by rw [hE]; exact ht
  rw [run_sliceAt_slice W _ _ _ _ _ hu, run_slice_any W _ _ _ _ hu, hb W, hE]
  cases hi : Try.prog.info? e with
  | none => rw [hi] at he; cases he
  | some ii =>
    rw [hi] at he
    simp only [Option.map_some, Option.some.injEq] at he
    simp [sizeOf, typeInfo, sliced, hi, he]
theorem sl_suf (a : Option Addr) (n c l : Nat) (h1 : l ≤ n) (h2 : n ≤ c) (W : World) : (Instr.sliceAt 48 (.slice a n c) (some (.int .i64 (l : Int))) none none).run Try.prog W = .ok (.slice (if c = l then a else a.map (·.add l)) (n - l) (c - l)) W :=
  sl_any 48 5 Try.underlying48 (by kernel_rfl) a n c l n h1 h2 _ _ (fun W => by simp [Instr.sliceBounds, run_sliceBound, h1, h2]) W
def pvN (L : Nat) (a : Option Addr) (c : Nat) : Nat → Option Addr × Nat
  | 0 => (a, c)
  | i + 1 => let q := pvN L a c i; let m := min 27 (L - 27 * i); (if q.2 = m then q.1 else q.1.map (·.add m), q.2 - m)
theorem QhW {w : World} {a : Option Addr} {c : Nat} {l : List Nat} (h : Qeu w (.slice a l.length c) l) : ∀ i, Qeu w (.slice (pvN l.length a c i).1 (l.length - 27 * i) (pvN l.length a c i).2) (l.drop (27 * i))
  | 0 => by simpa [pvN] using h
  | i + 1 => by
    have h1 := Qhg (QhW h i) (j := min 27 (l.length - 27 * i)) (by omega)
    rw [List.drop_drop] at h1
    have e : l.length - 27 * i - min 27 (l.length - 27 * i) = l.length - 27 * (i + 1) := by omega
    have e2 : l.drop (27 * i + min 27 (l.length - 27 * i)) = l.drop (27 * (i + 1)) := by
      rcases Nat.lt_or_ge l.length (27 * i + 27) with q | q
      · rw [List.drop_of_length_le (show l.length ≤ _ by omega), List.drop_of_length_le (show l.length ≤ _ by omega)]
      · congr 1; omega
    rw [e, e2] at h1
    exact h1
section
variable {w : World} {a : Option Addr} {c : Nat} {l : List Nat} (h : Qeu w (.slice a l.length c) l) (i : Nat)
include w a c l h i
theorem pvN_part : Qeu w (.slice (pvN l.length a c i).1 (Qbd l i).length (pvN l.length a c i).2) (Qbd l i) := by
  have h1 := QlM (QhW h i) (j := min 27 (l.length - 27 * i)) (by omega)
  have e : (l.drop (27 * i)).take (min 27 (l.length - 27 * i)) = Qbd l i := by
    unfold Qbd
    rcases Nat.lt_or_ge l.length (27 * i + 27) with q | q
    · rw [List.take_of_length_le (show _ ≤ 27 by rw [List.length_drop]; omega), List.take_of_length_le (by rw [List.length_drop]; omega)]
    · rw [Nat.min_eq_left (by omega)]
  rw [e] at h1
  rw [Qdt]
  exact h1
theorem pvN_cap : l.length - 27 * i ≤ (pvN l.length a c i).2 := by
  obtain ⟨a', c', he, ⟨_, h2, _⟩, _⟩ := QhW h i
  simp only [Value.slice.injEq] at he
  obtain ⟨_, _, rfl⟩ := he
  rw [List.length_drop] at h2
  exact h2
end
theorem cut_t (w0 : World) (l : List Nat) (a : Option Addr) (c : Nat) (i g : Nat) (hl : l.length ≤ 9000000) (hc : l.length - 27 * i ≤ (pvN l.length a c i).2) (hg : w0.heap[g]? = some (.cells #[.slice (pvN l.length a c (i)).1 (l.length - 27 * (i)) (pvN l.length a c (i)).2] 48 (0, 0))) : Calls Try.prog 79 #[.pointer (some ⟨g, 0, none⟩)] w0 fun y w' => y = .returned (.slice (pvN l.length a c i).1 (Qbd l i).length (pvN l.length a c i).2) ∧ w'.heap[g]? = some (.cells #[.slice (pvN l.length a c (i + 1)).1 (l.length - 27 * (i + 1)) (pvN l.length a c (i + 1)).2] 48 (0, 0)) ∧ Gr w0 w' [g] := by
  refine QgU [g] [g] [⟨48, [.slice (pvN l.length a c (i)).1 (l.length - 27 * (i)) (pvN l.length a c (i)).2]⟩] [.p 0 0] [] rfl (fun i k hk => by
    match i, hk with
    | 0, hk => obtain rfl := Option.some.inj hk; exact hg
    | i + 1, hk => cases hk) (fun i j hi hj _ => by simp at hi hj; omega) (fun i hi => by simp at hi; subst hi; simp) (fun x hx => by simp only [List.mem_singleton] at hx; subst hx; show 0 < 1; omega) (fun f hf => by cases hf) Try.func79 rfl rfl fun aa S => ?_
  refine Qap 1 60 2 S fun bs aa w S => ?_
  refine QcC (op := .call { callee := .builtin .min, args := #[.const (.int .i64 27), .tmp 5], argTypes := #[3, 3] }) (ty := 3) (v := .int .i64 ((min 27 (l.length - 27 * i) : Nat) : Int)) S (by kernel_rfl) (Qjg (p := 27) (q := ((l.length - 27 * i : Nat) : Int)) (by kernel_rfl) (by kernel_rfl) (by split <;> omega)) fun aa S => ?_
  refine Qap 2 60 2 S fun bs aa w S => ?_
  refine QcC (op := .slice 48 (.tmp 7) none (some (.tmp 8)) none) (ty := 48) (v := .slice (pvN l.length a c i).1 (min 27 (l.length - 27 * i)) (pvN l.length a c i).2) S (by kernel_rfl) (QlU (p := .slice (pvN l.length a c (i)).1 (l.length - 27 * (i)) (pvN l.length a c (i)).2) (l2 := none) (h2 := some (.v (.int .i64 ((min 27 (l.length - 27 * i) : Nat) : Int)))) (m2 := none) (by kernel_rfl) (by kernel_rfl) (by kernel_rfl) (by kernel_rfl) (fun W => sl_pre _ _ _ _ (by omega) W)) fun aa S => ?_
  refine Qap 3 60 2 S fun bs aa w S => ?_
  refine QcC (op := .slice 48 (.tmp 10) (some (.tmp 11)) none none) (ty := 48) (v := .slice (if (pvN l.length a c i).2 = min 27 (l.length - 27 * i) then (pvN l.length a c i).1 else (pvN l.length a c i).1.map (·.add (min 27 (l.length - 27 * i)))) (l.length - 27 * i - min 27 (l.length - 27 * i)) ((pvN l.length a c i).2 - min 27 (l.length - 27 * i))) S (by kernel_rfl) (QlU (p := .slice (pvN l.length a c (i)).1 (l.length - 27 * (i)) (pvN l.length a c (i)).2) (l2 := some (.v (.int .i64 ((min 27 (l.length - 27 * i) : Nat) : Int)))) (h2 := none) (m2 := none) (by kernel_rfl) (by kernel_rfl) (by kernel_rfl) (by kernel_rfl) (fun W => sl_suf _ _ _ _ (by omega) (by omega) W)) fun aa S => ?_
  refine Qah S fun bs aa w S => ?_
  have hb := S.bx 0 ⟨48, [.slice (if (pvN l.length a c i).2 = min 27 (l.length - 27 * i) then (pvN l.length a c i).1 else (pvN l.length a c i).1.map (·.add (min 27 (l.length - 27 * i)))) (l.length - 27 * i - min 27 (l.length - 27 * i)) ((pvN l.length a c i).2 - min 27 (l.length - 27 * i))]⟩ (by kernel_rfl)
  rw [show l.length - 27 * i - min 27 (l.length - 27 * i) = l.length - 27 * (i + 1) by omega] at hb
  rw [Qdt]
  exact Qan S (by kernel_rfl) (by kernel_rfl) fun hg => ⟨rfl, hb, hg⟩
theorem QiS {w : World} {B e g n : Nat} {xs : List Value} (h : w.heap[g]? = some (.cells xs.toArray e (0, 0))) (hn : xs.length = n) (hB : B ≤ g) (hm : n ≤ maxLen) : w.ownsRow B e 1 (.slice (some ⟨g, 0, none⟩) n n) n xs :=
  ⟨by omega, Or.inr ⟨g, n, _, rfl, hB, h, Nat.le_refl _, hm, by simp [hn], by simp [← hn]⟩⟩
theorem infI3 : (Try.prog.info? 3).map (fun i => (i.zero, i.size, i.bytes)) = some (some (.int .i64 0), 1, 8) := by kernel_rfl
theorem infS3 : (Try.prog.info? 9).map (fun i => (i.zero, i.size, i.bytes)) = some (some (.string ByteArray.empty), 1, 16) := by kernel_rfl
theorem Qc0 {t : TypeId} {z : Value} {n b : Nat} (h : (Try.prog.info? t).map (fun i => (i.zero, i.size, i.bytes)) = some (some z, n, b)) : ∃ ii, Try.prog.info? t = some ii ∧ ii.zero = some z ∧ ii.size = n ∧ ii.bytes = b := by
  cases hi : Try.prog.info? t with
  | none => rw [hi] at h; cases h
  | some i =>
    rw [hi] at h
    simp only [Option.map_some, Option.some.injEq, Prod.mk.injEq] at h
    exact ⟨i, rfl, h.1, h.2.1, h.2.2⟩
theorem Qg6 (ver : Int) (ws : Ws) (j : Nat) (hj : j < ws.length) : (Qbb ver (ws.take (j + 1))).map (Value.int .i64) = (Qbb ver (ws.take j)).map (Value.int .i64) ++ [.int .i64 (ws.getD j (0, 0)).1, .int .i64 (ws.getD j (0, 0)).2] := by
  have e : ws.getD j (0, 0) = ws[j] := by simp [List.getD, List.getElem?_eq_getElem hj]
  unfold Qbb
  rw [List.take_succ_eq_append_getElem hj, List.flatMap_append, List.map_cons, List.map_cons, List.map_append, List.cons_append, e]
  rfl
theorem QlS (L i : Nat) (hL : L ≤ 9000) (hi : i < (L + 26) / 27) : IntKind.i64.wrap (Int.tdiv (IntKind.i64.wrap (IntKind.i64.wrap (((L - 27 * (i + 1) : Nat) : Int) + 27) - 1)) 27) = (((L + 26) / 27 - 1 - i : Nat) : Int) := by
  have e1 : IntKind.i64.wrap (((L - 27 * (i + 1) : Nat) : Int) + 27) = ((L - 27 * (i + 1) + 27 : Nat) : Int) := by rw [IntKind.wrap_i64]; omega
  have e2 : IntKind.i64.wrap (((L - 27 * (i + 1) + 27 : Nat) : Int) - 1) = ((L - 27 * (i + 1) + 26 : Nat) : Int) := by rw [IntKind.wrap_i64]; omega
  rw [e1, e2]
  have e3 : Int.tdiv ((L - 27 * (i + 1) + 26 : Nat) : Int) 27 = (((L - 27 * (i + 1) + 26) / 27 : Nat) : Int) := (Int.ofNat_tdiv _ _).symm
  rw [e3, IntKind.wrap_i64]
  omega
noncomputable def r1C : Cfg := ⟨goZ 60 [0] [.code (QaW Try.f68)], ⟨0, [], []⟩⟩
noncomputable def r2C : Cfg := ⟨goZ 60 [0, 9] [.code (QaW Try.f68)], ⟨0, [], []⟩⟩
noncomputable def r1S (e : Et) (v : Value) (j : Nat) : SS := ⟨52, [(1, .p 0 0), (3, .v v), (18, .v (.slice e.a e.ws.length e.c)), (19, .v (.int .i64 (e.ws.length : Int))), (20, .v (.int .i64 (j : Int)))], [⟨60, e.cs⟩]⟩
noncomputable def r2S (l : List Nat) (a : Option Addr) (c : Nat) (v : Value) (i : Nat) : SS := ⟨52, [(6, .p 0 0), (7, .f 79 [(0, 0)]), (8, .v v)], [⟨48, [.slice (pvN l.length a c i).1 (l.length - 27 * i) (pvN l.length a c i).2]⟩]⟩
abbrev reS (l : List Nat) (i : Nat) : List Value := ((QhV l).take i).map Value.string
theorem QiO (l : List Nat) (i : Nat) (hi : i < Qau l) : reS l (i + 1) = reS l i ++ [.string (QeI (Qau l - 1 - i) (Qbd l i))] := by
  unfold reS
  rw [List.take_succ_eq_append_getElem (by rw [QbA]; exact hi)]
  simp [QhV]
section
variable (w0 : World) (e : Et) (hg : e.ok) (hf : QcD e.ver e.ws) (hv : QaG e.ver e.ws = true)
include w0 e hg hf hv
section
variable (l : List Nat) (hL : l = QbB e.ver e.ws) (a : Option Addr) (c : Nat)
include l hL a c
theorem r2_e (m : Nat) (v : Value) (x0 : Nat) (aa : Act) (w : World) (S : Sy w0 [] [x0] (r2S l a c v (Qau l)) [Qex (.slice a l.length c) l, Qaa w0.heap.size 9 1 v (Qau l) (reS l (Qau l))] aa w) : post Try.prog (.rnd (m + 1) (Qa_ r2C) :: r2C.k.tail) (bodyPost Try.prog Try.f68 fun y w' => ∃ v, y = .returned v ∧ w'.ownsRow w0.heap.size 9 1 v (QaC e.ver e.ws).length ((QaC e.ver e.ws).map Value.string) ∧ Below w0.heap.size w0 w') .normal aa w := by
  have hge := Qei l
  refine Qap (c := ⟨(.rnd (m + 1) (Qa_ r2C) :: r2C.k.tail), r2S l a c v (Qau l)⟩) 12 50 3 S fun bs aa w S => ?_
  refine Qab 37 S (decide_eq_false (by omega) : decide (((l.length - 27 * Qau l : Nat) : Int) > 0) = false) fun S => ?_
  refine Qah S fun bs aa w S => ?_
  have ho := S.fact (f := Qaa w0.heap.size 9 1 v (Qau l) (reS l (Qau l))) (by simp)
  have e1 : QaC e.ver e.ws = QhV l := by rw [QaU hv, hL]
  have e2 : reS l (Qau l) = (QhV l).map Value.string := by unfold reS; rw [List.take_of_length_le (by rw [QbA]; exact Nat.le_refl _)]
  rw [e2] at ho
  exact Qan S (by kernel_rfl) (by kernel_rfl) fun hg => ⟨v, rfl, by rw [e1, QbA]; exact ho, Qaq hg⟩
theorem r2_s (m i : Nat) (hi : i < Qau l) (ih : ∀ (v : Value) (hne : ∀ g, Value.ownBlock v = some g → ¬(Qex (.slice a l.length c) l).bl g) (x0 : Nat) (aa : Act) (w : World) (S : Sy w0 [] [x0] (r2S l a c v (i + 1)) [Qex (.slice a l.length c) l, Qaa w0.heap.size 9 1 v (i + 1) (reS l (i + 1))] aa w), post Try.prog (.rnd (m) (Qa_ r2C) :: r2C.k.tail) (bodyPost Try.prog Try.f68 fun y w' => ∃ v, y = .returned v ∧ w'.ownsRow w0.heap.size 9 1 v (QaC e.ver e.ws).length ((QaC e.ver e.ws).map Value.string) ∧ Below w0.heap.size w0 w') .normal aa w) (v : Value) (hne : ∀ g, Value.ownBlock v = some g → ¬(Qex (.slice a l.length c) l).bl g) (x0 : Nat) (aa : Act) (w : World) (S : Sy w0 [] [x0] (r2S l a c v (i)) [Qex (.slice a l.length c) l, Qaa w0.heap.size 9 1 v (i) (reS l (i))] aa w) : post Try.prog (.rnd (m + 1) (Qa_ r2C) :: r2C.k.tail) (bodyPost Try.prog Try.f68 fun y w' => ∃ v, y = .returned v ∧ w'.ownsRow w0.heap.size 9 1 v (QaC e.ver e.ws).length ((QaC e.ver e.ws).map Value.string) ∧ Below w0.heap.size w0 w') .normal aa w := by
  have hge := Qei l
  have hmn : 27 * Qau l < l.length + 27 := by unfold Qau; omega
  have hm25 : Qau l ≤ 25 := by rw [hL]; exact (Qbh hf hv).2
  have hlb : ∀ b ∈ l, b < 256 := by rw [hL]; exact QbO _ _
  have hl6 : l.length ≤ 660 := by rw [hL]; exact Qlg hf hv
  obtain ⟨ii, hi1, hi2, hi3, hi4⟩ := Qc0 infS3
  refine Qap (c := ⟨(.rnd (m + 1) (Qa_ r2C) :: r2C.k.tail), r2S l a c v i⟩) 12 50 3 S fun bs aa w S => ?_
  refine Qab 37 S (decide_eq_true (by omega) : decide (((l.length - 27 * i : Nat) : Int) > 0) = true) fun S => ?_
  refine Qap 13 60 1 S fun bs aa w S => ?_
  refine Qbq S fun bs S => ?_
  have hHB := S.fact (f := Qex (.slice a l.length c) l) (by simp)
  have hbx := S.bx 0 ⟨48, [.slice (pvN l.length a c (i)).1 (l.length - 27 * (i)) (pvN l.length a c (i)).2]⟩ (by kernel_rfl)
  refine sy_callH S 0 ⟨48, [.slice (pvN l.length a c (i)).1 (l.length - 27 * (i)) (pvN l.length a c (i)).2]⟩ ⟨48, [.slice (pvN l.length a c (i + 1)).1 (l.length - 27 * (i + 1)) (pvN l.length a c (i + 1)).2]⟩ [] (by kernel_rfl) (by simp) (C := fun _ => True) (f := 79) (args := #[.pointer (some ⟨bs.getD 0 0, 0, none⟩)]) ((cut_t w l a c i (bs.getD 0 0) (by omega) (pvN_cap hHB i) hbx).mono fun y w' h => ⟨h.1, trivial, h.2.1, h.2.2⟩) (by kernel_rfl) [Qex (.slice a l.length c) l, Qaa w0.heap.size 9 1 v (i) (reS l (i))] (fun f hf => ⟨hf, by simp⟩) (by simp) fun aa w _ S => ?_
  refine Qap 14 60 5 S fun bs aa w S => ?_
  refine QaB 44 S (QlS l.length i (by omega) (by unfold Qau at hi; omega) : IntKind.i64.wrap (Int.tdiv (IntKind.i64.wrap (IntKind.i64.wrap (((l.length - 27 * (i + 1) : Nat) : Int) + 27) - 1)) 27) = ((Qau l - 1 - i : Nat) : Int)) fun S => ?_
  refine Qap 15 60 3 S fun bs aa w S => ?_
  have hHB := S.fact (f := Qex (.slice a l.length c) l) (by simp)
  refine QaJ S (sector_t w (Qau l - 1 - i) (by omega) (Qbd l i) (Qbu hlb i) (Qdc l i) _ (pvN_part hHB i)) (by kernel_rfl) fun aa w hb S => ?_
  refine Qad 1 S fun bs aa w S => ?_
  refine Qbq S fun bs S => ?_
  have how := S.fact (f := Qaa w0.heap.size 9 1 v i (reS l i)) (by simp)
  have hap := (S.fs (Qaa w0.heap.size 9 1 v i (reS l i)) (by simp)).2
  have hhb := (S.fs (Qex (.slice a l.length c) l) (by simp)).2
  have hblk : ∀ j, j < bs.length → bs.getD j 0 < w.heap.size := fun j hj => S.lt hj
  have hHB2 := S.fact (f := Qex (.slice a l.length c) l) (by simp)
  refine Qd_ w0.heap.size (u := .v v) (y := .s 1 0 1 1) (v := v) (ad := adr bs 1 0) (m := 1) (cp := 1) (n := i) (size := 1) (bytes := 16) (e := 9) (t := 27) (xs := reS l i) (news := [.string (QeI (Qau l - 1 - i) (Qbd l i))]) [Qex (.slice a l.length c) l] S (by kernel_rfl) Try.underlying27 hi1 hi2 hi3 hi4 rfl (by omega) rfl rfl how S.gr.size (Qlk (P := Try.prog) (ty := 9) (cs := [.string (QeI (Qau l - 1 - i) (Qbd l i))]) S 1 (by kernel_rfl)) rfl (by intro u hu; simp only [List.mem_singleton] at hu; subst hu; rfl) (by simp only [maxLen]; omega) (by omega)
    (fun g hg => Or.inr (how.lt g hg).1)
    (fun f hf => by
      simp only [List.mem_singleton] at hf
      subst hf
      refine ⟨by simp, fun g hg hb => ?_⟩
      exact hne g hg hb)
    (fun j hj hb => hap j hj hb)
    fun v' aa w2 hO hg hnn S => ?_
  have hne' : ∀ g, v'.ownBlock = some g → ¬(Qex (.slice a l.length c) l).bl g := fun g hg hb => (hnn g hg).elim (fun q => hne g q hb) (fun q => by have h1 := (Qex (.slice a l.length c) l).lt _ hHB2 g hb; omega)
  have S := S.add (Qaa w0.heap.size 9 1 v' (i + 1) (reS l (i + 1))) (by rw [QiO l i hi]; exact hO) (fun j hj hb => (hnn _ hb).elim (fun q => hap j hj q) (fun q => by have := hblk j hj; omega))
  refine Qaj ⟨0, [999]⟩ 60 S fun bs aa w S => ?_
  have S := S.sub (F' := [Qex (.slice a l.length c) l, Qaa w0.heap.size 9 1 v' (i + 1) (reS l (i + 1))]) (by intro f hf; simp only [List.mem_cons, List.not_mem_nil, or_false] at hf; rcases hf with rfl | rfl <;> simp)
  have S2 := S.to [0] (r2S l a c v' (i + 1)) (by kernel_rfl) (by kernel_rfl) (by kernel_rfl) (by kernel_rfl) (by kernel_rfl)
  refine Qag (k' := (.rnd (m) (Qa_ r2C) :: r2C.k.tail)) (by kernel_rfl) ?_
  exact ih v' hne' _ aa w S2
theorem r2_a : ∀ (r i : Nat), i + r = Qau l → ∀ (v : Value) (hne : ∀ g, Value.ownBlock v = some g → ¬(Qex (.slice a l.length c) l).bl g) (x0 : Nat) (aa : Act) (w : World) (S : Sy w0 [] [x0] (r2S l a c v (i)) [Qex (.slice a l.length c) l, Qaa w0.heap.size 9 1 v (i) (reS l (i))] aa w), post Try.prog (.rnd (r + 1) (Qa_ r2C) :: r2C.k.tail) (bodyPost Try.prog Try.f68 fun y w' => ∃ v, y = .returned v ∧ w'.ownsRow w0.heap.size 9 1 v (QaC e.ver e.ws).length ((QaC e.ver e.ws).map Value.string) ∧ Below w0.heap.size w0 w') .normal aa w := by
  intro r
  induction r with
  | zero => intro i hi v hne x0 aa w S; obtain rfl : i = Qau l := by omega
            exact r2_e w0 e hg hf hv l hL a c 0 v x0 aa w S
  | succ r ih => intro i hi v hne x0 aa w S; exact r2_s w0 e hg hf hv l hL a c (r + 1) i (by omega) (fun v hn => ih (i + 1) (by omega) v hn) v hne x0 aa w S
end
theorem r1_e (m : Nat) (v : Value) (x0 : Nat) (aa : Act) (w : World) (S : Sy w0 [] [x0] (r1S e v (e.ws.length)) [QaN e.b e.o e.ws, Qaa w0.heap.size 3 1 v (1 + 2 * (e.ws.length)) ((Qbb e.ver (e.ws.take (e.ws.length))).map (Value.int .i64))] aa w) : post Try.prog (.rnd (m + 1) (Qa_ r1C) :: r1C.k.tail) (bodyPost Try.prog Try.f68 fun y w' => ∃ v, y = .returned v ∧ w'.ownsRow w0.heap.size 9 1 v (QaC e.ver e.ws).length ((QaC e.ver e.ws).map Value.string) ∧ Below w0.heap.size w0 w') .normal aa w := by
  have h32 := Qcl hv
  refine Qap (c := ⟨(.rnd (m + 1) (Qa_ r1C) :: r1C.k.tail), r1S e v e.ws.length⟩) 5 50 1 S fun bs aa w S => ?_
  refine Qab 21 S (decide_eq_false (by omega) : decide ((e.ws.length : Int) < (e.ws.length : Int)) = false) fun S => ?_
  refine Qap 9 60 1 S fun bs aa w S => ?_
  refine Qbq S fun bs S => ?_
  have ho := S.fact (f := Qaa w0.heap.size 3 1 v (1 + 2 * (e.ws.length)) ((Qbb e.ver (e.ws.take (e.ws.length))).map (Value.int .i64))) (by simp)
  rw [List.take_length] at ho
  have eL : 1 + 2 * e.ws.length = (Qbb e.ver e.ws).length := (Qb6 _ _).symm
  rw [eL] at ho
  have hI := QbS ho
  have hblk : ∀ j, j < bs.length → bs.getD j 0 < w.heap.size := fun j hj => S.lt hj
  refine Qbg (X := Value) (val := id) (C := fun x w' => QeF w' w.heap.size x (QbB e.ver e.ws)) S (nums_any v (Qbb e.ver e.ws) (QcK hf) (by rw [Qb6]; omega) w hI) (by kernel_rfl) fun x aa w1 hC hb S => ?_
  obtain ⟨a, c, rfl, _⟩ := id (Qb9 hC)
  have hl1 := hC.lt
  have S := S.add (Qex (.slice a (QbB e.ver e.ws).length c) (QbB e.ver e.ws)) (Qb9 hC) (fun j hj hb => by
    obtain ⟨_, o2, n2, c2, he⟩ := hb
    simp only [id, Value.slice.injEq] at he
    obtain ⟨rfl, _, _⟩ := he
    have h1 : w.heap.size ≤ bs.getD j 0 := (hl1 _ rfl).1
    have h2 := hblk j hj
    omega)
  have S := S.add (Qaa w0.heap.size 9 1 (.slice none 0 0) 0 (reS (QbB e.ver e.ws) 0)) (World.ownsRow_nil _ _ _ _) (fun i hi h => by cases h)
  refine Qah S fun bs aa w S => ?_
  have S := S.sub (F' := [Qex (.slice a (QbB e.ver e.ws).length c) (QbB e.ver e.ws), Qaa w0.heap.size 9 1 (.slice none 0 0) 0 (reS (QbB e.ver e.ws) 0)]) (by intro f hf; simp only [List.mem_cons, List.not_mem_nil, or_false] at hf; rcases hf with rfl | rfl <;> simp)
  have S2 := S.to [1] (r2S (QbB e.ver e.ws) a c (.slice none 0 0) 0) (by kernel_rfl) (by kernel_rfl) (by kernel_rfl) (by kernel_rfl) (by kernel_rfl)
  refine QaR (Qau (QbB e.ver e.ws) + 1) (by kernel_rfl) ?_
  refine Qag (k' := (.rnd (Qau (QbB e.ver e.ws) + 1) (Qa_ r2C) :: r2C.k.tail)) (by kernel_rfl) ?_
  exact r2_a w0 e hg hf hv (QbB e.ver e.ws) rfl a c (Qau (QbB e.ver e.ws)) 0 (by omega) (.slice none 0 0) (fun g hg => by cases hg) _ aa w S2
theorem r1_s (m j : Nat) (hj : j < e.ws.length) (hwb : e.b < w0.heap.size) (ih : ∀ (v : Value) (x0 : Nat) (aa : Act) (w : World) (S : Sy w0 [] [x0] (r1S e v (j + 1)) [QaN e.b e.o e.ws, Qaa w0.heap.size 3 1 v (1 + 2 * (j + 1)) ((Qbb e.ver (e.ws.take (j + 1))).map (Value.int .i64))] aa w), post Try.prog (.rnd (m) (Qa_ r1C) :: r1C.k.tail) (bodyPost Try.prog Try.f68 fun y w' => ∃ v, y = .returned v ∧ w'.ownsRow w0.heap.size 9 1 v (QaC e.ver e.ws).length ((QaC e.ver e.ws).map Value.string) ∧ Below w0.heap.size w0 w') .normal aa w) (v : Value) (x0 : Nat) (aa : Act) (w : World) (S : Sy w0 [] [x0] (r1S e v (j)) [QaN e.b e.o e.ws, Qaa w0.heap.size 3 1 v (1 + 2 * (j)) ((Qbb e.ver (e.ws.take (j))).map (Value.int .i64))] aa w) : post Try.prog (.rnd (m + 1) (Qa_ r1C) :: r1C.k.tail) (bodyPost Try.prog Try.f68 fun y w' => ∃ v, y = .returned v ∧ w'.ownsRow w0.heap.size 9 1 v (QaC e.ver e.ws).length ((QaC e.ver e.ws).map Value.string) ∧ Below w0.heap.size w0 w') .normal aa w := by
  have h32 := Qcl hv
  obtain ⟨ii, hi1, hi2, hi3, hi4⟩ := Qc0 infI3
  refine Qap (c := ⟨(.rnd (m + 1) (Qa_ r1C) :: r1C.k.tail), r1S e v j⟩) 5 50 1 S fun bs aa w S => ?_
  refine Qab 21 S (decide_eq_true (by omega) : decide ((j : Int) < (e.ws.length : Int)) = true) fun S => ?_
  refine Qaj ⟨0, [6]⟩ 60 S fun bs aa w S => ?_
  refine Qcn S fun S => ?_
  refine QbI (b := e.b) (off := e.o) (len := e.ws.length) (n := j) (size := 2) (i := (j : Int)) S (by rw [← hg.resolve_left (by omega)]; kernel_rfl) rfl hj fun aa S => ?_
  refine Qbf S (Qh3 (j := j) (S.fact (f := QaN e.b e.o e.ws) (by simp)) hj) (by kernel_rfl) fun aa S => ?_
  refine Qap 7 60 6 S fun bs aa w S => ?_
  refine Qbq S fun bs S => ?_
  have how := S.fact (f := Qaa w0.heap.size 3 1 v (1 + 2 * (j)) ((Qbb e.ver (e.ws.take (j))).map (Value.int .i64))) (by simp)
  have hap := (S.fs (Qaa w0.heap.size 3 1 v (1 + 2 * (j)) ((Qbb e.ver (e.ws.take (j))).map (Value.int .i64))) (by simp)).2
  have hblk : ∀ j, j < bs.length → bs.getD j 0 < w.heap.size := fun j hj => S.lt hj
  refine Qd_ w0.heap.size (u := .v v) (y := .s 2 0 2 2) (v := v) (ad := adr bs 2 0) (m := 2) (cp := 2) (n := 1 + 2 * j) (size := 1) (bytes := 8) (e := 3) (t := 26) (xs := (Qbb e.ver (e.ws.take (j))).map (Value.int .i64)) (news := [.int .i64 (e.ws.getD j (0, 0)).1, .int .i64 (e.ws.getD j (0, 0)).2]) [QaN e.b e.o e.ws] S (by kernel_rfl) Try.underlying26 hi1 hi2 hi3 hi4 rfl (by omega) rfl rfl how S.gr.size (Qlk (P := Try.prog) (ty := 3) (cs := [.int .i64 (e.ws.getD j (0, 0)).1, .int .i64 (e.ws.getD j (0, 0)).2]) S 2 (by kernel_rfl)) rfl (by intro u hu; simp only [List.mem_cons, List.not_mem_nil, or_false] at hu; rcases hu with rfl | rfl <;> rfl) (by simp only [maxLen]; omega) (by omega)
    (fun g hg => Or.inr (how.lt g hg).1)
    (fun f hf => by
      simp only [List.mem_singleton] at hf
      subst hf
      refine ⟨by simp, fun g hg hb => ?_⟩
      obtain ⟨rfl, _⟩ := hb
      have := (how.lt _ hg).1
      omega)
    (fun j hj hb => hap j hj hb)
    fun v' aa w2 hO hg' hnn S => ?_
  have S := S.add (Qaa w0.heap.size 3 1 v' (1 + 2 * (j + 1)) ((Qbb e.ver (e.ws.take (j + 1))).map (Value.int .i64))) (by rw [Qg6 e.ver e.ws j hj]; exact hO) (fun j hj hb => (hnn _ hb).elim (fun q => hap j hj q) (fun q => by have := hblk j hj; omega))
  refine Qap 8 60 1 S fun bs aa w S => ?_
  refine QaB 31 S (by rw [IntKind.wrap_i64]; omega : IntKind.i64.wrap ((j : Int) + 1) = ((j + 1 : Nat) : Int)) fun S => ?_
  refine Qaj ⟨0, [999]⟩ 50 S fun bs aa w S => ?_
  have S := S.sub (F' := [QaN e.b e.o e.ws, Qaa w0.heap.size 3 1 v' (1 + 2 * (j + 1)) ((Qbb e.ver (e.ws.take (j + 1))).map (Value.int .i64))]) (by intro f hf; simp only [List.mem_cons, List.not_mem_nil, or_false] at hf; rcases hf with rfl | rfl <;> simp)
  have S2 := S.to [0] (r1S e v' (j + 1)) (by kernel_rfl) (by kernel_rfl) (by kernel_rfl) (by kernel_rfl) (by kernel_rfl)
  refine Qag (k' := (.rnd (m) (Qa_ r1C) :: r1C.k.tail)) (by kernel_rfl) ?_
  exact ih v' _ aa w S2
theorem r1_a (hwb : e.ws.length = 0 ∨ e.b < w0.heap.size) : ∀ (r j : Nat), j + r = e.ws.length → ∀ (v : Value) (x0 : Nat) (aa : Act) (w : World) (S : Sy w0 [] [x0] (r1S e v (j)) [QaN e.b e.o e.ws, Qaa w0.heap.size 3 1 v (1 + 2 * (j)) ((Qbb e.ver (e.ws.take (j))).map (Value.int .i64))] aa w), post Try.prog (.rnd (r + 1) (Qa_ r1C) :: r1C.k.tail) (bodyPost Try.prog Try.f68 fun y w' => ∃ v, y = .returned v ∧ w'.ownsRow w0.heap.size 9 1 v (QaC e.ver e.ws).length ((QaC e.ver e.ws).map Value.string) ∧ Below w0.heap.size w0 w') .normal aa w := by
  intro r
  induction r with
  | zero => intro j hj v x0 aa w S; obtain rfl : j = e.ws.length := by omega
            exact r1_e w0 e hg hf hv 0 v x0 aa w S
  | succ r ih => intro j hj v x0 aa w S; exact r1_s w0 e hg hf hv (r + 1) j (by omega) (hwb.resolve_left (by omega)) (fun v => ih (j + 1) (by omega) v) v x0 aa w S
end
theorem record_e (w0 : World) (e : Et) (hg : e.ok) (hf : QcD e.ver e.ws) (hA : Qc8 w0 e.b e.o e.ws) : Calls Try.prog 68 #[e.v] w0 fun y w' => ∃ v, y = .returned v ∧ w'.ownsRow w0.heap.size 9 1 v (QaC e.ver e.ws).length ((QaC e.ver e.ws).map Value.string) ∧ Below w0.heap.size w0 w' := by
  have hwb : e.ws.length = 0 ∨ e.b < w0.heap.size := by
    by_cases h : e.ws.length = 0
    · exact Or.inl h
    · exact Or.inr ((QaN e.b e.o e.ws).lt w0 hA e.b ⟨rfl, h⟩)
  refine Qas [] [QaN e.b e.o e.ws] (by intro f hf; simp only [List.mem_singleton] at hf; subst hf; exact hA) Try.func68 rfl rfl fun aa S => ?_
  refine Qap 1 60 1 S fun bs aa w S => ?_
  refine QaJ S (right_e w e hg (S.fact (f := QaN e.b e.o e.ws) (by simp))) (by kernel_rfl) fun aa w hb S => ?_
  cases hv : QaG e.ver e.ws with
  | false =>
    refine Qab 12 S hv fun S => ?_
    refine Qah S fun bs aa w S => ?_
    exact Qan S (by kernel_rfl) (by kernel_rfl) fun hg => ⟨_, rfl, by rw [Qds hv]; exact World.ownsRow_nil _ _ _ _, Qaq hg⟩
  | true =>
    refine Qab 12 S hv fun S => ?_
    refine Qah S fun bs aa w S => ?_
    refine Qbq S fun bs S => ?_
    have hbx := S.bx 1 ⟨3, [.int .i64 e.ver]⟩ (by kernel_rfl)
    have hgs : w0.heap.size ≤ bs.getD 1 0 := S.lo0 1 (by rw [S.bl]; exact Nat.le_of_ble_eq_true (by kernel_rfl))
    have hl0 : 0 < bs.length := by rw [S.bl]; exact Nat.le_of_ble_eq_true (by kernel_rfl)
    have hl1 : 1 < bs.length := by rw [S.bl]; exact Nat.le_of_ble_eq_true (by kernel_rfl)
    have hnd := S.nd 0 1 hl0 hl1
    have S := S.plain 3 (x := .s 1 0 1 1) (by kernel_rfl)
    have S2 := S.to [0] (r1S e (.slice (some ⟨bs.getD 1 0, 0, none⟩) 1 1) 0) (by kernel_rfl) (by kernel_rfl) (by kernel_rfl) (by kernel_rfl) (by kernel_rfl)
    have S2 := S2.add (Qaa w0.heap.size 3 1 (.slice (some ⟨bs.getD 1 0, 0, none⟩) 1 1) (1 + 2 * (0)) ((Qbb e.ver (e.ws.take (0))).map (Value.int .i64))) (QiS hbx rfl hgs (by decide)) (fun j hj hb => by
      simp only [List.map_cons, List.map_nil, List.length_cons, List.length_nil] at hj
      obtain rfl : j = 0 := by omega
      have hb2 : some (bs.getD 1 0) = some (bs.getD 0 0) := hb
      simp only [Option.some.injEq] at hb2
      exact absurd (hnd hb2.symm) (by decide))
    have S2 := S2.sub (F' := [QaN e.b e.o e.ws, Qaa w0.heap.size 3 1 (.slice (some ⟨bs.getD 1 0, 0, none⟩) 1 1) (1 + 2 * (0)) ((Qbb e.ver (e.ws.take (0))).map (Value.int .i64))]) (by intro f hf; simp only [List.mem_cons, List.not_mem_nil, or_false] at hf; rcases hf with rfl | rfl <;> simp)
    refine QaR (e.ws.length + 1) (by kernel_rfl) ?_
    refine Qag (k' := (.rnd (e.ws.length + 1) (Qa_ r1C) :: r1C.k.tail)) (by kernel_rfl) ?_
    exact r1_a w0 e hg hf hv hwb e.ws.length 0 (by omega) _ _ aa w S2
def QeC (b o : Nat) (l : List Int) : RF := ⟨fun b' => b' = b ∧ l.length ≠ 0, fun w => ∀ j, j < l.length → w.cell? ⟨b, o + j, none⟩ = some (.int .i64 (l.getD j 0)), fun w h b' hb => by
  obtain ⟨rfl, hl⟩ := hb
  exact World.block_lt_of_cell? w _ (h 0 (by omega)), fun w w' h hb j hj => (World.cell?_of_block (a := ⟨b, o + j, none⟩) (hb b ⟨rfl, by omega⟩)).trans (h j hj)⟩
def wsV (W : Ws) : List Value := W.flatMap fun p => [.int .i64 p.1, .int .i64 p.2]
theorem Qiy (W : Ws) (j : Nat) (hj : j < W.length) : wsV (W.take (j + 1)) = wsV (W.take j) ++ [.int .i64 (W.getD j (0, 0)).1, .int .i64 (W.getD j (0, 0)).2] := by
  have e : W.getD j (0, 0) = W[j] := by simp [List.getD, List.getElem?_eq_getElem hj]
  unfold wsV
  rw [List.take_succ_eq_append_getElem hj, List.flatMap_append, e]
  rfl
theorem wsV_at : ∀ (W : Ws) (j : Nat), j < W.length → (wsV W)[j * 2]? = some (.int .i64 (W.getD j (0, 0)).1) ∧ (wsV W)[j * 2 + 1]? = some (.int .i64 (W.getD j (0, 0)).2)
  | [], j, h => by simp at h
  | p :: r, 0, _ => ⟨rfl, rfl⟩
  | p :: r, j + 1, h => by
    have hr := wsV_at r j (by simpa using h)
    have e : wsV (p :: r) = .int .i64 p.1 :: .int .i64 p.2 :: wsV r := rfl
    rw [e, show (j + 1) * 2 = j * 2 + 1 + 1 by omega]
    exact hr
theorem Qdq {w : World} {B : Nat} {v : Value} {W : Ws} (h : w.ownsRow B 42 2 v W.length (wsV W)) : ∃ a c b o, v = .slice a W.length c ∧ (W.length = 0 ∨ a = some ⟨b, o, none⟩) ∧ Qc8 w b o W ∧ (W.length = 0 ∨ B ≤ b) := by
  rcases h.2 with ⟨rfl, hz⟩ | ⟨g, cap, cur, rfl, hb, hg, h1, h2, h3, h4⟩
  · exact ⟨none, 0, 0, 0, by rw [hz], Or.inl hz, fun j hj => by omega, Or.inl hz⟩
  · have hc := h.cells (g := g) rfl
    refine ⟨_, cap, g, 0, rfl, Or.inr rfl, fun j hj => ?_, Or.inr hb⟩
    obtain ⟨q1, q2⟩ := wsV_at W j hj
    have c1 := hc _ _ q1
    have c2 := hc _ _ q2
    have ea : ∀ k, (⟨g, 0, none⟩ : Addr).add k = ⟨g, 0 + k, none⟩ := fun k => by unfold Addr.add; split <;> simp_all
    rw [ea] at c1 c2
    exact ⟨c1, c2⟩
def decP (w0 : World) (R : Option (Int × Ws)) (y : Ending) (w' : World) : Prop := Below w0.heap.size w0 w' ∧ match R with
  | none => y = .returned (.tuple #[.agg #[.int .i64 0, .slice none 0 0], .bool false])
  | some (v, ws) => ∃ e : Et, e.ver = v ∧ e.ws = ws ∧ e.ok ∧ y = .returned (.tuple #[e.v, .bool true]) ∧ Qc8 w' e.b e.o e.ws ∧ (e.ws.length = 0 ∨ w0.heap.size ≤ e.b)
noncomputable def dw2 : Cfg := ⟨goZ 200 [0, 0, 9, 0] [.code (QaW Try.f67)], ⟨0, [], []⟩⟩
noncomputable def dwS (na : Option Addr) (N nc : Nat) (ver : Int) (wv : Value) (j : Nat) : SS := ⟨106, [(4, .p 0 0), (10, .v (.slice na N nc)), (13, .p 1 0), (14, .v (.int .i64 ((1 + 2 * j : Nat) : Int)))], [⟨60, [.int .i64 0, .slice none 0 0]⟩, ⟨60, [.int .i64 ver, wv]⟩]⟩
theorem wrI : (Try.prog.info? 42).map (fun i => (i.zero, i.size, i.bytes)) = some (some (.agg #[.int .i64 0, .int .i64 0]), 2, 16) := by kernel_rfl
theorem Qfc : ∀ (r : List Int), (Qak r).length * 2 + r.length % 2 = r.length ∧ ∀ j, j < (Qak r).length → (0 :: r).getD (1 + 2 * j) 0 = ((Qak r).getD j (0, 0)).1 ∧ (0 :: r).getD (1 + 2 * j + 1) 0 = ((Qak r).getD j (0, 0)).2
  | [] => ⟨rfl, fun j hj => by simp [Qak] at hj⟩
  | [a] => ⟨rfl, fun j hj => by simp [Qak] at hj⟩
  | a :: b :: r => by
    obtain ⟨h1, h2⟩ := Qfc r
    refine ⟨by simp [Qak]; omega, fun j hj => ?_⟩
    cases j with
    | zero => exact ⟨rfl, rfl⟩
    | succ j =>
      have := h2 j (by simpa [Qak] using hj)
      rw [show 1 + 2 * (j + 1) = (1 + 2 * j) + 1 + 1 by omega]
      rw [show (1 + 2 * j) = 2 * j + 1 by omega] at this ⊢
      exact this
theorem Qmh (x y : Int) (r : List Int) (k : Nat) : (x :: r).getD (1 + k) 0 = (y :: r).getD (1 + k) 0 := by rw [Nat.add_comm]; rfl
section
variable (w0 : World) (na : Option Addr) (nc nb no : Nat) (ver : Int) (r : List Int) (hna : na = some ⟨nb, no, none⟩) (hnl : r.length ≤ 20000) (hR : r.length % 2 = 0)
include w0 na nc nb no ver r hna hnl hR
theorem dw_e (m : Nat) (wv : Value) (x0 x1 : Nat) (aa : Act) (w : World) (S : Sy w0 [] [x0, x1] (dwS na (r.length + 1) nc ver wv ((Qak r).length)) [QeC nb no (ver :: r), Qaa w0.heap.size 42 2 wv ((Qak r).length) (wsV ((Qak r).take ((Qak r).length)))] aa w) : post Try.prog (.rnd (m + 1) (Qa_ dw2) :: dw2.k.tail) (bodyPost Try.prog Try.f67 (decP w0 (some (ver, Qak r)))) .normal aa w := by
  have hpl := (Qfc r)
  refine Qap (c := ⟨(.rnd (m + 1) (Qa_ dw2) :: dw2.k.tail), dwS na (r.length + 1) nc ver wv ((Qak r).length)⟩) 19 50 4 S fun bs aa w S => ?_
  refine Qab 87 S (decide_eq_false (by have := hR; omega) : decide (((1 + 2 * (Qak r).length : Nat) : Int) < ((r.length + 1 : Nat) : Int)) = false) fun S => ?_
  have how := S.fact (f := Qaa w0.heap.size 42 2 wv (Qak r).length (wsV ((Qak r).take (Qak r).length))) (by simp)
  obtain ⟨a, c, rfl⟩ := QcI how
  refine Qah S fun bs aa w S => ?_
  have how := S.fact (f := Qaa w0.heap.size 42 2 (.slice a (Qak r).length c) (Qak r).length (wsV ((Qak r).take (Qak r).length))) (by simp)
  rw [List.take_length] at how
  obtain ⟨a', c', b, o, he, h1, h2, h3⟩ := Qdq how
  simp only [Value.slice.injEq] at he
  obtain ⟨rfl, _, rfl⟩ := he
  exact Qan S (by kernel_rfl) (by kernel_rfl) fun hg => ⟨Qaq hg, ⟨ver, a, c, b, o, Qak r⟩, rfl, rfl, h1, rfl, h2, h3⟩
theorem dw_s (m j : Nat) (hj : j < (Qak r).length) (ih : ∀ (wv : Value) (hne : ∀ g, Value.ownBlock wv = some g → g ≠ nb) (x0 x1 : Nat) (aa : Act) (w : World) (S : Sy w0 [] [x0, x1] (dwS na (r.length + 1) nc ver wv (j + 1)) [QeC nb no (ver :: r), Qaa w0.heap.size 42 2 wv (j + 1) (wsV ((Qak r).take (j + 1)))] aa w), post Try.prog (.rnd (m) (Qa_ dw2) :: dw2.k.tail) (bodyPost Try.prog Try.f67 (decP w0 (some (ver, Qak r)))) .normal aa w) (wv : Value) (hne : ∀ g, Value.ownBlock wv = some g → g ≠ nb) (x0 x1 : Nat) (aa : Act) (w : World) (S : Sy w0 [] [x0, x1] (dwS na (r.length + 1) nc ver wv (j)) [QeC nb no (ver :: r), Qaa w0.heap.size 42 2 wv (j) (wsV ((Qak r).take (j)))] aa w) : post Try.prog (.rnd (m + 1) (Qa_ dw2) :: dw2.k.tail) (bodyPost Try.prog Try.f67 (decP w0 (some (ver, Qak r)))) .normal aa w := by
  obtain ⟨hpl, hpv⟩ := Qfc r
  obtain ⟨q1, q2⟩ := hpv j hj
  rw [Qmh 0 ver] at q1
  rw [Nat.add_assoc, Qmh 0 ver, ← Nat.add_assoc] at q2
  obtain ⟨ii, hi1, hi2, hi3, hi4⟩ := Qc0 wrI
  obtain rfl := hna
  refine Qap (c := ⟨(.rnd (m + 1) (Qa_ dw2) :: dw2.k.tail), dwS (some ⟨nb, no, none⟩) (r.length + 1) nc ver wv (j)⟩) 19 50 4 S fun bs aa w S => ?_
  refine Qab 87 S (decide_eq_true (by omega) : decide (((1 + 2 * j : Nat) : Int) < ((r.length + 1 : Nat) : Int)) = true) fun S => ?_
  refine Qah S fun bs aa w S => ?_
  letI : HF := ⟨[QeC nb no (ver :: r)]⟩
  refine QaF [] (by kernel_rfl) (by kernel_rfl) S (by kernel_rfl) (fun aa w D => ?_) (fun f hf => by have e : f = QeC nb no (ver :: r) := List.mem_singleton.1 hf; subst e; simp)
  refine QaZ 4 D (by kernel_rfl) (by kernel_rfl) (by kernel_rfl) (b := nb) (off := no) (len := r.length + 1) (n := 1 + 2 * j) (size := 1) (ix := ((1 + 2 * j : Nat) : Int)) (by kernel_rfl) (rfl) (by omega) fun aa D => ?_
  refine Qbl 5 D (by kernel_rfl) (by kernel_rfl) (by kernel_rfl) (ty := 3) (ad := ⟨nb, no + (1 + 2 * j) * 1, none⟩) (v := .int .i64 ((Qak r).getD j (0, 0)).1) (fun W hW => Qa6 (by kernel_rfl) (by rw [Nat.mul_one, ← q1]; exact (show (QeC nb no (ver :: r)).P W from hW (QeC nb no (ver :: r)) (by show _ ∈ [QeC nb no (ver :: r)]; simp)) (1 + 2 * j) (by simp; omega))) (by kernel_rfl) fun aa D => ?_
  refine QaZ 9 D (by kernel_rfl) (by kernel_rfl) (by kernel_rfl) (b := nb) (off := no) (len := r.length + 1) (n := 1 + 2 * j + 1) (size := 1) (ix := (IntKind.i64.wrap (((1 + 2 * j : Nat) : Int) + 1))) (by kernel_rfl) (by rw [IntKind.wrap_i64]; omega) (by omega) fun aa D => ?_
  refine Qbl 10 D (by kernel_rfl) (by kernel_rfl) (by kernel_rfl) (ty := 3) (ad := ⟨nb, no + (1 + 2 * j + 1) * 1, none⟩) (v := .int .i64 ((Qak r).getD j (0, 0)).2) (fun W hW => Qa6 (by kernel_rfl) (by rw [Nat.mul_one, ← q2]; exact (show (QeC nb no (ver :: r)).P W from hW (QeC nb no (ver :: r)) (by show _ ∈ [QeC nb no (ver :: r)]; simp)) (1 + 2 * j + 1) (by simp; omega))) (by kernel_rfl) fun aa D => ?_
  refine Qac [1, 12] (by kernel_rfl) (by kernel_rfl) rfl (na2 ?_ ?_)
  · refine Qbr 1 D (by kernel_rfl) (Nat.le_refl _) (by kernel_rfl) (by kernel_rfl) fun bs aa w D hl => ?_
    refine Qac [12] (by kernel_rfl) (by kernel_rfl) rfl (na1 ?_)
    · refine Qbr 12 D (by kernel_rfl) hl (by kernel_rfl) (by kernel_rfl) fun bs aa w D hl => ?_
      refine Qac [13] (by kernel_rfl) (by kernel_rfl) rfl (na1 ?_)
      · refine have hap := (D.S.fs (Qaa w0.heap.size 42 2 wv (j) (wsV ((Qak r).take (j)))) (by simp)).2; have how := D.S.fact (f := Qaa w0.heap.size 42 2 wv (j) (wsV ((Qak r).take (j)))) (by simp); have hrl := (QeC nb no (ver :: r)).lt _ (D.S.fact (f := QeC nb no (ver :: r)) (by simp)) nb ⟨rfl, by simp⟩; Qh1 13 w0.heap.size [QeC nb no (ver :: r)] D (by kernel_rfl) (u := .v wv) (y := .s 2 0 1 1) (t := 58) (e := 42) (v := wv) (n := j) (ad := adr _ 2 0) (m := 1) (cp := 1) (size := 2) (bytes := 16) (xs := wsV ((Qak r).take j)) (news := [.int .i64 ((Qak r).getD j (0, 0)).1, .int .i64 ((Qak r).getD j (0, 0)).2]) (by kernel_rfl) Try.underlying58 hi1 hi2 hi3 hi4 rfl (by omega) rfl rfl how D.S.gr.size (Qlk (P := Try.prog) (ty := 42) (cs := [.int .i64 ((Qak r).getD j (0, 0)).1, .int .i64 ((Qak r).getD j (0, 0)).2]) D.S 2 (by kernel_rfl)) rfl (by intro u hu; simp only [List.mem_cons, List.not_mem_nil, or_false] at hu; rcases hu with rfl | rfl <;> rfl) (by simp only [maxLen]; omega) (by omega) (fun g hg => Or.inr (how.lt g hg).1) (fun f hf => ⟨by simp only [List.mem_singleton] at hf; subst hf; simp, by simp only [List.mem_singleton] at hf; subst hf; exact fun g hg hb => hne g hg hb.1⟩) (fun f hf => by have e : f = QeC nb no (ver :: r) := List.mem_singleton.1 hf; subst e; simp) (fun jj hjj hb => hap jj hjj hb) fun va vc aa w2 hO hg hnn hlt D => have D := D.addF (Qaa w0.heap.size 42 2 (.slice va (j + 1) vc) (j + 1) (wsV ((Qak r).take (j + 1)))) (by rw [Qiy _ j hj]; exact hO) (fun jj hjj hb => (hnn _ hb).elim (fun q => hap jj hjj q) (fun q => by have := hlt jj hjj; omega)); ?_
        refine Qac [15] (by kernel_rfl) (by kernel_rfl) rfl (na1 ?_)
        · refine Qbr 15 D (by kernel_rfl) hl (by kernel_rfl) (by kernel_rfl) fun bs aa w D hl => ?_
          refine QaM D (by kernel_rfl) fun S => ?_
          refine Qap 20 60 2 S fun bs aa w S => ?_
          refine QaB 89 S (by rw [IntKind.wrap_i64]; omega : IntKind.i64.wrap (((1 + 2 * j : Nat) : Int) + 2) = ((1 + 2 * (j + 1) : Nat) : Int)) fun S => ?_
          refine Qaj ⟨0, [999]⟩ 50 S fun bs aa w S => ?_
          have hne' : ∀ g, Value.ownBlock (.slice va (j + 1) vc) = some g → g ≠ nb := fun g hg' => (hnn g hg').elim (fun q => hne g q) (fun q e => by omega)
          have S := S.sub (F' := [QeC nb no (ver :: r), Qaa w0.heap.size 42 2 (.slice va (j + 1) vc) (j + 1) (wsV ((Qak r).take (j + 1)))]) (by intro f hf; simp only [List.mem_cons, List.not_mem_nil, or_false] at hf; rcases hf with rfl | rfl <;> simp)
          have S2 := S.to [0, 1] (dwS (some ⟨nb, no, none⟩) (r.length + 1) nc ver (.slice va (j + 1) vc) (j + 1)) (by kernel_rfl) (by kernel_rfl) (by kernel_rfl) (by kernel_rfl) (by kernel_rfl)
          refine Qag (k' := (.rnd (m) (Qa_ dw2) :: dw2.k.tail)) (by kernel_rfl) ?_
          exact ih (.slice va (j + 1) vc) hne' _ _ aa w S2
  · refine Qbr 12 D (by kernel_rfl) (Nat.le_refl _) (by kernel_rfl) (by kernel_rfl) fun bs aa w D hl => ?_
    refine Qac [1] (by kernel_rfl) (by kernel_rfl) rfl (na1 ?_)
    · refine Qbr 1 D (by kernel_rfl) hl (by kernel_rfl) (by kernel_rfl) fun bs aa w D hl => ?_
      refine Qac [13] (by kernel_rfl) (by kernel_rfl) rfl (na1 ?_)
      · refine have hap := (D.S.fs (Qaa w0.heap.size 42 2 wv (j) (wsV ((Qak r).take (j)))) (by simp)).2; have how := D.S.fact (f := Qaa w0.heap.size 42 2 wv (j) (wsV ((Qak r).take (j)))) (by simp); have hrl := (QeC nb no (ver :: r)).lt _ (D.S.fact (f := QeC nb no (ver :: r)) (by simp)) nb ⟨rfl, by simp⟩; Qh1 13 w0.heap.size [QeC nb no (ver :: r)] D (by kernel_rfl) (u := .v wv) (y := .s 2 0 1 1) (t := 58) (e := 42) (v := wv) (n := j) (ad := adr _ 2 0) (m := 1) (cp := 1) (size := 2) (bytes := 16) (xs := wsV ((Qak r).take j)) (news := [.int .i64 ((Qak r).getD j (0, 0)).1, .int .i64 ((Qak r).getD j (0, 0)).2]) (by kernel_rfl) Try.underlying58 hi1 hi2 hi3 hi4 rfl (by omega) rfl rfl how D.S.gr.size (Qlk (P := Try.prog) (ty := 42) (cs := [.int .i64 ((Qak r).getD j (0, 0)).1, .int .i64 ((Qak r).getD j (0, 0)).2]) D.S 2 (by kernel_rfl)) rfl (by intro u hu; simp only [List.mem_cons, List.not_mem_nil, or_false] at hu; rcases hu with rfl | rfl <;> rfl) (by simp only [maxLen]; omega) (by omega) (fun g hg => Or.inr (how.lt g hg).1) (fun f hf => ⟨by simp only [List.mem_singleton] at hf; subst hf; simp, by simp only [List.mem_singleton] at hf; subst hf; exact fun g hg hb => hne g hg hb.1⟩) (fun f hf => by have e : f = QeC nb no (ver :: r) := List.mem_singleton.1 hf; subst e; simp) (fun jj hjj hb => hap jj hjj hb) fun va vc aa w2 hO hg hnn hlt D => have D := D.addF (Qaa w0.heap.size 42 2 (.slice va (j + 1) vc) (j + 1) (wsV ((Qak r).take (j + 1)))) (by rw [Qiy _ j hj]; exact hO) (fun jj hjj hb => (hnn _ hb).elim (fun q => hap jj hjj q) (fun q => by have := hlt jj hjj; omega)); ?_
        refine Qac [15] (by kernel_rfl) (by kernel_rfl) rfl (na1 ?_)
        · refine Qbr 15 D (by kernel_rfl) hl (by kernel_rfl) (by kernel_rfl) fun bs aa w D hl => ?_
          refine QaM D (by kernel_rfl) fun S => ?_
          refine Qap 20 60 2 S fun bs aa w S => ?_
          refine QaB 89 S (by rw [IntKind.wrap_i64]; omega : IntKind.i64.wrap (((1 + 2 * j : Nat) : Int) + 2) = ((1 + 2 * (j + 1) : Nat) : Int)) fun S => ?_
          refine Qaj ⟨0, [999]⟩ 50 S fun bs aa w S => ?_
          have hne' : ∀ g, Value.ownBlock (.slice va (j + 1) vc) = some g → g ≠ nb := fun g hg' => (hnn g hg').elim (fun q => hne g q) (fun q e => by omega)
          have S := S.sub (F' := [QeC nb no (ver :: r), Qaa w0.heap.size 42 2 (.slice va (j + 1) vc) (j + 1) (wsV ((Qak r).take (j + 1)))]) (by intro f hf; simp only [List.mem_cons, List.not_mem_nil, or_false] at hf; rcases hf with rfl | rfl <;> simp)
          have S2 := S.to [0, 1] (dwS (some ⟨nb, no, none⟩) (r.length + 1) nc ver (.slice va (j + 1) vc) (j + 1)) (by kernel_rfl) (by kernel_rfl) (by kernel_rfl) (by kernel_rfl) (by kernel_rfl)
          refine Qag (k' := (.rnd (m) (Qa_ dw2) :: dw2.k.tail)) (by kernel_rfl) ?_
          exact ih (.slice va (j + 1) vc) hne' _ _ aa w S2
theorem dw_a : ∀ (m j : Nat), j + m = (Qak r).length → ∀ (wv : Value) (hne : ∀ g, Value.ownBlock wv = some g → g ≠ nb) (x0 x1 : Nat) (aa : Act) (w : World) (S : Sy w0 [] [x0, x1] (dwS na (r.length + 1) nc ver wv (j)) [QeC nb no (ver :: r), Qaa w0.heap.size 42 2 wv (j) (wsV ((Qak r).take (j)))] aa w), post Try.prog (.rnd (m + 1) (Qa_ dw2) :: dw2.k.tail) (bodyPost Try.prog Try.f67 (decP w0 (some (ver, Qak r)))) .normal aa w := by
  intro m
  induction m with
  | zero => intro j hj wv hne x0 x1 aa w S; obtain rfl : j = (Qak r).length := by omega
            exact dw_e w0  na nc nb no ver r hna hnl hR 0 wv x0 x1 aa w S
  | succ m ih => intro j hj wv hne x0 x1 aa w S; exact dw_s w0  na nc nb no ver r hna hnl hR (m + 1) j (by omega) (fun wv hne => ih (j + 1) (by omega) wv hne) wv hne x0 x1 aa w S
end
theorem ex_apS {s : SS} {bs : List Nat} {w : World} {x y : Operand} {v : Value} {p : ByteArray} {B0 n : Nat} {xs : List Value} (hx : s.val x = some (.v v)) (hy : s.val y = some (.v (.string p))) (hown : w.ownsRow B0 5 1 v n xs) (hp : 0 < p.size) (hbytes : n + p.size ≤ 140737488355328) (hB : B0 ≤ w.heap.size) :
    ∀ (o : Oper) (ρ : Operand → Value), o.op = .call { callee := .builtin .append, args := #[x, y], argTypes := #[48, 9] } → o.type = 48 → (∀ x y, s.val x = some y → ρ x = den bs y) → ∃ v' w', (execOp ρ o).run Try.prog w = .ok (.value v') w' ∧ (w'.ownsRow B0 5 1 v' (n + p.size) (xs ++ Lib.strCells p) ∧ ∀ g, v'.ownBlock = some g → v.ownBlock = some g ∨ w.heap.size ≤ g) ∧ w.grownBy w' v.ownBlock := by
  intro o ρ h1 h2 h3
  have e1 : ρ x = v := h3 x _ hx
  have e2 : ρ y = .string p := h3 y _ hy
  obtain ⟨i, hi, hz, hs, hb⟩ := Qc0 Qfi
  obtain ⟨v', w', hr, q1, q2, q3⟩ := app_st (P := Try.prog) (ty := o.type) Try.underlying48 Try.underlying9 hi hz hs hb hown p hp hbytes hB
  refine ⟨v', w', ?_, ⟨q1, q3⟩, q2⟩
  unfold execOp
  simp only [h1, e1, e2, resolve, invoke, builtin, List.map_toArray, List.map_cons, List.map_nil, Sem.run_bind, Sem.run_pure, Result.andThen_ok, hr]
theorem QlX {s : SS} {bs : List Nat} {x y : Operand} {t t' ty : TypeId} {p : ByteArray} {b : Bool} (hx : s.val x = some (.v (.string p))) (hy : s.val y = some (.v (.string ⟨#[]⟩))) (hb : decide (p.size = 0) = b) :
    ∀ (o : Oper) (ρ : Operand → Value) (W : World), o.op = .binOp .eql t x y t' → o.type = ty → (∀ x y, s.val x = some y → ρ x = den bs y) → (execOp ρ o).run Try.prog W = .ok (.value (.bool b)) W := by
  intro o ρ W h1 h2 h3
  have e1 : ρ x = .string p := h3 x _ hx
  have e2 : ρ y = .string ⟨#[]⟩ := h3 y _ hy
  have e3 : (p.toList == (⟨#[]⟩ : ByteArray).toList) = decide (p.size = 0) := by
    rw [ByteArray.toList_eq, ByteArray.toList_eq]
    have hsz : p.size = p.data.toList.length := (Array.length_toList).symm
    cases hq : p.data.toList with
    | nil => rw [hsz, hq]; rfl
    | cons a r => rw [hsz, hq]; rfl
  subst hb
  unfold execOp
  simp only [h1, e1, e2, eqGuard, binOp_string_eql, e3, Sem.run_bind, Sem.run_pure, Result.andThen_ok]
  rfl
theorem slS_m (s : ByteArray) (h : s.size = 32) (W : World) : (Instr.sliceAt 9 (.string s) (some (.int .i64 1)) (some (.int .i64 28)) none).run Try.prog W = .ok (.string (s.extract 1 28)) W := by
  have hu : Try.prog.underlying 9 = some .string := Try.underlying9
  rw [run_sliceAt_string W _ _ _ _ _ hu, run_slice_string W 9 s .i64 .i64 1 28 hu (by omega) (by omega) (by omega)]
  rfl
theorem sct_ext (s : ByteArray) (h : s.size = 32) : Qaf (s.extract 1 28) = sct s := by
  unfold sct Qaf
  rw [ByteArray.data_extract, Array.toList_extract, List.extract_eq_take_drop]
  simp [List.map_take, List.map_drop]
theorem ext_size (s : ByteArray) (h : s.size = 32) : (s.extract 1 28).size = 27 := by rw [ByteArray.size_extract]; omega
def Qdj (sub : (List ByteArray)) : Option (Int × Ws) := if sub.all (fun s => decide (s.size = 32)) then (match Qa7 (sub.flatMap sct) with
    | some (ns, _) => Qfd ns
    | none => none) else none
theorem QhZ {ns : List Int} (h : ns.length % 2 = 0) : Qfd ns = none := by
  cases ns with
  | nil => rfl
  | cons v r => simp only [List.length_cons] at h; show (if r.length % 2 = 0 then _ else _) = _; rw [if_neg (by omega)]
theorem QjR {ns : List Int} (h : ns.length % 2 = 1) : ∃ v r, ns = v :: r ∧ r.length % 2 = 0 ∧ Qfd ns = some (v, Qak r) := by
  cases ns with
  | nil => simp at h
  | cons v r => simp only [List.length_cons] at h; exact ⟨v, r, rfl, by omega, by show (if r.length % 2 = 0 then _ else _) = _; rw [if_pos (by omega)]⟩
theorem Qj5 {sub : (List ByteArray)} {j : Nat} (hj : j < sub.length) (h : ¬(sub.getD j ByteArray.empty).size = 32) : Qdj sub = none := by
  unfold Qdj
  rw [all_not _ ByteArray.empty sub j hj (decide_eq_false h)]
  rfl
theorem Qil {sub : (List ByteArray)} (h : ∀ i, i < sub.length → (sub.getD i ByteArray.empty).size = 32) : Qdj sub = match Qa7 (sub.flatMap sct) with
    | some (ns, _) => Qfd ns
    | none => none := by
  unfold Qdj
  rw [all_upto _ ByteArray.empty sub fun i hi => decide_eq_true (h i hi)]
  rfl
theorem Qjd (sub : (List ByteArray)) (h : ∀ i, i < sub.length → (sub.getD i ByteArray.empty).size = 32) : ∀ j, j ≤ sub.length → ((sub.take j).flatMap sct).length = 27 * j
  | 0, _ => by simp
  | j + 1, hj => by
    rw [List.take_succ_eq_append_getElem (by omega), List.flatMap_append, List.length_append, Qjd sub h j (by omega)]
    have h1 := h j (by omega)
    rw [List.getD, List.getElem?_eq_getElem (by omega), Option.getD_some] at h1
    have h2 := QbL sub[j]
    simp only [List.flatMap_cons, List.flatMap_nil, List.append_nil]
    unfold sct
    rw [List.length_take, List.length_drop]
    omega
theorem QlT (sub : (List ByteArray)) (j : Nat) (hj : j < sub.length) : (sub.take (j + 1)).flatMap sct = (sub.take j).flatMap sct ++ sct (sub.getD j ByteArray.empty) := by
  rw [List.take_succ_eq_append_getElem hj, List.flatMap_append]
  simp [List.getD, List.getElem?_eq_getElem hj]
theorem tmod2 (n : Nat) : Int.tmod (n : Int) 2 = ((n % 2 : Nat) : Int) := (Int.ofNat_tmod _ _).symm
theorem Lib_sc (s : ByteArray) : Lib.strCells s = (Qaf s).map bV := QhI s
theorem Qim {l : List Nat} {ns : List Int} {u : Nat} (hl : ∀ b ∈ l, b < 256) (h : Qa7 l = some (ns, u)) : ns.length ≤ l.length := by
  unfold Qa7 at h
  split at h
  · cases h
  · rename_i c k hd
    split at h
    · cases h
    · split at h
      · cases h
      · rename_i ns' u' hm
        obtain ⟨rfl, rfl⟩ : ns' = ns ∧ k + u' = u := by simpa using h
        have := QcB (fun b hb => hl b (List.mem_of_mem_drop hb)) hm
        rw [List.length_drop] at this
        omega
noncomputable def dcC : Cfg := ⟨goZ 200 [0, 0] [.code (QaW Try.f67)], ⟨0, [], []⟩⟩
noncomputable def dcS (n1 : Nat) (a : Option Addr) (cc : Nat) (pv : Value) (j : Nat) : SS := ⟨106, [(4, .p 0 0), (7, .v pv), (50, .v (.slice a n1 cc)), (51, .v (.int .i64 (n1 : Int))), (52, .v (.int .i64 (j : Int)))], [⟨60, [.int .i64 0, .slice none 0 0]⟩]⟩
section
variable (w0 : World) (sub : (List ByteArray)) (n1 : Nat) (hn1 : sub.length = n1) (h256 : n1 ≤ 256) (a : Option Addr) (cc sb sq : Nat) (ha : n1 = 0 ∨ a = some ⟨sb, sq, none⟩)
include w0 sub n1 hn1 h256 a cc sb sq ha
theorem dc_b (m j : Nat) (hj : j < n1) (hp : ¬(sub.getD j ByteArray.empty).size = 32) (pv : Value) (x0 : Nat) (aa : Act) (w : World) (S : Sy w0 [] [x0] (dcS n1 a cc pv (j)) [Qaz sb sq sub, Qaa w0.heap.size 5 1 pv (27 * (j)) (((sub.take (j)).flatMap sct).map bV)] aa w) : post Try.prog (.rnd (m + 1) (Qa_ dcC) :: dcC.k.tail) (bodyPost Try.prog Try.f67 (decP w0 (Qdj sub))) .normal aa w := by
  have eR := Qj5 (show j < sub.length by omega) hp
  refine Qap (c := ⟨(.rnd (m + 1) (Qa_ dcC) :: dcC.k.tail), dcS n1 a cc pv j⟩) 8 50 1 S fun bs aa w S => ?_
  refine Qab 53 S (decide_eq_true (by omega) : decide ((j : Int) < (n1 : Int)) = true) fun S => ?_
  refine Qaj ⟨0, [9]⟩ 60 S fun bs aa w S => ?_
  refine Qcn S fun S => ?_
  refine QbI (b := sb) (off := sq) (len := n1) (n := j) (size := 1) (i := (j : Int)) S (by rw [← ha.resolve_left (by omega)]; kernel_rfl) rfl hj fun aa S => ?_
  refine Qbf S (Qa6 (ty := 9) (b := sb) (off := sq + j * 1) (by kernel_rfl) (by rw [Nat.mul_one]; exact S.fact (f := Qaz sb sq sub) (by simp) j (by omega))) (by kernel_rfl) fun aa S => ?_
  refine Qap 10 60 3 S fun bs aa w S => ?_
  refine Qab 58 S (by rw [decide_eq_false (by omega)]; rfl : (!decide (((sub.getD j ByteArray.empty).size : Int) = 32)) = true) fun S => ?_
  refine Qah S fun bs aa w S => ?_
  rw [eR]
  exact Qan S (by kernel_rfl) (by kernel_rfl) fun hg => ⟨Qaq hg, rfl⟩
theorem dc_s (m j : Nat) (hj : j < n1) (hp : (sub.getD j ByteArray.empty).size = 32) (ih : (∀ i, i < j + 1 → (sub.getD i ByteArray.empty).size = 32) → ∀ (pv : Value) (hne : ∀ g, Value.ownBlock pv = some g → g ≠ sb) (x0 : Nat) (aa : Act) (w : World) (S : Sy w0 [] [x0] (dcS n1 a cc pv (j + 1)) [Qaz sb sq sub, Qaa w0.heap.size 5 1 pv (27 * (j + 1)) (((sub.take (j + 1)).flatMap sct).map bV)] aa w), post Try.prog (.rnd (m) (Qa_ dcC) :: dcC.k.tail) (bodyPost Try.prog Try.f67 (decP w0 (Qdj sub))) .normal aa w) (hv : ∀ i, i < j → (sub.getD i ByteArray.empty).size = 32) (pv : Value) (hne : ∀ g, Value.ownBlock pv = some g → g ≠ sb) (x0 : Nat) (aa : Act) (w : World) (S : Sy w0 [] [x0] (dcS n1 a cc pv (j)) [Qaz sb sq sub, Qaa w0.heap.size 5 1 pv (27 * (j)) (((sub.take (j)).flatMap sct).map bV)] aa w) : post Try.prog (.rnd (m + 1) (Qa_ dcC) :: dcC.k.tail) (bodyPost Try.prog Try.f67 (decP w0 (Qdj sub))) .normal aa w := by
  refine Qap (c := ⟨(.rnd (m + 1) (Qa_ dcC) :: dcC.k.tail), dcS n1 a cc pv j⟩) 8 50 1 S fun bs aa w S => ?_
  refine Qab 53 S (decide_eq_true (by omega) : decide ((j : Int) < (n1 : Int)) = true) fun S => ?_
  refine Qaj ⟨0, [9]⟩ 60 S fun bs aa w S => ?_
  refine Qcn S fun S => ?_
  refine QbI (b := sb) (off := sq) (len := n1) (n := j) (size := 1) (i := (j : Int)) S (by rw [← ha.resolve_left (by omega)]; kernel_rfl) rfl hj fun aa S => ?_
  refine Qbf S (Qa6 (ty := 9) (b := sb) (off := sq + j * 1) (by kernel_rfl) (by rw [Nat.mul_one]; exact S.fact (f := Qaz sb sq sub) (by simp) j (by omega))) (by kernel_rfl) fun aa S => ?_
  refine Qap 10 60 3 S fun bs aa w S => ?_
  refine Qab 58 S (by rw [decide_eq_true (by omega)]; rfl : (!decide (((sub.getD j ByteArray.empty).size : Int) = 32)) = false) fun S => ?_
  refine Qap 12 60 2 S fun bs aa w S => ?_
  refine QcC (op := .slice 9 (.tmp 61) (some (.const (.int .i64 1))) (some (.const (.int .i64 28))) none) (ty := 9) (v := .string ((sub.getD j ByteArray.empty).extract 1 28)) S (by kernel_rfl) (Qhi (p := (sub.getD j ByteArray.empty)) (l2 := some (.v (.int .i64 1))) (h2 := some (.v (.int .i64 28))) Try.underlying9 (by kernel_rfl) (by kernel_rfl) (by kernel_rfl) (fun W => slS_m _ hp W)) fun aa S => ?_
  refine Qbq S fun bs S => ?_
  have how := S.fact (f := Qaa w0.heap.size 5 1 pv (27 * (j)) (((sub.take (j)).flatMap sct).map bV)) (by simp)
  have hap := (S.fs (Qaa w0.heap.size 5 1 pv (27 * (j)) (((sub.take (j)).flatMap sct).map bV)) (by simp)).2
  have hex := ext_size (sub.getD j ByteArray.empty) hp
  have hblk : ∀ j, j < bs.length → bs.getD j 0 < w.heap.size := fun j hj => S.lt hj
  have hsb := (Qaz sb sq sub).lt _ (S.fact (f := Qaz sb sq sub) (by simp)) sb ⟨rfl, by omega⟩
  refine sy_exG pv [Qaz sb sq sub] S (op := .call { callee := .builtin .append, args := #[.tmp 60, .tmp 62], argTypes := #[48, 9] }) (ty := 48) (by kernel_rfl) (ex_apS (v := pv) (p := (sub.getD j ByteArray.empty).extract 1 28) (by kernel_rfl) (by kernel_rfl) how (by omega) (by omega) S.gr.size) (fun g hg => Or.inr (how.lt g hg).1) (fun f hf => by
      simp only [List.mem_singleton] at hf
      subst hf
      exact ⟨by simp, fun g hg hb => hne g hg hb.1⟩) (fun i hi h => hap i hi h) fun v' aa w2 hC S => ?_
  have hO := hC.1
  rw [hex, Lib_sc, sct_ext _ hp, ← List.map_append, ← QlT sub j (by omega), show 27 * j + 27 = 27 * (j + 1) by omega] at hO
  have S := S.add (Qaa w0.heap.size 5 1 v' (27 * (j + 1)) (((sub.take (j + 1)).flatMap sct).map bV)) hO (fun i hi hb => (hC.2 _ hb).elim (fun q => hap i hi q) (fun q => by have := hblk i hi; omega))
  have hne' : ∀ g, v'.ownBlock = some g → g ≠ sb := fun g hg => (hC.2 g hg).elim (fun q => hne g q) (fun q => by omega)
  refine Qap 13 60 1 S fun bs aa w S => ?_
  refine QaB 64 S (by rw [IntKind.wrap_i64]; omega : IntKind.i64.wrap ((j : Int) + 1) = ((j + 1 : Nat) : Int)) fun S => ?_
  refine Qaj ⟨0, [999]⟩ 50 S fun bs aa w S => ?_
  have S := S.sub (F' := [Qaz sb sq sub, Qaa w0.heap.size 5 1 v' (27 * (j + 1)) (((sub.take (j + 1)).flatMap sct).map bV)]) (by intro f hf; simp only [List.mem_cons, List.not_mem_nil, or_false] at hf; rcases hf with rfl | rfl <;> simp)
  have S2 := S.to [0] (dcS n1 a cc v' (j + 1)) (by kernel_rfl) (by kernel_rfl) (by kernel_rfl) (by kernel_rfl) (by kernel_rfl)
  refine Qag (k' := (.rnd (m) (Qa_ dcC) :: dcC.k.tail)) (by kernel_rfl) ?_
  exact ih (QgQ hv hp) v' hne' _ aa w S2
theorem dc_e (m : Nat) (hv : ∀ i, i < n1 → (sub.getD i ByteArray.empty).size = 32) (pv : Value) (x0 : Nat) (aa : Act) (w : World) (S : Sy w0 [] [x0] (dcS n1 a cc pv (n1)) [Qaz sb sq sub, Qaa w0.heap.size 5 1 pv (27 * (n1)) (((sub.take (n1)).flatMap sct).map bV)] aa w) : post Try.prog (.rnd (m + 1) (Qa_ dcC) :: dcC.k.tail) (bodyPost Try.prog Try.f67 (decP w0 (Qdj sub))) .normal aa w := by
  subst hn1
  have eR := Qil hv
  refine Qap (c := ⟨(.rnd (m + 1) (Qa_ dcC) :: dcC.k.tail), dcS sub.length a cc pv sub.length⟩) 8 50 1 S fun bs aa w S => ?_
  refine Qab 53 S (decide_eq_false (by omega) : decide ((sub.length : Int) < (sub.length : Int)) = false) fun S => ?_
  refine Qap 14 60 1 S fun bs aa w S => ?_
  have how := S.fact (f := Qaa w0.heap.size 5 1 pv (27 * (sub.length)) (((sub.take (sub.length)).flatMap sct).map bV)) (by simp)
  rw [List.take_length] at how
  have hfl := Qjd sub hv sub.length (Nat.le_refl _)
  rw [List.take_length] at hfl
  rw [← hfl] at how
  have hHB := Qb9 (show QeF w w0.heap.size pv (sub.flatMap sct) from how)
  have hg := QlO pv (sub.flatMap sct) (Qfq _) (by omega) w hHB
  refine Qbq S fun bs S => ?_
  have hblk : ∀ j, j < bs.length → bs.getD j 0 < w.heap.size := fun j hj => S.lt hj
  cases hd : Qa7 (sub.flatMap sct) with
  | none =>
    rw [hd] at eR
    refine QaJ S (hg.mono fun y w' h => ⟨by have h2 := h.2; rw [hd] at h2; exact h2, h.1⟩) (by kernel_rfl) fun aa w hb S => ?_
    refine Qah S fun bs aa w S => ?_
    rw [eR]
    exact Qan S (by kernel_rfl) (by kernel_rfl) fun hg => ⟨Qaq hg, rfl⟩
  | some x =>
    obtain ⟨ns, u⟩ := x
    rw [hd] at eR
    have hnl := Qim (Qfq _) hd
    refine Qbg S (X := Value) (val := fun v => .tuple #[v, .int .i64 (u : Int), .int .i64 0]) (C := fun v w' => QbH w' v ns ∧ ∀ g, v.ownBlock = some g → w.heap.size ≤ g) (hg.mono fun y w' h => by
      have h2 := h.2
      rw [hd] at h2
      obtain ⟨v, q1, q2, q3⟩ := h2
      exact ⟨v, q1, ⟨q2, q3⟩, h.1⟩) (by kernel_rfl) fun v aa w1 hC hb S => ?_
    obtain ⟨⟨na, nc, rfl, hn63, hcell⟩, hfr⟩ := hC
    obtain ⟨nb, no, hna, hcell, hnb⟩ : ∃ nb no, (ns.length = 0 ∨ na = some ⟨nb, no, none⟩) ∧ (∀ j, j < ns.length → w1.cell? ⟨nb, no + j, none⟩ = some (.int .i64 (ns.getD j 0))) ∧ (ns.length = 0 ∨ w.heap.size ≤ nb) := by
      rcases hcell with h | ⟨nb, no, rfl, h⟩
      · exact ⟨0, 0, Or.inl h, fun j hj => by omega, Or.inl h⟩
      · exact ⟨nb, no, Or.inr rfl, h, Or.inr (hfr nb rfl)⟩
    have S := S.add (QeC nb no ns) hcell (fun i hi hb => by
      obtain ⟨h1, h2⟩ := hb
      have q1 := hblk i hi
      have q2 := hnb.resolve_left h2
      omega)
    refine Qap 15 60 7 S fun bs aa w S => ?_
    by_cases hev : ns.length % 2 = 0
    · have eR := eR.trans (QhZ hev)
      refine Qab 77 S (decide_eq_true (by rw [tmod2]; omega) : decide (Int.tmod (ns.length : Int) 2 = 0) = true) fun S => ?_
      refine Qah S fun bs aa w S => ?_
      rw [eR]
      exact Qan S (by kernel_rfl) (by kernel_rfl) fun hg => ⟨Qaq hg, rfl⟩
    · obtain ⟨ver, r, rfl, hr, e2⟩ := QjR (show ns.length % 2 = 1 by omega)
      have eR := eR.trans e2
      refine Qab 77 S (decide_eq_false (by rw [tmod2]; omega) : decide (Int.tmod (((ver :: r).length : Nat) : Int) 2 = 0) = false) fun S => ?_
      obtain rfl := hna.resolve_left (by simp)
      refine Qap 17 60 1 S fun bs aa w S => ?_
      refine QbI (b := nb) (off := no) (len := (ver :: r).length) (n := 0) (size := 1) (i := 0) S (by kernel_rfl) rfl (by simp) fun aa S => ?_
      refine Qbf S (Qa6 (ty := 3) (b := nb) (off := no + 0 * 1) (by kernel_rfl) ((S.fact (f := QeC nb no (ver :: r)) (by simp)) 0 (by simp))) (by kernel_rfl) fun aa S => ?_
      refine Qah S fun bs aa w S => ?_
      have S := S.add (Qaa w0.heap.size 42 2 (.slice none 0 0) 0 (wsV ((Qak r).take 0))) (World.ownsRow_nil _ _ _ _) (fun i hi h => by cases h)
      have S := S.sub (F' := [QeC nb no (ver :: r), Qaa w0.heap.size 42 2 (.slice none 0 0) 0 (wsV ((Qak r).take 0))]) (by intro f hf; simp only [List.mem_cons, List.not_mem_nil, or_false] at hf; rcases hf with rfl | rfl <;> simp)
      have S2 := S.to [0, 1] (dwS (some ⟨nb, no, none⟩) (r.length + 1) nc ver (.slice none 0 0) 0) (by kernel_rfl) (by kernel_rfl) (by kernel_rfl) (by kernel_rfl) (by kernel_rfl)
      refine QaR ((Qak r).length + 1) (by kernel_rfl) ?_
      refine Qag (k' := (.rnd ((Qak r).length + 1) (Qa_ dw2) :: dw2.k.tail)) (by kernel_rfl) ?_
      rw [eR]
      exact dw_a w0 (some ⟨nb, no, none⟩) nc nb no ver r rfl (by have q : (ver :: r).length ≤ _ := hnl; simp only [List.length_cons] at q; omega) hr (Qak r).length 0 (by omega) (.slice none 0 0) (fun g hg => by cases hg) _ _ aa w S2
theorem dc_a : ∀ (r j : Nat), j + r = n1 → (∀ i, i < j → (sub.getD i ByteArray.empty).size = 32) → ∀ (pv : Value) (hne : ∀ g, Value.ownBlock pv = some g → g ≠ sb) (x0 : Nat) (aa : Act) (w : World) (S : Sy w0 [] [x0] (dcS n1 a cc pv (j)) [Qaz sb sq sub, Qaa w0.heap.size 5 1 pv (27 * (j)) (((sub.take (j)).flatMap sct).map bV)] aa w), post Try.prog (.rnd (r + 1) (Qa_ dcC) :: dcC.k.tail) (bodyPost Try.prog Try.f67 (decP w0 (Qdj sub))) .normal aa w := by
  intro r
  induction r with
  | zero => intro j hj hv pv hne x0 aa w S; obtain rfl : n1 = j := by omega
            exact dc_e w0 sub n1 hn1 h256 a cc sb sq ha 0 hv pv x0 aa w S
  | succ r ih =>
    intro j hj hv pv hne x0 aa w S
    by_cases hp : (sub.getD j ByteArray.empty).size = 32
    · exact dc_s w0 sub n1 hn1 h256 a cc sb sq ha (r + 1) j (by omega) hp (fun h => ih (j + 1) (by omega) h) hv pv hne x0 aa w S
    · exact dc_b w0 sub n1 hn1 h256 a cc sb sq ha (r + 1) j (by omega) hp pv x0 aa w S
end
def Qj6 (l : (List ByteArray)) (k : Int) : Option (Int × Ws) := if k < 0 then none else Qhn l k.toNat
theorem decS_sub {l : (List ByteArray)} {k : Nat} (h1 : k < l.length) (h2 : (l.getD k ByteArray.empty).size ≠ 0) (h3 : Qdh (l.getD k ByteArray.empty) < l.length - k) : Qhn l k = Qdj ((l.drop k).take (Qdh (l.getD k ByteArray.empty) + 1)) := by
  unfold Qhn Qdj
  rw [if_neg (by omega), if_neg h2, if_neg (by omega)]
  cases Qa7 (((l.drop k).take (Qdh (l.getD k ByteArray.empty) + 1)).flatMap sct) <;> rfl
theorem QkF {w : World} {b o k n : Nat} {l : (List ByteArray)} (h : StrAt w b o l) : StrAt w b (o + k) ((l.drop k).take n) := fun j hj => by
  rw [List.length_take, List.length_drop] at hj
  have := h (k + j) (by omega)
  rw [Nat.add_assoc, this]
  simp [List.getD, List.getElem?_take, List.getElem?_drop, show j < n by omega]
theorem sl_mid (t : TypeId) (e : TypeId) (ht : Try.prog.underlying t = some (.slice e)) (he : (Try.prog.info? e).map (·.size) = some 1) (b o n c l h : Nat) (h1 : l ≤ h) (h2 : h ≤ c) (h3 : l < c) (W : World) : (Instr.sliceAt t (.slice (some ⟨b, o, none⟩) n c) (some (.int .i64 (l : Int))) (some (.int .i64 (h : Int))) none).run Try.prog W = .ok (.slice (some ⟨b, o + l, none⟩) (h - l) (c - l)) W := by
  have hs := sl_any t e ht he (some ⟨b, o, none⟩) n c l h h1 h2 (some (.int .i64 (l : Int))) (some (.int .i64 (h : Int))) (fun W => by simp [Instr.sliceBounds, run_sliceBound, h1, h2]) W
  rw [if_neg (by omega)] at hs
  rw [hs]
  have ea : (⟨b, o, none⟩ : Addr).add l = ⟨b, o + l, none⟩ := by unfold Addr.add; split <;> simp_all
  rw [Option.map_some, ea]
theorem decode_t (w0 : World) (l : (List ByteArray)) (sa : Option Addr) (sc sb so : Nat) (hs : l.length = 0 ∨ sa = some ⟨sb, so, none⟩) (hsc : l.length ≤ sc) (hl : l.length ≤ 1000) (at_ : Int) (hA : StrAt w0 sb so l) : Calls Try.prog 67 #[.slice sa l.length sc, .int .i64 at_] w0 (decP w0 (Qj6 l at_)) := by
  have hwb : l.length = 0 ∨ sb < w0.heap.size := by
    by_cases h : l.length = 0
    · exact Or.inl h
    · exact Or.inr ((Qaz sb so l).lt w0 hA sb ⟨rfl, h⟩)
  refine Qas [] [Qaz sb so l] (by intro f hf; simp only [List.mem_singleton] at hf; subst hf; exact hA) Try.func67 rfl rfl fun aa S => ?_
  refine Qap 1 60 2 S fun bs aa w S => ?_
  by_cases h0 : at_ < 0
  case pos =>
    refine Qab 16 S (decide_eq_true h0 : decide (at_ < 0) = true) fun S => ?_
    have eR : Qj6 l at_ = none := by unfold Qj6; rw [if_pos h0]
    refine Qah S fun bs aa w S => ?_
    rw [eR]
    exact Qan S (by kernel_rfl) (by kernel_rfl) fun hg => ⟨Qaq hg, rfl⟩
  refine Qab 16 S (decide_eq_false h0 : decide (at_ < 0) = false) fun S => ?_
  refine Qad 5 S fun bs aa w S => ?_
  obtain ⟨k, rfl⟩ : ∃ k : Nat, at_ = (k : Int) := ⟨at_.toNat, (Int.toNat_of_nonneg (by omega)).symm⟩
  have eA : Qj6 l (k : Int) = Qhn l k := by unfold Qj6; rw [if_neg h0, Int.toNat_natCast]
  by_cases h1 : k < l.length
  case neg =>
    refine Qab 21 S (decide_eq_true (by omega) : decide ((k : Int) ≥ (l.length : Int)) = true) fun S => ?_
    have eR : Qj6 l (k : Int) = none := by rw [eA]; unfold Qhn; rw [if_pos (by omega)]
    refine Qah S fun bs aa w S => ?_
    rw [eR]
    exact Qan S (by kernel_rfl) (by kernel_rfl) fun hg => ⟨Qaq hg, rfl⟩
  obtain rfl := hs.resolve_left (by omega)
  refine Qab 21 S (decide_eq_false (by omega) : decide ((k : Int) ≥ (l.length : Int)) = false) fun S => ?_
  refine Qad 4 S fun bs aa w S => ?_
  refine QbI (b := sb) (off := so) (len := l.length) (n := k) (size := 1) (i := (k : Int)) S (by kernel_rfl) rfl h1 fun aa S => ?_
  refine Qbf S (Qa6 (ty := 9) (b := sb) (off := so + k * 1) (by kernel_rfl) (by rw [Nat.mul_one]; exact S.fact (f := Qaz sb so l) (by simp) k h1)) (by kernel_rfl) fun aa S => ?_
  by_cases h2 : (l.getD k ByteArray.empty).size = 0
  case pos =>
    refine QcC (op := .binOp .eql 9 (.tmp 27) (.const (.string ⟨#[]⟩)) 9) (ty := 4) (v := .bool true) S (by kernel_rfl) (QlX (p := (l.getD k ByteArray.empty)) (by kernel_rfl) (by kernel_rfl) (decide_eq_true h2)) fun aa S => ?_
    have eR : Qj6 l (k : Int) = none := by rw [eA]; unfold Qhn; rw [if_neg (by omega), if_pos h2]
    refine Qah S fun bs aa w S => ?_
    rw [eR]
    exact Qan S (by kernel_rfl) (by kernel_rfl) fun hg => ⟨Qaq hg, rfl⟩
  refine QcC (op := .binOp .eql 9 (.tmp 27) (.const (.string ⟨#[]⟩)) 9) (ty := 4) (v := .bool false) S (by kernel_rfl) (QlX (p := (l.getD k ByteArray.empty)) (by kernel_rfl) (by kernel_rfl) (decide_eq_false h2)) fun aa S => ?_
  refine Qap 3 60 2 S fun bs aa w S => ?_
  refine QbI (b := sb) (off := so) (len := l.length) (n := k) (size := 1) (i := (k : Int)) S (by kernel_rfl) rfl h1 fun aa S => ?_
  refine Qbf S (Qa6 (ty := 9) (b := sb) (off := so + k * 1) (by kernel_rfl) (by rw [Nat.mul_one]; exact S.fact (f := Qaz sb so l) (by simp) k h1)) (by kernel_rfl) fun aa S => ?_
  refine QcC (op := .index 9 (.tmp 34) (.const (.int .i64 0))) (ty := 5) (v := .int .u8 ((byt (l.getD k ByteArray.empty) 0 : Nat) : Int)) S (by kernel_rfl) (ex_ix (p := (l.getD k ByteArray.empty)) (k := 0) Try.underlying9 (by kernel_rfl) (by kernel_rfl) (by omega)) fun aa S => ?_
  refine Qad 1 S fun bs aa w S => ?_
  have hby := byt_lt (l.getD k ByteArray.empty) 0
  have eF : Qdh (l.getD k ByteArray.empty) = byt (l.getD k ByteArray.empty) 0 := QgG _ 0
  obtain ⟨m, hm⟩ : ∃ m, m = byt (l.getD k ByteArray.empty) 0 := ⟨_, rfl⟩
  refine QaB 36 S (by rw [IntKind.wrap_i64, ← hm]; omega : IntKind.i64.wrap ((byt (l.getD k ByteArray.empty) 0 : Nat) : Int) = (m : Int)) fun S => ?_
  refine Qap 4 60 5 S fun bs aa w S => ?_
  refine QaB 41 S (by rw [IntKind.wrap_i64]; omega : IntKind.i64.wrap ((l.length : Int) - (k : Int)) = ((l.length - k : Nat) : Int)) fun S => ?_
  refine Qad 1 S fun bs aa w S => ?_
  by_cases h3 : m < l.length - k
  case neg =>
    refine Qab 42 S (decide_eq_true (by omega) : decide ((m : Int) ≥ ((l.length - k : Nat) : Int)) = true) fun S => ?_
    have eR : Qj6 l (k : Int) = none := by rw [eA]; unfold Qhn; rw [if_neg (by omega), if_neg h2, if_pos (by omega)]
    refine Qah S fun bs aa w S => ?_
    rw [eR]
    exact Qan S (by kernel_rfl) (by kernel_rfl) fun hg => ⟨Qaq hg, rfl⟩
  refine Qab 42 S (decide_eq_false (by omega) : decide ((m : Int) ≥ ((l.length - k : Nat) : Int)) = false) fun S => ?_
  refine Qap 7 60 5 S fun bs aa w S => ?_
  refine QaB 48 S (by rw [IntKind.wrap_i64]; omega : IntKind.i64.wrap ((k : Int) + (m : Int)) = ((k + m : Nat) : Int)) fun S => ?_
  refine Qad 1 S fun bs aa w S => ?_
  refine QaB 49 S (by rw [IntKind.wrap_i64]; omega : IntKind.i64.wrap (((k + m : Nat) : Int) + 1) = ((k + m + 1 : Nat) : Int)) fun S => ?_
  refine QcC (op := .slice 27 (.tmp 44) (some (.tmp 45)) (some (.tmp 49)) none) (ty := 27) (v := .slice (some ⟨sb, so + k, none⟩) (k + m + 1 - k) (sc - k)) S (by kernel_rfl) (QlU (p := .slice (some ⟨sb, so, none⟩) l.length sc) (l2 := some (.v (.int .i64 (k : Int)))) (h2 := some (.v (.int .i64 ((k + m + 1 : Nat) : Int)))) (m2 := none) (by kernel_rfl) (by kernel_rfl) (by kernel_rfl) (by kernel_rfl) (fun W => sl_mid 27 9 Try.underlying27 (by kernel_rfl) sb so l.length sc k (k + m + 1) (by omega) (by omega) (by omega) W)) fun aa S => ?_
  refine Qah S fun bs aa w S => ?_
  have hsl : ((l.drop k).take (m + 1)).length = k + m + 1 - k := by rw [List.length_take, List.length_drop]; omega
  have S := S.add (Qaz sb (so + k) ((l.drop k).take (m + 1))) (QkF (S.fact (f := Qaz sb so l) (by simp))) (fun i hi hb => by
    have := S.lo0 i hi
    obtain ⟨q, _⟩ := hb
    have := hwb.resolve_left (by omega)
    omega)
  have S := S.add (Qaa w0.heap.size 5 1 (.slice none 0 0) (27 * 0) (((((l.drop k).take (m + 1)).take 0).flatMap sct).map bV)) (World.ownsRow_nil _ _ _ _) (fun i hi h => by cases h)
  have S := S.sub (F' := [Qaz sb (so + k) ((l.drop k).take (m + 1)), Qaa w0.heap.size 5 1 (.slice none 0 0) (27 * 0) (((((l.drop k).take (m + 1)).take 0).flatMap sct).map bV)]) (by intro f hf; simp only [List.mem_cons, List.not_mem_nil, or_false] at hf; rcases hf with rfl | rfl <;> simp)
  have S2 := S.to [0] (dcS (k + m + 1 - k) (some ⟨sb, so + k, none⟩) (sc - k) (.slice none 0 0) 0) (by kernel_rfl) (by kernel_rfl) (by kernel_rfl) (by kernel_rfl) (by kernel_rfl)
  refine QaR (k + m + 1 - k + 1) (by kernel_rfl) ?_
  refine Qag (k' := (.rnd (k + m + 1 - k + 1) (Qa_ dcC) :: dcC.k.tail)) (by kernel_rfl) ?_
  rw [eA, decS_sub h1 h2 (by omega), eF, ← hm]
  exact dc_a w0 ((l.drop k).take (m + 1)) (k + m + 1 - k) hsl (by omega) (some ⟨sb, so + k, none⟩) (sc - k) sb (so + k) (Or.inr rfl) (k + m + 1 - k) 0 (by omega) (fun i hi => absurd hi (Nat.not_lt_zero _)) (.slice none 0 0) (fun g hg => by cases hg) _ aa w S2
def Qli (l : (List ByteArray)) (k : Int) : Option (Int × Ws × Nat) := if k < 0 then none else Qbo l k.toNat
def parP (w0 : World) (R : Option (Int × Ws × Nat)) (y : Ending) (w' : World) : Prop := Below w0.heap.size w0 w' ∧ match R with
  | none => y = .returned (.tuple #[.agg #[.int .i64 0, .slice none 0 0], .int .i64 0, .int .i64 11])
  | some (v, ws, n) => ∃ e : Et, e.ver = v ∧ e.ws = ws ∧ e.ok ∧ y = .returned (.tuple #[e.v, .int .i64 (n : Int), .int .i64 0]) ∧ Qc8 w' e.b e.o e.ws ∧ (e.ws.length = 0 ∨ w0.heap.size ≤ e.b)
theorem Qlh {l : (List ByteArray)} {k : Int} (h : Qj6 l k = none) : Qli l k = none := by
  unfold Qli
  unfold Qj6 at h
  split
  · rfl
  · rename_i hk
    rw [if_neg hk] at h
    unfold Qbo
    rw [h]
theorem Ql9 {l : (List ByteArray)} {k : Int} {v : Int} {ws : Ws} (h : Qj6 l k = some (v, ws)) : ∃ n : Nat, k = (n : Int) ∧ n < l.length ∧ QcD v ws ∧ Qli l k = if (QaC v ws).length = 0 ∨ l.length - n < (QaC v ws).length ∨ QaC v ws ≠ (l.drop n).take (QaC v ws).length then none else some (v, ws, (QaC v ws).length) := by
  unfold Qj6 at h
  split at h
  · cases h
  · rename_i hk
    have e : Qhn l k.toNat = some (v, ws) := h
    refine ⟨k.toNat, (Int.toNat_of_nonneg (by omega)).symm, ?_, Qjq e, ?_⟩
    · unfold Qhn at e
      split at e
      · cases e
      · omega
    · unfold Qli Qbo
      rw [if_neg hk, e]
theorem QeT {w : World} {B : Nat} {v : Value} {R : (List ByteArray)} (h : w.ownsRow B 9 1 v R.length (R.map Value.string)) (h0 : R.length ≠ 0) : ∃ g c, v = .slice (some ⟨g, 0, none⟩) R.length c ∧ R.length ≤ c ∧ StrAt w g 0 R ∧ B ≤ g := by
  rcases h.2 with ⟨rfl, hz⟩ | ⟨g, cap, cur, rfl, hb, hg, h1, h2, h3, h4⟩
  · exact absurd hz h0
  · refine ⟨g, cap, rfl, h1, fun j hj => ?_, hb⟩
    have hc := h.cells (g := g) rfl j (.string (R.getD j ByteArray.empty)) (by simp [List.getD, List.getElem?_eq_getElem hj])
    have ea : (⟨g, 0, none⟩ : Addr).add j = ⟨g, 0 + j, none⟩ := by unfold Addr.add; split <;> simp_all
    rw [ea] at hc
    exact hc
theorem equal_t (w : World) (b1 c1 b2 o2 c2 n : Nat) (xs ys : (List ByteArray)) (hx : xs.length = n) (hy : ys.length = n) (hn : n ≤ 100000) (h1 : StrAt w b1 0 xs) (h2 : StrAt w b2 o2 ys) : Calls Try.prog 69 #[.slice (some ⟨b1, 0, none⟩) n c1, .slice (some ⟨b2, o2, none⟩) n c2] w fun y w' => y = .returned (.bool (decide (xs = ys))) ∧ Below w.heap.size w w' := by
  have h := Try.slices_Equal_string b1 0 n c1 b2 o2 n c2 xs ys w (by omega) (by omega) (by omega) (by omega) h1 h2
  rw [List.take_of_length_le (by omega), List.take_of_length_le (by omega)] at h
  exact h.mono fun e w' h => ⟨h.1, by obtain ⟨q, hq⟩ := h.2; rw [hq]; exact ⟨rfl, rfl, rfl, Nat.le_refl _, fun k hk => rfl⟩⟩
theorem parse_t (w0 : World) (l : (List ByteArray)) (sa : Option Addr) (sc sb so : Nat) (hs : l.length = 0 ∨ sa = some ⟨sb, so, none⟩) (hsc : l.length ≤ sc) (hl : l.length ≤ 1000) (at_ : Int) (hA : StrAt w0 sb so l) : Calls Try.prog 53 #[.slice sa l.length sc, .int .i64 at_] w0 (parP w0 (Qli l at_)) := by
  have hwb : l.length = 0 ∨ sb < w0.heap.size := by
    by_cases h : l.length = 0
    · exact Or.inl h
    · exact Or.inr ((Qaz sb so l).lt w0 hA sb ⟨rfl, h⟩)
  refine Qas [] [Qaz sb so l] (by intro f hf; simp only [List.mem_singleton] at hf; subst hf; exact hA) Try.func53 rfl rfl fun aa S => ?_
  refine Qap 1 60 2 S fun bs aa w S => ?_
  have hdec := decode_t w l sa sc sb so hs hsc hl at_ (S.fact (f := Qaz sb so l) (by simp))
  refine Qbq S fun bs S => ?_
  have hblk : ∀ j, j < bs.length → bs.getD j 0 < w.heap.size := fun j hj => S.lt hj
  have hgs := S.gr.size
  cases hd : Qj6 l at_ with
  | none =>
    have eR := Qlh hd
    refine QaJ S (hdec.mono fun y w' h => ⟨by have h2 := h.2; rw [hd] at h2; exact h2, h.1⟩) (by kernel_rfl) fun aa w hb S => ?_
    refine Qah S fun bs aa w S => ?_
    rw [eR]
    exact Qan S (by kernel_rfl) (by kernel_rfl) fun hg => ⟨Qaq hg, rfl⟩
  | some x =>
    obtain ⟨v, ws⟩ := x
    obtain ⟨k, rfl, hk, hfit, eP⟩ := Ql9 hd
    obtain rfl := hs.resolve_left (by omega)
    refine Qbg S (X := Et) (val := fun e => .tuple #[e.v, .bool true]) (C := fun e w' => e.ver = v ∧ e.ws = ws ∧ e.ok ∧ Qc8 w' e.b e.o e.ws ∧ (e.ws.length = 0 ∨ w.heap.size ≤ e.b)) (hdec.mono fun y w' h => by
      have h2 := h.2
      rw [hd] at h2
      obtain ⟨e, q1, q2, q3, q4, q5, q6⟩ := h2
      exact ⟨e, q4, ⟨q1, q2, q3, q5, q6⟩, h.1⟩) (by kernel_rfl) fun e aa w1 hC hb S => ?_
    obtain ⟨rfl, rfl, hok, hwr, hfr⟩ := hC
    have S := S.add (QaN e.b e.o e.ws) hwr (fun i hi hb => by
      obtain ⟨q1, q2⟩ := hb
      have := hblk i hi
      have := hfr.resolve_left q2
      omega)
    refine Qap 4 60 1 S fun bs aa w S => ?_
    refine Qbq S fun bs S => ?_
    have hblk2 : ∀ j, j < bs.length → bs.getD j 0 < w.heap.size := fun j hj => S.lt hj
    obtain ⟨R, eRR⟩ : ∃ R, R = QaC e.ver e.ws := ⟨_, rfl⟩
    have hRl : R.length ≤ 25 := by
      rw [eRR]
      cases hv : QaG e.ver e.ws with
      | false => rw [Qds hv]; exact Nat.zero_le _
      | true => rw [QaU hv, QbA]; exact (Qbh hfit hv).2
    refine Qbg S (X := Value) (val := id) (C := fun x w' => w'.ownsRow w.heap.size 9 1 x R.length (R.map Value.string)) (by rw [eRR]; exact record_e w e hok hfit (S.fact (f := QaN e.b e.o e.ws) (by simp))) (by kernel_rfl) fun x aa w1 hO hb S => ?_
    rw [← eRR] at eP
    by_cases h0 : R.length = 0
    case pos =>
      obtain ⟨ra, rc, rfl⟩ := QcI hO
      refine Qap 5 60 3 S fun bs aa w S => ?_
      refine Qab 23 S (decide_eq_true (by omega) : decide ((R.length : Int) = 0) = true) fun S => ?_
      have eR : Qli l (k : Int) = none := by rw [eP]; exact if_pos (Or.inl h0)
      refine Qah S fun bs aa w S => ?_
      rw [eR]
      exact Qan S (by kernel_rfl) (by kernel_rfl) fun hg => ⟨Qaq hg, rfl⟩
    obtain ⟨g, rc, rfl, hrc, hst, hgb⟩ := QeT hO h0
    have S := S.add (Qaz g 0 R) hst (fun i hi hb => by
      obtain ⟨q1, q2⟩ := hb
      have := hblk2 i hi
      omega)
    refine Qap 5 60 3 S fun bs aa w S => ?_
    refine Qab 23 S (decide_eq_false (by omega) : decide ((R.length : Int) = 0) = false) fun S => ?_
    refine Qad 7 S fun bs aa w S => ?_
    refine QaB 30 S (by rw [IntKind.wrap_i64]; omega : IntKind.i64.wrap ((l.length : Int) - (k : Int)) = ((l.length - k : Nat) : Int)) fun S => ?_
    refine Qad 1 S fun bs aa w S => ?_
    by_cases h1 : l.length - k < R.length
    case pos =>
      refine Qab 31 S (decide_eq_true (by omega) : decide ((R.length : Int) > ((l.length - k : Nat) : Int)) = true) fun S => ?_
      have eR : Qli l (k : Int) = none := by rw [eP]; exact if_pos (Or.inr (Or.inl h1))
      refine Qah S fun bs aa w S => ?_
      rw [eR]
      exact Qan S (by kernel_rfl) (by kernel_rfl) fun hg => ⟨Qaq hg, rfl⟩
    refine Qab 31 S (decide_eq_false (by omega) : decide ((R.length : Int) > ((l.length - k : Nat) : Int)) = false) fun S => ?_
    refine Qad 9 S fun bs aa w S => ?_
    refine QaB 40 S (by rw [IntKind.wrap_i64]; omega : IntKind.i64.wrap ((k : Int) + (R.length : Int)) = ((k + R.length : Nat) : Int)) fun S => ?_
    refine QcC (op := .slice 27 (.tmp 35) (some (.tmp 36)) (some (.tmp 40)) none) (ty := 27) (v := .slice (some ⟨sb, so + k, none⟩) R.length (sc - k)) S (by kernel_rfl) (QlU (p := .slice (some ⟨sb, so, none⟩) l.length sc) (l2 := some (.v (.int .i64 (k : Int)))) (h2 := some (.v (.int .i64 ((k + R.length : Nat) : Int)))) (m2 := none) (by kernel_rfl) (by kernel_rfl) (by kernel_rfl) (by kernel_rfl) (fun W => by have q := sl_mid 27 9 Try.underlying27 (by kernel_rfl) sb so l.length sc k (k + R.length) (by omega) (by omega) (by omega) W; rw [show k + R.length - k = R.length by omega] at q; exact q)) fun aa S => ?_
    have hyl : ((l.drop k).take R.length).length = R.length := by rw [List.length_take, List.length_drop]; omega
    refine QaJ S (equal_t _ g rc sb (so + k) (sc - k) R.length R ((l.drop k).take R.length) rfl hyl (by omega) (S.fact (f := Qaz g 0 R) (by simp)) (QkF (S.fact (f := Qaz sb so l) (by simp)))) (by kernel_rfl) fun aa w hb S => ?_
    by_cases h2 : R = (l.drop k).take R.length
    case neg =>
      refine Qab 42 S (decide_eq_false h2) fun S => ?_
      have eR : Qli l (k : Int) = none := by rw [eP]; exact if_pos (Or.inr (Or.inr h2))
      refine Qah S fun bs aa w S => ?_
      rw [eR]
      exact Qan S (by kernel_rfl) (by kernel_rfl) fun hg => ⟨Qaq hg, rfl⟩
    refine Qab 42 S (decide_eq_true h2) fun S => ?_
    have eR : Qli l (k : Int) = some (e.ver, e.ws, R.length) := by rw [eP]; exact if_neg (by rintro (q | q | q); exact h0 q; exact h1 q; exact q h2)
    refine Qah S fun bs aa w S => ?_
    have hw := S.fact (f := QaN e.b e.o e.ws) (by simp)
    rw [eR]
    exact Qan S (by kernel_rfl) (by kernel_rfl) fun hg => ⟨Qaq hg, e, rfl, rfl, hok, rfl, hw, hfr.imp id fun q => by omega⟩
structure Sr where
  a : Option Addr
  c : Nat
  b : Nat
  o : Nat
  l : (List ByteArray)
def Sr.v (s : Sr) : Value := .slice s.a s.l.length s.c
def Sr.ok (s : Sr) : Prop := s.l.length = 0 ∨ s.a = some ⟨s.b, s.o, none⟩
abbrev Sr.at (s : Sr) (w : World) : Prop := StrAt w s.b s.o s.l
theorem QjI {w : World} {B : Nat} {v : Value} {R : (List ByteArray)} (h : w.ownsRow B 9 1 v R.length (R.map Value.string)) : ∃ s : Sr, s.l = R ∧ v = s.v ∧ s.ok ∧ s.at w ∧ s.l.length ≤ s.c ∧ (R.length = 0 ∨ B ≤ s.b) := by
  by_cases h0 : R.length = 0
  · obtain ⟨a, c, rfl⟩ := QcI h
    have hc : R.length ≤ c := by omega
    exact ⟨⟨a, c, 0, 0, R⟩, rfl, rfl, Or.inl h0, fun j hj => by simp only at hj; omega, hc, Or.inl h0⟩
  · obtain ⟨g, c, rfl, h1, h2, h3⟩ := QeT h h0
    exact ⟨⟨some ⟨g, 0, none⟩, c, g, 0, R⟩, rfl, rfl, Or.inr rfl, h2, h1, Or.inr h3⟩
theorem Qkt : Try.prog.underlying 42 = some (.struct (Try.prog.fieldsOf 42)) := by kernel_rfl
theorem wr_held : Try.prog.stoodInHeld 42 = false := by kernel_rfl
theorem wr_neq (a b : Int × Int) (w : World) : (binOp .neq 42 (.agg #[.int .i64 a.1, .int .i64 a.2]) (.agg #[.int .i64 b.1, .int .i64 b.2])).run Try.prog w = .ok (.bool (!decide (a = b))) w := by
  rw [run_neq_struct, show (10000 : Nat) = 9999 + 1 from rfl, run_equalIn_agg w 9999 42 _ _ Qkt wr_held]
  have u3 := Try.underlying3
  have a3 := Try.isAgg3
  have z3 := Try.sizeOf3
  simp only [Program.fieldsOf, Try.underlying42]
  go_simp
  obtain ⟨a1, a2⟩ := a
  obtain ⟨b1, b2⟩ := b
  simp only [Prod.mk.injEq] at *
  by_cases h1 : a1 = b1 <;> by_cases h2 : a2 = b2 <;> simp_all
theorem wr_guard : Try.prog.eqGuardType Try.prog.depth 42 = false := by kernel_rfl
theorem ex_neR {s : SS} {bs : List Nat} {x y : Operand} {t' ty : TypeId} {p q : Int × Int} {b : Bool} (hx : s.val x = some (.v (.agg #[.int .i64 p.1, .int .i64 p.2]))) (hy : s.val y = some (.v (.agg #[.int .i64 q.1, .int .i64 q.2]))) (hb : (!decide (p = q)) = b) :
    ∀ (o : Oper) (ρ : Operand → Value) (W : World), o.op = .binOp .neq 42 x y t' → o.type = ty → (∀ x y, s.val x = some y → ρ x = den bs y) → (execOp ρ o).run Try.prog W = .ok (.value (.bool b)) W := by
  intro o ρ W h1 h2 h3
  have e1 : ρ x = (.agg #[.int .i64 p.1, .int .i64 p.2]) := h3 x _ hx
  have e2 : ρ y = (.agg #[.int .i64 q.1, .int .i64 q.2]) := h3 y _ hy
  subst hb
  have hg : ∀ W, (eqGuard .neq 42 x y (.agg #[.int .i64 p.1, .int .i64 p.2]) (.agg #[.int .i64 q.1, .int .i64 q.2])).run Try.prog W = .ok () W := fun W => run_eqGuard_agg W .neq 42 x y _ _ wr_guard
  have hr : ∀ W, (binOp .neq 42 (.agg #[.int .i64 p.1, .int .i64 p.2]) (.agg #[.int .i64 q.1, .int .i64 q.2])).run Try.prog W = .ok (.bool (!decide (p = q))) W := fun W => wr_neq p q W
  unfold execOp
  simp only [h1, e1, e2, hg, hr, Sem.run_bind, Sem.run_pure, Result.andThen_ok]
noncomputable def onC : Cfg := ⟨goZ 60 [0] [.code (QaW Try.f23)], ⟨0, [], []⟩⟩
noncomputable def onS (x y : Et) (j : Nat) : SS := ⟨38, [(2, .p 0 0), (3, .p 1 0), (5, .v (.int .i64 (j : Int)))], [⟨60, x.cs⟩, ⟨60, y.cs⟩]⟩
section
variable (w0 : World) (x y : Et) (hx : x.ok) (hy : y.ok) (hve : x.ver = y.ver) (hn : x.ws.length = y.ws.length) (h1 : x.ws.length ≤ 100000)
include w0 x y hx hy hve hn h1
theorem on_e (m : Nat) (hv : ∀ i, i < x.ws.length → x.ws.getD i (0, 0) = y.ws.getD i (0, 0)) (x0 x1 : Nat) (aa : Act) (w : World) (S : Sy w0 [] [x0, x1] (onS x y (x.ws.length)) [QaN x.b x.o x.ws, QaN y.b y.o y.ws] aa w) : post Try.prog (.rnd (m + 1) (Qa_ onC) :: onC.k.tail) (bodyPost Try.prog Try.f23 fun z w' => z = .returned (.bool (decide (x.ver = y.ver ∧ x.ws = y.ws))) ∧ Below w0.heap.size w0 w') .normal aa w := by
  refine Qap (c := ⟨(.rnd (m + 1) (Qa_ onC) :: onC.k.tail), onS x y (x.ws.length)⟩) 4 50 5 S fun bs aa w S => ?_
  refine Qab 24 S (decide_eq_false (by omega) : decide ((x.ws.length : Int) < (x.ws.length : Int)) = false) fun S => ?_
  refine Qah S fun bs aa w S => ?_
  rw [decide_eq_true ⟨hve, QgA (0, 0) x.ws y.ws hn hv⟩]
  exact Qan S (by kernel_rfl) (by kernel_rfl) fun hg => ⟨rfl, Qaq hg⟩
theorem on_s (m j : Nat) (hj : j < x.ws.length) (hp : x.ws.getD j (0, 0) = y.ws.getD j (0, 0)) (ih : (∀ i, i < j + 1 → x.ws.getD i (0, 0) = y.ws.getD i (0, 0)) → ∀ (x0 x1 : Nat) (aa : Act) (w : World) (S : Sy w0 [] [x0, x1] (onS x y (j + 1)) [QaN x.b x.o x.ws, QaN y.b y.o y.ws] aa w), post Try.prog (.rnd (m) (Qa_ onC) :: onC.k.tail) (bodyPost Try.prog Try.f23 fun z w' => z = .returned (.bool (decide (x.ver = y.ver ∧ x.ws = y.ws))) ∧ Below w0.heap.size w0 w') .normal aa w) (hv : ∀ i, i < j → x.ws.getD i (0, 0) = y.ws.getD i (0, 0)) (x0 x1 : Nat) (aa : Act) (w : World) (S : Sy w0 [] [x0, x1] (onS x y (j)) [QaN x.b x.o x.ws, QaN y.b y.o y.ws] aa w) : post Try.prog (.rnd (m + 1) (Qa_ onC) :: onC.k.tail) (bodyPost Try.prog Try.f23 fun z w' => z = .returned (.bool (decide (x.ver = y.ver ∧ x.ws = y.ws))) ∧ Below w0.heap.size w0 w') .normal aa w := by
  refine Qap (c := ⟨(.rnd (m + 1) (Qa_ onC) :: onC.k.tail), onS x y (j)⟩) 4 50 5 S fun bs aa w S => ?_
  refine Qab 24 S (decide_eq_true (by omega) : decide ((j : Int) < (x.ws.length : Int)) = true) fun S => ?_
  refine Qah S fun bs aa w S => ?_
  letI : KP := ⟨[37]⟩
  letI : HF := ⟨[QaN x.b x.o x.ws, QaN y.b y.o y.ws]⟩
  refine QaF [0, 1] (by kernel_rfl) (by kernel_rfl) S (by kernel_rfl) (fun aa w D => ?_) (fun f hf => hf)
  refine QaZ 3 D (by kernel_rfl) (by kernel_rfl) (by kernel_rfl) (b := x.b) (off := x.o) (len := x.ws.length) (n := j) (size := 2) (ix := (j : Int)) (by rw [← hx.resolve_left (by omega)]; kernel_rfl) rfl (by omega) fun aa D => ?_
  refine Qbl 4 D (by kernel_rfl) (by kernel_rfl) (by kernel_rfl) (ty := 42) (ad := ⟨x.b, x.o + j * 2, none⟩) (v := (.agg #[.int .i64 (x.ws.getD j (0, 0)).1, .int .i64 (x.ws.getD j (0, 0)).2])) (fun W hW => Qh3 (j := j) (show Qc8 W x.b x.o x.ws from hW (QaN x.b x.o x.ws) (by show _ ∈ [QaN x.b x.o x.ws, QaN y.b y.o y.ws]; simp)) (by omega)) (by kernel_rfl) fun aa D => ?_
  refine QaZ 8 D (by kernel_rfl) (by kernel_rfl) (by kernel_rfl) (b := y.b) (off := y.o) (len := y.ws.length) (n := j) (size := 2) (ix := (j : Int)) (by rw [← hy.resolve_left (by omega)]; kernel_rfl) rfl (by omega) fun aa D => ?_
  refine Qbl 9 D (by kernel_rfl) (by kernel_rfl) (by kernel_rfl) (ty := 42) (ad := ⟨y.b, y.o + j * 2, none⟩) (v := (.agg #[.int .i64 (y.ws.getD j (0, 0)).1, .int .i64 (y.ws.getD j (0, 0)).2])) (fun W hW => Qh3 (j := j) (show Qc8 W y.b y.o y.ws from hW (QaN y.b y.o y.ws) (by show _ ∈ [QaN x.b x.o x.ws, QaN y.b y.o y.ws]; simp)) (by omega)) (by kernel_rfl) fun aa D => ?_
  refine Qbj (fun d v c a w h => by cases d <;> exact h) 10 (op := .binOp .neq 42 (.tmp 31) (.tmp 36) 42) (ty := 4) (v := .bool false) D (by kernel_rfl) (by kernel_rfl) (by kernel_rfl) (by kernel_rfl) (ex_neR (p := x.ws.getD j (0, 0)) (q := y.ws.getD j (0, 0)) (by kernel_rfl) (by kernel_rfl) (by rw [decide_eq_true hp]; rfl)) fun aa D => ?_
  refine QaM D (by kernel_rfl) fun S => ?_
  refine Qap 5 60 2 S fun bs aa w S => ?_
  refine QaB 26 S (by rw [IntKind.wrap_i64]; omega : IntKind.i64.wrap ((j : Int) + 1) = ((j + 1 : Nat) : Int)) fun S => ?_
  refine Qaj ⟨0, [999]⟩ 50 S fun bs aa w S => ?_
  have S2 := S.to [0, 1] (onS x y (j + 1)) (by kernel_rfl) (by kernel_rfl) (by kernel_rfl) (by kernel_rfl) (by kernel_rfl)
  refine Qag (k' := (.rnd (m) (Qa_ onC) :: onC.k.tail)) (by kernel_rfl) ?_
  exact ih (QgQ hv hp) _ _ aa w S2
theorem on_b (m j : Nat) (hj : j < x.ws.length) (hp : ¬x.ws.getD j (0, 0) = y.ws.getD j (0, 0)) (x0 x1 : Nat) (aa : Act) (w : World) (S : Sy w0 [] [x0, x1] (onS x y (j)) [QaN x.b x.o x.ws, QaN y.b y.o y.ws] aa w) : post Try.prog (.rnd (m + 1) (Qa_ onC) :: onC.k.tail) (bodyPost Try.prog Try.f23 fun z w' => z = .returned (.bool (decide (x.ver = y.ver ∧ x.ws = y.ws))) ∧ Below w0.heap.size w0 w') .normal aa w := by
  refine Qap (c := ⟨(.rnd (m + 1) (Qa_ onC) :: onC.k.tail), onS x y (j)⟩) 4 50 5 S fun bs aa w S => ?_
  refine Qab 24 S (decide_eq_true (by omega) : decide ((j : Int) < (x.ws.length : Int)) = true) fun S => ?_
  refine Qah S fun bs aa w S => ?_
  letI : KP := ⟨[37]⟩
  letI : HF := ⟨[QaN x.b x.o x.ws, QaN y.b y.o y.ws]⟩
  refine QaF [0, 1] (by kernel_rfl) (by kernel_rfl) S (by kernel_rfl) (fun aa w D => ?_) (fun f hf => hf)
  refine QaZ 3 D (by kernel_rfl) (by kernel_rfl) (by kernel_rfl) (b := x.b) (off := x.o) (len := x.ws.length) (n := j) (size := 2) (ix := (j : Int)) (by rw [← hx.resolve_left (by omega)]; kernel_rfl) rfl (by omega) fun aa D => ?_
  refine Qbl 4 D (by kernel_rfl) (by kernel_rfl) (by kernel_rfl) (ty := 42) (ad := ⟨x.b, x.o + j * 2, none⟩) (v := (.agg #[.int .i64 (x.ws.getD j (0, 0)).1, .int .i64 (x.ws.getD j (0, 0)).2])) (fun W hW => Qh3 (j := j) (show Qc8 W x.b x.o x.ws from hW (QaN x.b x.o x.ws) (by show _ ∈ [QaN x.b x.o x.ws, QaN y.b y.o y.ws]; simp)) (by omega)) (by kernel_rfl) fun aa D => ?_
  refine QaZ 8 D (by kernel_rfl) (by kernel_rfl) (by kernel_rfl) (b := y.b) (off := y.o) (len := y.ws.length) (n := j) (size := 2) (ix := (j : Int)) (by rw [← hy.resolve_left (by omega)]; kernel_rfl) rfl (by omega) fun aa D => ?_
  refine Qbl 9 D (by kernel_rfl) (by kernel_rfl) (by kernel_rfl) (ty := 42) (ad := ⟨y.b, y.o + j * 2, none⟩) (v := (.agg #[.int .i64 (y.ws.getD j (0, 0)).1, .int .i64 (y.ws.getD j (0, 0)).2])) (fun W hW => Qh3 (j := j) (show Qc8 W y.b y.o y.ws from hW (QaN y.b y.o y.ws) (by show _ ∈ [QaN x.b x.o x.ws, QaN y.b y.o y.ws]; simp)) (by omega)) (by kernel_rfl) fun aa D => ?_
  refine Qbj (fun d v c a w h => by cases d <;> exact h) 10 (op := .binOp .neq 42 (.tmp 31) (.tmp 36) 42) (ty := 4) (v := .bool true) D (by kernel_rfl) (by kernel_rfl) (by kernel_rfl) (by kernel_rfl) (ex_neR (p := x.ws.getD j (0, 0)) (q := y.ws.getD j (0, 0)) (by kernel_rfl) (by kernel_rfl) (by rw [decide_eq_false hp]; rfl)) fun aa D => ?_
  refine QaM D (by kernel_rfl) fun S => ?_
  refine Qah S fun bs aa w S => ?_
  rw [decide_eq_false (fun q : x.ver = y.ver ∧ x.ws = y.ws => hp (by rw [q.2]))]
  exact Qan S (by kernel_rfl) (by kernel_rfl) fun hg => ⟨rfl, Qaq hg⟩
theorem on_a : ∀ (r j : Nat), j + r = x.ws.length → (∀ i, i < j → x.ws.getD i (0, 0) = y.ws.getD i (0, 0)) → ∀ (x0 x1 : Nat) (aa : Act) (w : World) (S : Sy w0 [] [x0, x1] (onS x y (j)) [QaN x.b x.o x.ws, QaN y.b y.o y.ws] aa w), post Try.prog (.rnd (r + 1) (Qa_ onC) :: onC.k.tail) (bodyPost Try.prog Try.f23 fun z w' => z = .returned (.bool (decide (x.ver = y.ver ∧ x.ws = y.ws))) ∧ Below w0.heap.size w0 w') .normal aa w := by
  intro r
  induction r with
  | zero => intro j hj hv x0 x1 aa w S; obtain rfl : j = x.ws.length := by omega
            exact on_e w0 x y hx hy hve hn h1 0 hv x0 x1 aa w S
  | succ r ih =>
    intro j hj hv x0 x1 aa w S
    by_cases hp : x.ws.getD j (0, 0) = y.ws.getD j (0, 0)
    · exact on_s w0 x y hx hy hve hn h1 (r + 1) j (by omega) hp (fun h => ih (j + 1) (by omega) h) hv x0 x1 aa w S
    · exact on_b w0 x y hx hy hve hn h1 (r + 1) j (by omega) hp x0 x1 aa w S
end
theorem one_t (w0 : World) (x y : Et) (hx : x.ok) (hy : y.ok) (h1 : x.ws.length ≤ 100000) (hA : Qc8 w0 x.b x.o x.ws) (hB : Qc8 w0 y.b y.o y.ws) : Calls Try.prog 23 #[x.v, y.v] w0 fun z w' => z = .returned (.bool (decide (x.ver = y.ver ∧ x.ws = y.ws))) ∧ Below w0.heap.size w0 w' := by
  refine Qas [] [QaN x.b x.o x.ws, QaN y.b y.o y.ws] (by intro f hf; simp only [List.mem_cons, List.not_mem_nil, or_false] at hf; rcases hf with rfl | rfl; exact hA; exact hB) Try.func23 rfl rfl fun aa S => ?_
  refine Qap 1 60 5 S fun bs aa w S => ?_
  by_cases hve : x.ver = y.ver
  case neg =>
    refine Qab 10 S (by rw [decide_eq_false hve]; rfl : (!decide (x.ver = y.ver)) = true) fun S => ?_
    refine Qah S fun bs aa w S => ?_
    rw [decide_eq_false (fun q : x.ver = y.ver ∧ x.ws = y.ws => hve q.1)]
    exact Qan S (by kernel_rfl) (by kernel_rfl) fun hg => ⟨rfl, Qaq hg⟩
  refine Qab 10 S (by rw [decide_eq_true hve]; rfl : (!decide (x.ver = y.ver)) = false) fun S => ?_
  refine Qad 8 S fun bs aa w S => ?_
  by_cases hn : x.ws.length = y.ws.length
  case neg =>
    refine Qab 18 S (by rw [decide_eq_false (by omega)]; rfl : (!decide ((x.ws.length : Int) = (y.ws.length : Int))) = true) fun S => ?_
    refine Qah S fun bs aa w S => ?_
    rw [decide_eq_false (fun q : x.ver = y.ver ∧ x.ws = y.ws => hn (by rw [q.2]))]
    exact Qan S (by kernel_rfl) (by kernel_rfl) fun hg => ⟨rfl, Qaq hg⟩
  refine Qab 18 S (by rw [decide_eq_true (by omega)]; rfl : (!decide ((x.ws.length : Int) = (y.ws.length : Int))) = false) fun S => ?_
  refine Qah S fun bs aa w S => ?_
  have S2 := S.to [0, 1] (onS x y 0) (by kernel_rfl) (by kernel_rfl) (by kernel_rfl) (by kernel_rfl) (by kernel_rfl)
  refine QaR (x.ws.length + 1) (by kernel_rfl) ?_
  refine Qag (k' := (.rnd (x.ws.length + 1) (Qa_ onC) :: onC.k.tail)) (by kernel_rfl) ?_
  exact on_a w0 x y hx hy hve hn h1 x.ws.length 0 (by omega) (fun i hi => absurd hi (Nat.not_lt_zero _)) _ _ aa w S2
end Go.Proofs.Ytfhmdlihnidjoaa
namespace Go.Proofs.Ytfhmdlihnidjoaa
set_option maxRecDepth 100000
set_option linter.unusedVariables false
set_option linter.unusedSectionVars false
set_option linter.unusedSimpArgs false
open Go.ChangeShapes Go.WideShapes Go.ChangeAt Go.RowKit Go.Deep
section
variable {H : Type} {enc : TypeId × Value → H} {W : World}
theorem Qmm : Try.prog.cellsOf 5 = 1 := by kernel_rfl
theorem open_bys {r : Reach} {b0 : Nat} {v : Value} {d : DataW H} {p : List MemPlace} (hv : Value.okWide Try.prog W r b0 48 v) (h : DataW.Trod enc Try.prog W 0 (fun _ => true) true 48 v d p) :
    ∃ l, Qeu W v l ∧ ∀ b ∈ l, b < 256 := by
  obtain ⟨a0, len0, cap0, rfl⟩ := okWide_slice Try.underlying48 hv
  obtain ⟨fuel, hf⟩ := h
  rcases open_ints Try.underlying48 Try.underlying5 Qmm hf with ⟨hcs, _⟩ | ⟨a, len, cap, zs, hcs, _, hl, hm, hz, _, hcell, hwf⟩
  · simp [Value.cells] at hcs
    obtain ⟨rfl, rfl, rfl⟩ := hcs
    exact ⟨[], ⟨none, 0, rfl, ⟨by simp, by simp, by simp, fun _ => rfl⟩, Or.inl rfl⟩, by simp⟩
  · simp [Value.cells] at hcs
    obtain ⟨rfl, rfl, rfl⟩ := hcs
    simp only [if_true] at hz
    have hb : ∀ n ∈ zs, 0 ≤ n ∧ n < 256 := fun n hn => by have := QiE (hwf n hn); omega
    have hlen : ((zs.take len0).map Int.toNat).length = len0 := by rw [List.length_map, List.length_take]; omega
    refine ⟨(zs.take len0).map Int.toNat, ⟨some a, cap0, by rw [hlen], ⟨by rw [hlen]; unfold maxLen at hm; omega, by rw [hlen]; exact hl, by unfold maxLen at hm; omega, fun h => by cases h⟩, ?_⟩, ?_⟩
    · by_cases h0 : len0 = 0
      · exact Or.inl (by rw [hlen]; exact h0)
      · obtain ⟨b, off, spot⟩ := a
        have hspot : spot = none := by simpa [Addr.add] using World.cell?_spot (hcell 0 (by omega))
        subst hspot
        refine Or.inr ⟨b, off, rfl, fun j hj => ?_⟩
        rw [hlen] at hj
        have h1 := hcell j (by omega)
        rw [add_plain] at h1
        rw [h1]
        have hjz : j < zs.length := by omega
        have h2 := hb zs[j] (List.getElem_mem hjz)
        simp [List.getD, hj, List.getElem?_eq_getElem hjz]
        omega
    · intro b hb'
      obtain ⟨n, hn, rfl⟩ := List.mem_map.1 hb'
      have := hb n (List.mem_of_mem_take hn)
      omega
end
end Go.Proofs.Ytfhmdlihnidjoaa
namespace Go.Proofs.Ytfhmdlihnidjoaa
set_option linter.unusedVariables false
set_option linter.unusedSectionVars false
set_option linter.unusedSimpArgs false
set_option maxRecDepth 100000
set_option maxHeartbeats 8000000
open Go Go.RowKit SZ
attribute [local irreducible] post GD Nxt Qai
theorem Qk3 {e : Et} (hf : QcD e.ver e.ws) : (QaC e.ver e.ws).length ≤ 25 := by
  cases hv : QaG e.ver e.ws with
  | false => rw [Qds hv]; exact Nat.zero_le _
  | true => rw [QaU hv, QbA]; exact (Qbh hf hv).2
def esV (es : List Et) : List Value := es.flatMap fun e => [.int .i64 e.ver, .slice e.a e.ws.length e.c]
theorem Qji (es : List Et) (e : Et) : esV (es ++ [e]) = esV es ++ [.int .i64 e.ver, .slice e.a e.ws.length e.c] := by simp [esV]
def prE (e : Et) : Int × Ws := (e.ver, e.ws)
def Qay (es : List Et) : RF := ⟨fun b => ∃ e ∈ es, b = e.b ∧ e.ws.length ≠ 0, fun w => ∀ e ∈ es, Qc8 w e.b e.o e.ws, fun w h b hb => by
  obtain ⟨e, he, rfl, hl⟩ := hb
  exact (QaN e.b e.o e.ws).lt w (h e he) e.b ⟨rfl, hl⟩, fun w w' h hb e he => (QaN e.b e.o e.ws).st w w' (h e he) fun b hq => hb b ⟨e, he, hq.1, hq.2⟩⟩
def Qdz : Nat → (List ByteArray) → Nat → Int → List (Int × Ws) × Nat
  | 0, _, k, _ => ([], k)
  | f + 1, l, k, last => match Qbo l k with
    | none => ([], k)
    | some (v, ws, n) => if v ≤ last then ([], k) else ((v, ws) :: (Qdz f l (k + n) v).1, (Qdz f l (k + n) v).2)
theorem QdV {f : Nat} {l : (List ByteArray)} {k : Nat} {last : Int} (h : Qbo l k = none) : Qdz (f + 1) l k last = ([], k) := by unfold Qdz; rw [h]
section
variable {f : Nat} {l : (List ByteArray)} {k n : Nat} {v last : Int} {ws : Ws} (h : Qbo l k = some (v, ws, n))
include f l k n v last ws h
theorem QiN (hv : v ≤ last) : Qdz (f + 1) l k last = ([], k) := by unfold Qdz; rw [h]; exact if_pos hv
theorem Qf_ (hv : ¬v ≤ last) : Qdz (f + 1) l k last = ((v, ws) :: (Qdz f l (k + n) v).1, (Qdz f l (k + n) v).2) := by
  conv => lhs; unfold Qdz
  rw [h]
  exact if_neg hv
end
def recP (w0 : World) (R : List (Int × Ws) × Nat) (y : Ending) (w' : World) : Prop := Below w0.heap.size w0 w' ∧ ∃ (es : List Et) (v : Value), y = .returned (.tuple #[v, .int .i64 (R.2 : Int)]) ∧ es.map prE = R.1 ∧ w'.ownsRow w0.heap.size 60 2 v es.length (esV es) ∧ (∀ e ∈ es, e.ok ∧ QcD e.ver e.ws ∧ (e.ws.length = 0 ∨ w0.heap.size ≤ e.b)) ∧ ∀ e ∈ es, Qc8 w' e.b e.o e.ws
noncomputable def rcC : Cfg := ⟨goZ 60 [] [.code (QaW Try.f29)], ⟨0, [], []⟩⟩
noncomputable def rcS (x : Sr) (ev : Value) (k : Nat) (last : Int) : SS := ⟨36, [(0, .v x.v), (4, .v ev), (5, .v (.int .i64 (k : Int))), (6, .v (.int .i64 last))], []⟩
theorem enI : (Try.prog.info? 60).map (fun i => (i.zero, i.size, i.bytes)) = some (some (.agg #[.int .i64 0, .slice none 0 0]), 2, 32) := by kernel_rfl
theorem parA_nat (l : (List ByteArray)) (k : Nat) : Qli l (k : Int) = Qbo l k := by unfold Qli; rw [if_neg (by omega), Int.toNat_natCast]
theorem ap_ny {F : List RF} {w : World} {v v' : Value} (hF : ∀ f ∈ F, f.P w) (hap : ∀ f ∈ F, ∀ g, v.ownBlock = some g → ¬f.bl g) (hnn : ∀ g, v'.ownBlock = some g → v.ownBlock = some g ∨ w.heap.size ≤ g) : ∀ f ∈ F, ∀ g, v'.ownBlock = some g → ¬f.bl g := fun f hf g hg hb => (hnn g hg).elim (fun q => hap f hf g q hb) (fun q => by have := f.lt w (hF f hf) g hb; omega)
theorem rc_s (w0 : World) (x : Sr) (hx : x.ok) (hc : x.l.length ≤ x.c) (hl : x.l.length ≤ 1000) (R : List (Int × Ws) × Nat) (f k : Nat) (hk : k ≤ x.l.length) (ih : ∀ (es : List Et) (ev : Value) (k : Nat) (last : Int) (hk : k ≤ x.l.length ∧ x.l.length - k < f) (hes : ∀ e ∈ es, e.ok ∧ QcD e.ver e.ws ∧ (e.ws.length = 0 ∨ w0.heap.size ≤ e.b)) (hel : (es).length ≤ k) (hap : (∀ f ∈ [Qaz x.b x.o x.l, Qay (es)], ∀ g, Value.ownBlock ev = some g → ¬f.bl g)) (hR : (es).map prE ++ (Qdz (f) x.l (k) last).1 = R.1 ∧ (Qdz (f) x.l (k) last).2 = R.2) (aa : Act) (w : World) (S : Sy w0 [] [] (rcS x ev (k) last) [Qaz x.b x.o x.l, Qay (es), Qaa w0.heap.size 60 2 ev (es).length (esV (es))] aa w), post Try.prog (.rnd (f) (Qa_ rcC) :: rcC.k.tail) (bodyPost Try.prog Try.f29 (recP w0 R)) .normal aa w) (hfu : x.l.length - k < f + 1) (es : List Et) (ev : Value) (last : Int) (hes : ∀ e ∈ es, e.ok ∧ QcD e.ver e.ws ∧ (e.ws.length = 0 ∨ w0.heap.size ≤ e.b)) (hel : (es).length ≤ k) (hap : (∀ f ∈ [Qaz x.b x.o x.l, Qay (es)], ∀ g, Value.ownBlock ev = some g → ¬f.bl g)) (hR : (es).map prE ++ (Qdz (f + 1) x.l (k) last).1 = R.1 ∧ (Qdz (f + 1) x.l (k) last).2 = R.2) (aa : Act) (w : World) (S : Sy w0 [] [] (rcS x ev (k) last) [Qaz x.b x.o x.l, Qay (es), Qaa w0.heap.size 60 2 ev (es).length (esV (es))] aa w) : post Try.prog (.rnd (f + 1) (Qa_ rcC) :: rcC.k.tail) (bodyPost Try.prog Try.f29 (recP w0 R)) .normal aa w := by
  obtain ⟨ii, hi1, hi2, hi3, hi4⟩ := Qc0 enI
  refine Qap (c := ⟨(.rnd (f + 1) (Qa_ rcC) :: rcC.k.tail), rcS x ev k last⟩) 3 50 2 S fun bs aa w S => ?_
  refine Qbq S fun bs S => ?_
  have hpar := parse_t w x.l x.a x.c x.b x.o hx hc hl (k : Int) (S.fact (f := Qaz x.b x.o x.l) (by simp))
  rw [parA_nat] at hpar
  have hblk : ∀ j, j < bs.length → bs.getD j 0 < w.heap.size := fun j hj => S.lt hj
  have hgs0 := S.gr.size
  have how0 := S.fact (f := Qaa w0.heap.size 60 2 ev (es).length (esV (es))) (by simp)
  rcases hp : Qbo x.l k with _ | ⟨v, ws, n⟩
  · rw [QdV hp] at hR
    refine QaJ S (args := #[x.v, .int .i64 (k : Int)]) (hpar.mono fun y w' h => ⟨by have h2 := h.2; rw [hp] at h2; exact h2, h.1⟩) (by kernel_rfl) fun aa w hb S => ?_
    refine Qah S fun bs aa w S => ?_
    have how := S.fact (f := Qaa w0.heap.size 60 2 ev (es).length (esV (es))) (by simp)
    have hew := S.fact (f := Qay es) (by simp)
    exact Qan S (by kernel_rfl) (by kernel_rfl) fun hg => ⟨Qaq hg, es, ev, by rw [← hR.2], by rw [← hR.1, List.append_nil], how, hes, hew⟩
  · obtain ⟨hfit, hvv, hn, hn1, hkl, hnl, htk⟩ := Qdd hp
    refine Qbg S (X := Et) (val := fun e => .tuple #[e.v, .int .i64 (n : Int), .int .i64 0]) (C := fun e w' => e.ver = v ∧ e.ws = ws ∧ e.ok ∧ Qc8 w' e.b e.o e.ws ∧ (e.ws.length = 0 ∨ w.heap.size ≤ e.b)) (args := #[x.v, .int .i64 (k : Int)]) (hpar.mono fun y w' h => by
      have h2 := h.2
      rw [hp] at h2
      obtain ⟨e, q1, q2, q3, q4, q5, q6⟩ := h2
      exact ⟨e, q4, ⟨q1, q2, q3, q5, q6⟩, h.1⟩) (by kernel_rfl) fun e aa w1 hC hb S => ?_
    obtain ⟨rfl, rfl, hok, hwr, hfr⟩ := hC
    have S := S.add (QaN e.b e.o e.ws) hwr (fun i hi hb => by
      obtain ⟨q1, q2⟩ := hb
      have := hblk i hi
      have := hfr.resolve_left q2
      omega)
    refine Qap 4 60 7 S fun bs aa w S => ?_
    by_cases hle : e.ver ≤ last
    · rw [QiN hp hle] at hR
      refine Qab 23 S (decide_eq_true hle) fun S => ?_
      refine Qah S fun bs aa w S => ?_
      have how := S.fact (f := Qaa w0.heap.size 60 2 ev (es).length (esV (es))) (by simp)
      have hew := S.fact (f := Qay es) (by simp)
      exact Qan S (by kernel_rfl) (by kernel_rfl) fun hg => ⟨Qaq hg, es, ev, by rw [← hR.2], by rw [← hR.1, List.append_nil], how, hes, hew⟩
    · rw [Qf_ hp hle] at hR
      refine Qab 23 S (decide_eq_false hle) fun S => ?_
      refine Qap 6 60 3 S fun bs aa w S => ?_
      refine Qbq S fun bs S => ?_
      have how := S.fact (f := Qaa w0.heap.size 60 2 ev (es).length (esV (es))) (by simp)
      have hapb := (S.fs (Qaa w0.heap.size 60 2 ev (es).length (esV (es))) (by simp)).2
      have hblk2 : ∀ j, j < bs.length → bs.getD j 0 < w.heap.size := fun j hj => S.lt hj
      have hFP : ∀ f ∈ [QaN e.b e.o e.ws, Qaz x.b x.o x.l, Qay es], f.P w := fun f hf => (S.fs f (by simp only [List.mem_cons, List.not_mem_nil, or_false] at hf ⊢; rcases hf with rfl | rfl | rfl <;> simp)).1
      have hap3 : ∀ f ∈ [QaN e.b e.o e.ws, Qaz x.b x.o x.l, Qay es], ∀ g, ev.ownBlock = some g → ¬f.bl g := by
        intro f hf g hg hb
        rcases List.mem_cons.1 hf with rfl | hf
        · have q1 := (how0.lt g hg).2
          have q2 := hfr.resolve_left hb.2
          have q3 := hb.1
          omega
        · exact hap f hf g hg hb
      have hel2 : es.length ≤ 1000 := by omega
      refine Qd_ w0.heap.size (u := .v ev) (y := .s 1 0 1 1) (v := ev) (ad := adr bs 1 0) (m := 1) (cp := 1) (n := es.length) (size := 2) (bytes := 32) (e := 60) (t := 38) (xs := esV es) (news := [.int .i64 e.ver, .slice e.a e.ws.length e.c]) [QaN e.b e.o e.ws, Qaz x.b x.o x.l, Qay es] S (by kernel_rfl) Try.underlying38 hi1 hi2 hi3 hi4 rfl (by omega) rfl rfl how S.gr.size (Qlk (P := Try.prog) (ty := 60) (cs := [.int .i64 e.ver, .slice e.a e.ws.length e.c]) S 1 (by kernel_rfl)) rfl (by intro u hu; simp only [List.mem_cons, List.not_mem_nil, or_false] at hu; rcases hu with rfl | rfl <;> rfl) (by simp only [maxLen]; omega) (by omega)
        (fun g hg => Or.inr (how.lt g hg).1) (fun f hf => ⟨by simp only [List.mem_cons, List.not_mem_nil, or_false] at hf ⊢; rcases hf with rfl | rfl | rfl <;> simp, hap3 f hf⟩) (fun j hj hb => hapb j hj hb)
        fun v' aa w2 hO hg' hnn S => ?_
      have hap4 := ap_ny hFP hap3 hnn
      have S := S.add (Qaa w0.heap.size 60 2 v' (es ++ [e]).length (esV (es ++ [e]))) (by rw [Qji, List.length_append]; exact hO) (fun j hj hb => (hnn _ hb).elim (fun q => hapb j hj q) (fun q => by have := hblk2 j hj; omega))
      have hw1 := S.fact (f := QaN e.b e.o e.ws) (by simp)
      have hw2 := S.fact (f := Qay es) (by simp)
      have ha1 := (S.fs (QaN e.b e.o e.ws) (by simp)).2
      have ha2 := (S.fs (Qay es) (by simp)).2
      have S := S.add (Qay (es ++ [e])) (by
        intro q hq
        rcases List.mem_append.1 hq with hq | hq
        · exact hw2 q hq
        · obtain rfl := List.mem_singleton.1 hq
          exact hw1) (fun j hj hb => by
        obtain ⟨q, hq, q1, q2⟩ := hb
        rcases List.mem_append.1 hq with hq | hq
        · exact ha2 j hj ⟨q, hq, q1, q2⟩
        · obtain rfl := List.mem_singleton.1 hq
          exact ha1 j hj ⟨q1, q2⟩)
      have hap5 : (∀ f ∈ [Qaz x.b x.o x.l, Qay (es ++ [e])], ∀ g, Value.ownBlock v' = some g → ¬f.bl g) := by
        intro f hf g hg hb
        simp only [List.mem_cons, List.not_mem_nil, or_false] at hf
        rcases hf with rfl | rfl
        · exact hap4 _ (by simp) g hg hb
        · obtain ⟨q, hq, q1, q2⟩ := hb
          rcases List.mem_append.1 hq with hq | hq
          · exact hap4 (Qay es) (by simp) g hg ⟨q, hq, q1, q2⟩
          · obtain rfl := List.mem_singleton.1 hq
            exact hap4 (QaN q.b q.o q.ws) (by simp) g hg ⟨q1, q2⟩
      refine Qap 7 60 3 S fun bs aa w S => ?_
      refine QaB 33 S (by rw [IntKind.wrap_i64]; omega : IntKind.i64.wrap ((k : Int) + (n : Int)) = ((k + n : Nat) : Int)) fun S => ?_
      refine Qaj ⟨0, [999]⟩ 60 S fun bs aa w S => ?_
      have S := S.sub (F' := [Qaz x.b x.o x.l, Qay (es ++ [e]), Qaa w0.heap.size 60 2 v' (es ++ [e]).length (esV (es ++ [e]))]) (by intro f hf; simp only [List.mem_cons, List.not_mem_nil, or_false] at hf; rcases hf with rfl | rfl | rfl <;> simp)
      have S2 := S.to [] (rcS x v' (k + n) e.ver) (by kernel_rfl) (by kernel_rfl) (by kernel_rfl) (by kernel_rfl) (by kernel_rfl)
      refine Qag (k' := (.rnd (f) (Qa_ rcC) :: rcC.k.tail)) (by kernel_rfl) ?_
      exact ih (es ++ [e]) v' (k + n) e.ver ⟨by omega, by omega⟩ (by
        intro q hq
        rcases List.mem_append.1 hq with hq | hq
        · exact hes q hq
        · obtain rfl := List.mem_singleton.1 hq
          exact ⟨hok, hfit, hfr.imp id fun z => by omega⟩) (by rw [List.length_append]; show es.length + 1 ≤ _; omega) hap5 ⟨by rw [← hR.1]; simp [prE], hR.2⟩ aa w S2
theorem rc_a (w0 : World) (x : Sr) (hx : x.ok) (hc : x.l.length ≤ x.c) (hl : x.l.length ≤ 1000) (R : List (Int × Ws) × Nat) : ∀ (f : Nat) (es : List Et) (ev : Value) (k : Nat) (last : Int) (hk : k ≤ x.l.length ∧ x.l.length - k < f) (hes : ∀ e ∈ es, e.ok ∧ QcD e.ver e.ws ∧ (e.ws.length = 0 ∨ w0.heap.size ≤ e.b)) (hel : (es).length ≤ k) (hap : (∀ f ∈ [Qaz x.b x.o x.l, Qay (es)], ∀ g, Value.ownBlock ev = some g → ¬f.bl g)) (hR : (es).map prE ++ (Qdz (f) x.l (k) last).1 = R.1 ∧ (Qdz (f) x.l (k) last).2 = R.2) (aa : Act) (w : World) (S : Sy w0 [] [] (rcS x ev (k) last) [Qaz x.b x.o x.l, Qay (es), Qaa w0.heap.size 60 2 ev (es).length (esV (es))] aa w), post Try.prog (.rnd (f) (Qa_ rcC) :: rcC.k.tail) (bodyPost Try.prog Try.f29 (recP w0 R)) .normal aa w
  | 0, es, ev, k, last, hk, hes, hel, hap, hR, aa, w, S => by omega
  | f + 1, es, ev, k, last, hk, hes, hel, hap, hR, aa, w, S => rc_s w0 x hx hc hl R f k hk.1 (rc_a w0 x hx hc hl R f) hk.2 es ev last hes hel hap hR aa w S
theorem Qk1 (w0 : World) (x : Sr) (hx : x.ok) (hc : x.l.length ≤ x.c) (hl : x.l.length ≤ 1000) (hA : x.at w0) : Calls Try.prog 29 #[x.v] w0 (recP w0 (Qdz (x.l.length + 1) x.l 0 0)) := by
  refine Qas [] [Qaz x.b x.o x.l] (by intro f hf; simp only [List.mem_singleton] at hf; subst hf; exact hA) Try.func29 rfl rfl fun aa S => ?_
  refine Qah S fun bs aa w S => ?_
  have S := S.add (Qaa w0.heap.size 60 2 (.slice none 0 0) (([] : List Et)).length (esV (([] : List Et)))) (World.ownsRow_nil _ _ _ _) (fun i hi h => by cases h)
  have S := S.add (Qay []) (fun e he => by cases he) (fun i hi h => by obtain ⟨e, he, _⟩ := h; cases he)
  have S := S.sub (F' := [Qaz x.b x.o x.l, Qay (([] : List Et)), Qaa w0.heap.size 60 2 (.slice none 0 0) (([] : List Et)).length (esV (([] : List Et)))]) (by intro f hf; simp only [List.mem_cons, List.not_mem_nil, or_false] at hf; rcases hf with rfl | rfl | rfl <;> simp)
  have S2 := S.to [] (rcS x (.slice none 0 0) 0 0) (by kernel_rfl) (by kernel_rfl) (by kernel_rfl) (by kernel_rfl) (by kernel_rfl)
  refine QaR (x.l.length + 1) (by kernel_rfl) ?_
  refine Qag (k' := (.rnd (x.l.length + 1) (Qa_ rcC) :: rcC.k.tail)) (by kernel_rfl) ?_
  exact rc_a w0 x hx hc hl _ (x.l.length + 1) [] (.slice none 0 0) 0 0 ⟨by omega, by omega⟩ (fun e he => by cases he) (by simp) (fun f hf g hg => by cases hg) ⟨by simp, rfl⟩ aa w S2
theorem QdS (a b : List Nat) : QaO a ++ QaO b = QaO (a ++ b) := by
  apply ByteArray.ext
  rw [ByteArray.data_append]
  simp [QaO]
theorem Qbs (a : List Nat) : (QaO a).size = a.length := by
  show (List.toArray (a.map UInt8.ofNat)).size = _
  simp
theorem QhH (a : List Nat) (i j : Nat) : (QaO a).extract i j = QaO ((a.drop i).take (j - i)) := by
  apply ByteArray.ext
  rw [ByteArray.data_extract]
  unfold QaO
  apply Array.ext'
  rw [Array.toList_extract, List.extract_eq_take_drop]
  simp [List.map_take, List.map_drop]
noncomputable def p1C : Cfg := ⟨goZ 60 [0] [.code (QaW Try.f24)], ⟨0, [], []⟩⟩
noncomputable def p2C : Cfg := ⟨goZ 60 [0, 9] [.code (QaW Try.f24)], ⟨0, [], []⟩⟩
noncomputable def p3C : Cfg := ⟨goZ 60 [0, 9, 9] [.code (QaW Try.f24)], ⟨0, [], []⟩⟩
noncomputable def p1S (e : Et) (v : Value) (j : Nat) : SS := ⟨99, [(1, .p 0 0), (4, .v v), (5, .v (.int .i64 (j : Int)))], [⟨60, e.cs⟩]⟩
noncomputable def p2S (l : List Nat) (j : Nat) : SS := ⟨99, [(6, .v (.string (QaO (l ++ List.replicate j 0))))], []⟩
noncomputable def p3S (l : List Nat) (n : Nat) (v : Value) (i : Nat) : SS := ⟨99, [(6, .v (.string (QaO l))), (7, .v (.int .i64 (n : Int))), (8, .v v), (9, .v (.int .i64 (i : Int)))], []⟩
theorem tmod27 (n : Nat) : Int.tmod (n : Int) 27 = ((n % 27 : Nat) : Int) := (Int.ofNat_tmod _ 27).symm
theorem tdiv27 (n : Nat) (h : n ≤ 25) : IntKind.i64.wrap (Int.tdiv ((27 * n : Nat) : Int) 27) = (n : Int) := by
  rw [show Int.tdiv ((27 * n : Nat) : Int) 27 = ((27 * n / 27 : Nat) : Int) from (Int.ofNat_tdiv _ 27).symm, IntKind.wrap_i64]
  omega
theorem le_a (A : Nat) (h : A < 4294967296) : IntKind.u8.wrap (Int.tmod (A : Int) 256) = ((A % 256 : Nat) : Int) := by
  rw [show Int.tmod (A : Int) 256 = ((A % 256 : Nat) : Int) from (Int.ofNat_tmod _ 256).symm, IntKind.wrap_u8]
  omega
theorem le_b (A d : Nat) (h : A < 4294967296) (hd : 0 < d) : IntKind.u8.wrap (Int.tmod (IntKind.i64.wrap (Int.tdiv (A : Int) (d : Int))) 256) = ((A / d % 256 : Nat) : Int) := by
  have e1 : Int.tdiv (A : Int) (d : Int) = ((A / d : Nat) : Int) := (Int.ofNat_tdiv _ _).symm
  have hq : A / d ≤ A := Nat.div_le_self _ _
  rw [e1]
  generalize A / d = q at *
  have e2 : IntKind.i64.wrap ((q : Nat) : Int) = ((q : Nat) : Int) := by rw [IntKind.wrap_i64]; omega
  rw [e2, show Int.tmod ((q : Nat) : Int) 256 = ((q % 256 : Nat) : Int) from (Int.ofNat_tmod _ 256).symm, IntKind.wrap_u8]
  omega
theorem le_c (A : Nat) (h : A < 4294967296) : IntKind.u8.wrap (IntKind.i64.wrap (Int.tdiv (A : Int) 16777216)) = ((A / 16777216 % 256 : Nat) : Int) := by
  have e1 : Int.tdiv (A : Int) 16777216 = ((A / 16777216 : Nat) : Int) := (Int.ofNat_tdiv _ 16777216).symm
  rw [e1]
  have hq := Nat.div_le_self A 16777216
  generalize A / 16777216 = q at *
  have e2 : IntKind.i64.wrap ((q : Nat) : Int) = ((q : Nat) : Int) := by rw [IntKind.wrap_i64]; omega
  rw [e2, IntKind.wrap_u8]
  omega
theorem pad_part (l : List Nat) (n i : Nat) (hn : n = Qau l) (hi : i < n) : (((l ++ List.replicate (27 * n - l.length) 0)).drop (27 * i)).take 27 = Qg2 (Qbd l i) := by
  subst hn
  have hge := Qei l
  have hlt : 27 * Qau l < l.length + 27 := by unfold Qau; omega
  have hi2 : 27 * i < l.length := by unfold Qau at hi; omega
  unfold Qg2
  rw [Qdt, List.drop_append_of_le_length (by omega), List.take_append]
  unfold Qbd
  rw [List.take_replicate, List.length_drop]
  congr 2
  omega
theorem Qk_ (f : Nat) (p : List Nat) : [f] ++ Qg2 p = Qa1 f p := rfl
theorem sec_app (f : Nat) (p : List Nat) : Qa1 f p ++ le4 (Qb0 (Qa1 f p)) = sec f p := rfl
section
variable (w0 : World) (e : Et) (hg : e.ok) (hf : QcD e.ver e.ws) (hv : QaG e.ver e.ws = true)
include w0 e hg hf hv
section
variable (l : List Nat) (hL : l = QbB e.ver e.ws)
include l hL
theorem p3_e (n : Nat) (hn : n = Qau l) (m : Nat) (v : Value) (aa : Act) (w : World) (S : Sy w0 [] [] (p3S (l ++ List.replicate (27 * n - l.length) 0) n v (n)) [Qaa w0.heap.size 9 1 v (n) (reS l (n))] aa w) : post Try.prog (.rnd (m + 1) (Qa_ p3C) :: p3C.k.tail) (bodyPost Try.prog Try.f24 fun y w' => ∃ v, y = .returned v ∧ w'.ownsRow w0.heap.size 9 1 v (QaC e.ver e.ws).length ((QaC e.ver e.ws).map Value.string) ∧ Below w0.heap.size w0 w') .normal aa w := by
  refine Qap (c := ⟨(.rnd (m + 1) (Qa_ p3C) :: p3C.k.tail), p3S (l ++ List.replicate (27 * n - l.length) 0) n v n⟩) 15 50 3 S fun bs aa w S => ?_
  refine Qab 57 S (decide_eq_false (by omega) : decide ((n : Int) < (n : Int)) = false) fun S => ?_
  refine Qah S fun bs aa w S => ?_
  have ho := S.fact (f := Qaa w0.heap.size 9 1 v (n) (reS l (n))) (by simp)
  have e1 : QaC e.ver e.ws = QhV l := by rw [QaU hv, hL]
  have e2 : reS l n = (QhV l).map Value.string := by unfold reS; rw [List.take_of_length_le (by rw [QbA, hn]; exact Nat.le_refl _)]
  rw [e2] at ho
  exact Qan S (by kernel_rfl) (by kernel_rfl) fun hg => ⟨v, rfl, by rw [e1, QbA, ← hn]; exact ho, Qaq hg⟩
theorem p3_s (n : Nat) (hn : n = Qau l) (m i : Nat) (hi : i < n) (ih : ∀ (v : Value) (aa : Act) (w : World) (S : Sy w0 [] [] (p3S (l ++ List.replicate (27 * n - l.length) 0) n v (i + 1)) [Qaa w0.heap.size 9 1 v (i + 1) (reS l (i + 1))] aa w), post Try.prog (.rnd (m) (Qa_ p3C) :: p3C.k.tail) (bodyPost Try.prog Try.f24 fun y w' => ∃ v, y = .returned v ∧ w'.ownsRow w0.heap.size 9 1 v (QaC e.ver e.ws).length ((QaC e.ver e.ws).map Value.string) ∧ Below w0.heap.size w0 w') .normal aa w) (v : Value) (aa : Act) (w : World) (S : Sy w0 [] [] (p3S (l ++ List.replicate (27 * n - l.length) 0) n v (i)) [Qaa w0.heap.size 9 1 v (i) (reS l (i))] aa w) : post Try.prog (.rnd (m + 1) (Qa_ p3C) :: p3C.k.tail) (bodyPost Try.prog Try.f24 fun y w' => ∃ v, y = .returned v ∧ w'.ownsRow w0.heap.size 9 1 v (QaC e.ver e.ws).length ((QaC e.ver e.ws).map Value.string) ∧ Below w0.heap.size w0 w') .normal aa w := by
  have hm25 : n ≤ 25 := by rw [hn, hL]; exact (Qbh hf hv).2
  have hlb : ∀ b ∈ l, b < 256 := by rw [hL]; exact QbO _ _
  have hge : l.length ≤ 27 * n := by rw [hn]; exact Qei l
  have hpb := Qbu hlb i
  have hpl := Qdc l i
  have hll : ((l ++ List.replicate (27 * n - l.length) 0)).length = 27 * n := by rw [List.length_append, List.length_replicate]; omega
  obtain ⟨ii, hi1, hi2, hi3, hi4⟩ := Qc0 infS3
  refine Qap (c := ⟨(.rnd (m + 1) (Qa_ p3C) :: p3C.k.tail), p3S (l ++ List.replicate (27 * n - l.length) 0) n v i⟩) 15 50 3 S fun bs aa w S => ?_
  refine Qab 57 S (decide_eq_true (by omega) : decide ((i : Int) < (n : Int)) = true) fun S => ?_
  refine Qah S fun bs aa w S => ?_
  obtain ⟨E, hE⟩ : ∃ E, E = IntKind.u8.wrap (IntKind.i64.wrap (IntKind.i64.wrap ((n : Int) - 1) - (i : Int))) := ⟨_, rfl⟩
  have eE : E = ((n - 1 - i : Nat) : Int) := by rw [hE, IntKind.wrap_u8, IntKind.wrap_i64, IntKind.wrap_i64]; omega
  have hsl : ∀ W, (Instr.sliceAt 9 (.string (QaO (l ++ List.replicate (27 * n - l.length) 0))) (some (.int .i64 (IntKind.i64.wrap (27 * (i : Int))))) (some (.int .i64 (IntKind.i64.wrap (IntKind.i64.wrap (27 * (i : Int)) + 27)))) none).run Try.prog W = .ok (.string (QaO (Qg2 (Qbd l i)))) W := fun W => by
    have e1 : IntKind.i64.wrap (27 * (i : Int)) = ((27 * i : Nat) : Int) := by rw [IntKind.wrap_i64]; omega
    have e2 : IntKind.i64.wrap (((27 * i : Nat) : Int) + 27) = ((27 * i + 27 : Nat) : Int) := by rw [IntKind.wrap_i64]; omega
    have hu : Try.prog.underlying 9 = some .string := Try.underlying9
    rw [e1, e2, run_sliceAt_string W _ _ _ _ _ hu, run_slice_string W 9 _ .i64 .i64 _ _ hu (by omega) (by omega) (by rw [Qbs, hll]; omega), Int.toNat_natCast, Int.toNat_natCast, QhH, show 27 * i + 27 - 27 * i = 27 by omega, pad_part l n i hn hi]
  letI : KP := ⟨[73, 74]⟩
  letI : HF := ⟨[]⟩
  refine QaF [] (by kernel_rfl) (by kernel_rfl) S (by kernel_rfl) (fun aa w D => ?_) (fun f hf => by cases hf)
  refine Qbj (fun d v c a w h => by cases d <;> exact h) 13 (op := .slice 9 (.tmp 67) (some (.tmp 69)) (some (.tmp 72)) none) (ty := 9) (v := .string (QaO (Qg2 (Qbd l i)))) D (by kernel_rfl) (by kernel_rfl) (by kernel_rfl) (by kernel_rfl) (Qhi (p := QaO (l ++ List.replicate (27 * n - l.length) 0)) (l2 := some (.v (.int .i64 (IntKind.i64.wrap (27 * (i : Int)))))) (h2 := some (.v (.int .i64 (IntKind.i64.wrap (IntKind.i64.wrap (27 * (i : Int)) + 27))))) Try.underlying9 (by kernel_rfl) (by kernel_rfl) (by kernel_rfl) hsl) fun aa D => ?_
  refine Qac [5] (by kernel_rfl) (by kernel_rfl) rfl (na1 ?_)
  refine Qbr 5 D (by kernel_rfl) (Nat.le_refl _) (by kernel_rfl) (by kernel_rfl) fun bs aa w D hl => ?_
  refine Qac [6] (by kernel_rfl) (by kernel_rfl) rfl (na1 ?_)
  have hbx := D.S.bx 0 ⟨5, [.int .u8 (IntKind.u8.wrap (IntKind.i64.wrap (IntKind.i64.wrap ((n : Int) - 1) - (i : Int))))]⟩ (by kernel_rfl)
  rw [← hE, eE] at hbx
  have hHB := Qd3 (o := 0) (c := 1) (l := [n - 1 - i]) hbx (fun j hj => by
    have hj1 : j < 1 := hj
    obtain rfl : j = 0 := by omega
    rfl) (show 1 ≤ 1 by decide) (by decide)
  refine QdB 6 D (by kernel_rfl) (op := .convert 48 9 (.tmp 65)) (ty := 9) (C := fun v _ => v = .string (QaO [n - 1 - i])) (by kernel_rfl) (fun o ρ h1 h2 h3 => ⟨_, _, Qj4 (y := .s 0 0 1 1) (l := [n - 1 - i]) (by kernel_rfl) rfl (by intro b hb; simp only [List.mem_singleton] at hb; omega) hHB o ρ h1 h2 h3, rfl, Below.refl _ _⟩) fun v0 aa w2 hC hb hlt D => ?_
  obtain rfl := hC
  refine Qbj (fun d v c a w h => by cases d <;> exact h) 14 (op := .binOp .add 9 (.tmp 66) (.tmp 73) 9) (ty := 9) (v := .string (QaO (Qa1 (n - 1 - i) (Qbd l i)))) D (by kernel_rfl) (by kernel_rfl) (by kernel_rfl) (by kernel_rfl) (fun o ρ W g1 g2 g3 => by
    have h := Qhj (P := Try.prog) (x := .tmp 66) (y := .tmp 73) (t := 9) (t' := 9) (ty := 9) (p := QaO [n - 1 - i]) (q := QaO (Qg2 (Qbd l i))) Try.underlying9 (by kernel_rfl) (by kernel_rfl) (by rw [Qbs, Qbs, Qgm hpl]; show 1 + 27 ≤ 9223372036854775807; decide) o ρ W g1 g2 g3
    rw [QdS, Qk_] at h
    exact h) fun aa D => ?_
  refine QaM D (by kernel_rfl) fun S => ?_
  refine Qap 18 60 1 S fun bs aa w S => ?_
  have hbb := Qcs (f := n - 1 - i) (by omega) hpb
  have hbl28 := QbD (f := n - 1 - i) hpl
  have hA : Qb0 (Qaf (QaO (Qa1 (n - 1 - i) (Qbd l i)))) = Qb0 (Qa1 (n - 1 - i) (Qbd l i)) := by rw [QbC _ hbb]
  obtain ⟨A, eA⟩ : ∃ A, A = Qb0 (Qa1 (n - 1 - i) (Qbd l i)) := ⟨_, rfl⟩
  have hA2 := Qf5 (Qa1 (n - 1 - i) (Qbd l i))
  have hA3 : A < 4294967296 := by rw [eA]; unfold Qb0; omega
  refine QaJ S (by have h := rsum_t w (QaO (Qa1 (n - 1 - i) (Qbd l i))) (by rw [Qbs, hbl28]; decide); rw [hA, ← eA] at h; exact h) (by kernel_rfl) fun aa w hb S => ?_
  refine Qap 19 60 5 S fun bs aa w S => ?_
  refine Qco 81 S (congrArg (Value.int .u8) (le_a A hA3)) (by kernel_rfl) fun S => ?_
  refine Qad 4 S fun bs aa w S => ?_
  refine Qco 85 S (congrArg (Value.int .u8) (le_b A 256 hA3 (by decide))) (by kernel_rfl) fun S => ?_
  refine Qad 4 S fun bs aa w S => ?_
  refine Qco 89 S (congrArg (Value.int .u8) (le_b A 65536 hA3 (by decide))) (by kernel_rfl) fun S => ?_
  refine Qad 3 S fun bs aa w S => ?_
  refine Qco 92 S (congrArg (Value.int .u8) (le_c A hA3)) (by kernel_rfl) fun S => ?_
  refine Qad 1 S fun bs aa w S => ?_
  refine Qbq S fun bs S => ?_
  have hbx4 := S.bx 1 ⟨5, [.int .u8 ((A % 256 : Nat) : Int), .int .u8 ((A / 256 % 256 : Nat) : Int), .int .u8 ((A / 65536 % 256 : Nat) : Int), .int .u8 ((A / 16777216 % 256 : Nat) : Int)]⟩ (by kernel_rfl)
  have hHB4 := Qd3 (o := 0) (c := 4) (l := le4 A) hbx4 (fun j hj => by
    have hj4 : j < 4 := hj
    have : j = 0 ∨ j = 1 ∨ j = 2 ∨ j = 3 := by omega
    rcases this with rfl | rfl | rfl | rfl <;> rfl) (show 4 ≤ 4 by decide) (by decide)
  refine QgT S (op := .convert 48 9 (.tmp 93)) (ty := 9) (v := .string (QaO (le4 A))) (by kernel_rfl) (Qj4 (y := .s 1 0 4 4) (by kernel_rfl) rfl (Qi3 A) hHB4) fun aa S => ?_
  refine QcC (op := .binOp .add 9 (.tmp 78) (.tmp 94) 9) (ty := 9) (v := .string (QeI (n - 1 - i) (Qbd l i))) S (by kernel_rfl) (fun o ρ W g1 g2 g3 => by
    have h := Qhj (P := Try.prog) (x := .tmp 78) (y := .tmp 94) (t := 9) (t' := 9) (ty := 9) (p := QaO (Qa1 (n - 1 - i) (Qbd l i))) (q := QaO (le4 A)) Try.underlying9 (by kernel_rfl) (by kernel_rfl) (by rw [Qbs, Qbs, hbl28]; show 28 + 4 ≤ _; decide) o ρ W g1 g2 g3
    rw [QdS, eA, sec_app] at h
    exact h) fun aa S => ?_
  refine Qad 1 S fun bs aa w S => ?_
  refine Qbq S fun bs S => ?_
  have how := S.fact (f := Qaa w0.heap.size 9 1 v (i) (reS l (i))) (by simp)
  have hap := (S.fs (Qaa w0.heap.size 9 1 v (i) (reS l (i))) (by simp)).2
  have hblk : ∀ j, j < bs.length → bs.getD j 0 < w.heap.size := fun j hj => S.lt hj
  refine Qd_ w0.heap.size (u := .v v) (y := .s 2 0 1 1) (v := v) (ad := adr bs 2 0) (m := 1) (cp := 1) (n := i) (size := 1) (bytes := 16) (e := 9) (t := 27) (xs := reS l i) (news := [.string (QeI (n - 1 - i) (Qbd l i))]) [] S (by kernel_rfl) Try.underlying27 hi1 hi2 hi3 hi4 rfl (by omega) rfl rfl how S.gr.size (Qlk (P := Try.prog) (ty := 9) (cs := [.string (QeI (n - 1 - i) (Qbd l i))]) S 2 (by kernel_rfl)) rfl (by intro u hu; simp only [List.mem_singleton] at hu; subst hu; rfl) (by simp only [maxLen]; omega) (by omega)
    (fun g hg => Or.inr (how.lt g hg).1) (fun f hf => by cases hf) (fun j hj hb => hap j hj hb)
    fun v' aa w2 hO hg hnn S => ?_
  have S := S.add (Qaa w0.heap.size 9 1 v' (i + 1) (reS l (i + 1))) (by rw [QiO l i (by omega), ← hn]; exact hO) (fun j hj hb => (hnn _ hb).elim (fun q => hap j hj q) (fun q => by have := hblk j hj; omega))
  refine Qap 16 60 2 S fun bs aa w S => ?_
  refine QaB 59 S (by rw [IntKind.wrap_i64]; omega : IntKind.i64.wrap ((i : Int) + 1) = ((i + 1 : Nat) : Int)) fun S => ?_
  refine Qaj ⟨0, [999]⟩ 50 S fun bs aa w S => ?_
  have S2 := S.to [] (p3S (l ++ List.replicate (27 * n - l.length) 0) n v' (i + 1)) (by kernel_rfl) (by kernel_rfl) (by kernel_rfl) (by kernel_rfl) (by kernel_rfl)
  refine Qag (k' := (.rnd (m) (Qa_ p3C) :: p3C.k.tail)) (by kernel_rfl) ?_
  exact ih v' aa w S2
theorem p3_a (n : Nat) (hn : n = Qau l) : ∀ (r i : Nat), i + r = n → ∀ (v : Value) (aa : Act) (w : World) (S : Sy w0 [] [] (p3S (l ++ List.replicate (27 * n - l.length) 0) n v (i)) [Qaa w0.heap.size 9 1 v (i) (reS l (i))] aa w), post Try.prog (.rnd (r + 1) (Qa_ p3C) :: p3C.k.tail) (bodyPost Try.prog Try.f24 fun y w' => ∃ v, y = .returned v ∧ w'.ownsRow w0.heap.size 9 1 v (QaC e.ver e.ws).length ((QaC e.ver e.ws).map Value.string) ∧ Below w0.heap.size w0 w') .normal aa w := by
  intro r
  induction r with
  | zero => intro i hi v aa w S; obtain rfl : n = i := by omega
            exact p3_e w0 e hg hf hv l hL n hn 0 v aa w S
  | succ r ih => intro i hi v aa w S; exact p3_s w0 e hg hf hv l hL n hn (r + 1) i (by omega) (fun v => ih (i + 1) (by omega) v) v aa w S
theorem p2_e (m : Nat) (aa : Act) (w : World) (S : Sy w0 [] [] (p2S l ((27 * Qau l - l.length))) [] aa w) : post Try.prog (.rnd (m + 1) (Qa_ p2C) :: p2C.k.tail) (bodyPost Try.prog Try.f24 fun y w' => ∃ v, y = .returned v ∧ w'.ownsRow w0.heap.size 9 1 v (QaC e.ver e.ws).length ((QaC e.ver e.ws).map Value.string) ∧ Below w0.heap.size w0 w') .normal aa w := by
  have hge := Qei l
  have hm25 : Qau l ≤ 25 := by rw [hL]; exact (Qbh hf hv).2
  refine Qap (c := ⟨(.rnd (m + 1) (Qa_ p2C) :: p2C.k.tail), p2S l (27 * Qau l - l.length)⟩) 10 50 2 S fun bs aa w S => ?_
  refine QaB 45 S (by rw [Qbs, List.length_append, List.length_replicate] : (((QaO (l ++ List.replicate (27 * Qau l - l.length) 0)).size : Nat) : Int) = ((l.length + (27 * Qau l - l.length) : Nat) : Int)) fun S => ?_
  refine Qad 2 S fun bs aa w S => ?_
  refine Qab 47 S (by rw [tmod27, decide_eq_true (by omega)]; rfl : (!decide (Int.tmod ((l.length + (27 * Qau l - l.length) : Nat) : Int) 27 = 0)) = false) fun S => ?_
  refine Qap 12 60 2 S fun bs aa w S => ?_
  refine QaB 53 S (by rw [Qbs, List.length_append, List.length_replicate]; omega : (((QaO (l ++ List.replicate (27 * Qau l - l.length) 0)).size : Nat) : Int) = ((27 * Qau l : Nat) : Int)) fun S => ?_
  refine Qad 1 S fun bs aa w S => ?_
  refine QaB 54 S (tdiv27 (Qau l) hm25 : IntKind.i64.wrap (Int.tdiv ((27 * Qau l : Nat) : Int) 27) = ((Qau l : Nat) : Int)) fun S => ?_
  refine Qah S fun bs aa w S => ?_
  have S := S.add (Qaa w0.heap.size 9 1 (.slice none 0 0) (0) (reS l (0))) (World.ownsRow_nil _ _ _ _) (fun i hi h => by cases h)
  have S2 := S.to [] (p3S (l ++ List.replicate (27 * Qau l - l.length) 0) (Qau l) (.slice none 0 0) 0) (by kernel_rfl) (by kernel_rfl) (by kernel_rfl) (by kernel_rfl) (by kernel_rfl)
  refine QaR (Qau l + 1) (by kernel_rfl) ?_
  refine Qag (k' := (.rnd (Qau l + 1) (Qa_ p3C) :: p3C.k.tail)) (by kernel_rfl) ?_
  exact p3_a w0 e hg hf hv l hL (Qau l) rfl (Qau l) 0 (by omega) (.slice none 0 0) aa w S2
theorem p2_s (m j : Nat) (hj : j < (27 * Qau l - l.length)) (ih : ∀ (aa : Act) (w : World) (S : Sy w0 [] [] (p2S l (j + 1)) [] aa w), post Try.prog (.rnd (m) (Qa_ p2C) :: p2C.k.tail) (bodyPost Try.prog Try.f24 fun y w' => ∃ v, y = .returned v ∧ w'.ownsRow w0.heap.size 9 1 v (QaC e.ver e.ws).length ((QaC e.ver e.ws).map Value.string) ∧ Below w0.heap.size w0 w') .normal aa w) (aa : Act) (w : World) (S : Sy w0 [] [] (p2S l (j)) [] aa w) : post Try.prog (.rnd (m + 1) (Qa_ p2C) :: p2C.k.tail) (bodyPost Try.prog Try.f24 fun y w' => ∃ v, y = .returned v ∧ w'.ownsRow w0.heap.size 9 1 v (QaC e.ver e.ws).length ((QaC e.ver e.ws).map Value.string) ∧ Below w0.heap.size w0 w') .normal aa w := by
  have hm25 : Qau l ≤ 25 := by rw [hL]; exact (Qbh hf hv).2
  have hlt : 27 * Qau l < l.length + 27 := by unfold Qau; omega
  refine Qap (c := ⟨(.rnd (m + 1) (Qa_ p2C) :: p2C.k.tail), p2S l j⟩) 10 50 2 S fun bs aa w S => ?_
  refine QaB 45 S (by rw [Qbs, List.length_append, List.length_replicate] : (((QaO (l ++ List.replicate j 0)).size : Nat) : Int) = ((l.length + j : Nat) : Int)) fun S => ?_
  refine Qad 2 S fun bs aa w S => ?_
  refine Qab 47 S (by rw [tmod27, decide_eq_false (by omega)]; rfl : (!decide (Int.tmod ((l.length + j : Nat) : Int) 27 = 0)) = true) fun S => ?_
  refine Qap 11 60 2 S fun bs aa w S => ?_
  refine Qbq S fun bs S => ?_
  have hbx := S.bx 0 ⟨5, [.int .u8 0]⟩ (by kernel_rfl)
  have hHB := Qd3 (o := 0) (c := 1) (l := [0]) hbx (fun j hj => by
    have hj1 : j < 1 := hj
    obtain rfl : j = 0 := by omega
    rfl) (show 1 ≤ 1 by decide) (by decide)
  refine QgT S (op := .convert 48 9 (.tmp 49)) (ty := 9) (v := .string (QaO [0])) (by kernel_rfl) (Qj4 (y := .s 0 0 1 1) (l := [0]) (by kernel_rfl) rfl (by intro b hb; simp only [List.mem_singleton] at hb; omega) hHB) fun aa S => ?_
  refine QcC (op := .binOp .add 9 (.tmp 48) (.tmp 50) 9) (ty := 9) (v := .string (QaO (l ++ List.replicate (j + 1) 0))) S (by kernel_rfl) (fun o ρ W g1 g2 g3 => by
    have h := Qhj (P := Try.prog) (x := .tmp 48) (y := .tmp 50) (t := 9) (t' := 9) (ty := 9) (p := QaO (l ++ List.replicate j 0)) (q := QaO [0]) Try.underlying9 (by kernel_rfl) (by kernel_rfl) (by rw [Qbs, Qbs, List.length_append, List.length_replicate]; show _ + 1 ≤ _; omega) o ρ W g1 g2 g3
    rw [QdS, List.append_assoc, ← List.replicate_succ'] at h
    exact h) fun aa S => ?_
  refine Qaj ⟨0, [999]⟩ 60 S fun bs aa w S => ?_
  have S2 := S.to [] (p2S l (j + 1)) (by kernel_rfl) (by kernel_rfl) (by kernel_rfl) (by kernel_rfl) (by kernel_rfl)
  refine Qag (k' := (.rnd (m) (Qa_ p2C) :: p2C.k.tail)) (by kernel_rfl) ?_
  exact ih aa w S2
theorem p2_a : ∀ (r j : Nat), j + r = (27 * Qau l - l.length) → ∀ (aa : Act) (w : World) (S : Sy w0 [] [] (p2S l (j)) [] aa w), post Try.prog (.rnd (r + 1) (Qa_ p2C) :: p2C.k.tail) (bodyPost Try.prog Try.f24 fun y w' => ∃ v, y = .returned v ∧ w'.ownsRow w0.heap.size 9 1 v (QaC e.ver e.ws).length ((QaC e.ver e.ws).map Value.string) ∧ Below w0.heap.size w0 w') .normal aa w := by
  intro r
  induction r with
  | zero => intro j hj aa w S; obtain rfl : j = (27 * Qau l - l.length) := by omega
            exact p2_e w0 e hg hf hv l hL 0 aa w S
  | succ r ih => intro j hj aa w S; exact p2_s w0 e hg hf hv l hL (r + 1) j (by omega) (ih (j + 1) (by omega)) aa w S
end
theorem p1_e (m : Nat) (v : Value) (x0 : Nat) (aa : Act) (w : World) (S : Sy w0 [] [x0] (p1S e v (e.ws.length)) [QaN e.b e.o e.ws, Qaa w0.heap.size 3 1 v (1 + 2 * (e.ws.length)) ((Qbb e.ver (e.ws.take (e.ws.length))).map (Value.int .i64))] aa w) : post Try.prog (.rnd (m + 1) (Qa_ p1C) :: p1C.k.tail) (bodyPost Try.prog Try.f24 fun y w' => ∃ v, y = .returned v ∧ w'.ownsRow w0.heap.size 9 1 v (QaC e.ver e.ws).length ((QaC e.ver e.ws).map Value.string) ∧ Below w0.heap.size w0 w') .normal aa w := by
  have h32 := Qcl hv
  refine Qap (c := ⟨(.rnd (m + 1) (Qa_ p1C) :: p1C.k.tail), p1S e v e.ws.length⟩) 6 50 5 S fun bs aa w S => ?_
  refine Qab 23 S (decide_eq_false (by omega) : decide ((e.ws.length : Int) < (e.ws.length : Int)) = false) fun S => ?_
  refine Qap 9 60 1 S fun bs aa w S => ?_
  refine Qbq S fun bs S => ?_
  have ho := S.fact (f := Qaa w0.heap.size 3 1 v (1 + 2 * (e.ws.length)) ((Qbb e.ver (e.ws.take (e.ws.length))).map (Value.int .i64))) (by simp)
  rw [List.take_length] at ho
  have eL : 1 + 2 * e.ws.length = (Qbb e.ver e.ws).length := (Qb6 _ _).symm
  rw [eL] at ho
  have hI := QbS ho
  refine Qbg (X := Value) (val := id) (C := fun x w' => QeF w' w.heap.size x (QbB e.ver e.ws)) S (QkY v (Qbb e.ver e.ws) (QcK hf) (by rw [Qb6]; omega) w hI) (by kernel_rfl) fun x aa w1 hC hb S => ?_
  obtain ⟨a, c, rfl, _⟩ := id (Qb9 hC)
  refine QgT S (op := .convert 48 9 (.tmp 42)) (ty := 9) (v := .string (QaO (QbB e.ver e.ws))) (by kernel_rfl) (Qj4 (y := .v (.slice a (QbB e.ver e.ws).length c)) (by kernel_rfl) rfl (QbO _ _) (Qb9 hC)) fun aa S => ?_
  refine Qah S fun bs aa w S => ?_
  have S := S.sub (F' := []) (by intro f hf; cases hf)
  have e0 : QbB e.ver e.ws = QbB e.ver e.ws ++ List.replicate 0 0 := by simp
  have S := S.to [] (⟨99, [(6, .v (.string (QaO (QbB e.ver e.ws))))], []⟩ : SS) (by kernel_rfl) (by kernel_rfl) (by kernel_rfl) (by kernel_rfl) (by kernel_rfl)
  have eS : (⟨99, [(6, .v (.string (QaO (QbB e.ver e.ws))))], []⟩ : SS) = p2S (QbB e.ver e.ws) 0 := by unfold p2S; rw [← e0]
  rw [eS] at S
  refine QaR (27 * Qau (QbB e.ver e.ws) - (QbB e.ver e.ws).length + 1) (by kernel_rfl) ?_
  refine Qag (k' := (.rnd (27 * Qau (QbB e.ver e.ws) - (QbB e.ver e.ws).length + 1) (Qa_ p2C) :: p2C.k.tail)) (by kernel_rfl) ?_
  exact p2_a w0 e hg hf hv (QbB e.ver e.ws) rfl (27 * Qau (QbB e.ver e.ws) - (QbB e.ver e.ws).length) 0 (by omega) aa w S
theorem p1_s (m j : Nat) (hj : j < e.ws.length) (hwb : e.b < w0.heap.size) (ih : ∀ (v : Value) (x0 : Nat) (aa : Act) (w : World) (S : Sy w0 [] [x0] (p1S e v (j + 1)) [QaN e.b e.o e.ws, Qaa w0.heap.size 3 1 v (1 + 2 * (j + 1)) ((Qbb e.ver (e.ws.take (j + 1))).map (Value.int .i64))] aa w), post Try.prog (.rnd (m) (Qa_ p1C) :: p1C.k.tail) (bodyPost Try.prog Try.f24 fun y w' => ∃ v, y = .returned v ∧ w'.ownsRow w0.heap.size 9 1 v (QaC e.ver e.ws).length ((QaC e.ver e.ws).map Value.string) ∧ Below w0.heap.size w0 w') .normal aa w) (v : Value) (x0 : Nat) (aa : Act) (w : World) (S : Sy w0 [] [x0] (p1S e v (j)) [QaN e.b e.o e.ws, Qaa w0.heap.size 3 1 v (1 + 2 * (j)) ((Qbb e.ver (e.ws.take (j))).map (Value.int .i64))] aa w) : post Try.prog (.rnd (m + 1) (Qa_ p1C) :: p1C.k.tail) (bodyPost Try.prog Try.f24 fun y w' => ∃ v, y = .returned v ∧ w'.ownsRow w0.heap.size 9 1 v (QaC e.ver e.ws).length ((QaC e.ver e.ws).map Value.string) ∧ Below w0.heap.size w0 w') .normal aa w := by
  have h32 := Qcl hv
  obtain ⟨ii, hi1, hi2, hi3, hi4⟩ := Qc0 infI3
  refine Qap (c := ⟨(.rnd (m + 1) (Qa_ p1C) :: p1C.k.tail), p1S e v j⟩) 6 50 5 S fun bs aa w S => ?_
  refine Qab 23 S (decide_eq_true (by omega) : decide ((j : Int) < (e.ws.length : Int)) = true) fun S => ?_
  refine Qah S fun bs aa w S => ?_
  letI : HF := ⟨[QaN e.b e.o e.ws]⟩
  refine QaF [0] (by kernel_rfl) (by kernel_rfl) S (by kernel_rfl) (fun aa w D => ?_) (fun f hf => by have e1 : f = QaN e.b e.o e.ws := List.mem_singleton.1 hf; subst e1; simp)
  refine QaZ 4 D (by kernel_rfl) (by kernel_rfl) (by kernel_rfl) (b := e.b) (off := e.o) (len := e.ws.length) (n := j) (size := 2) (ix := (j : Int)) (by rw [← hg.resolve_left (by omega)]; kernel_rfl) rfl hj fun aa D => ?_
  refine Qbl 6 D (by kernel_rfl) (by kernel_rfl) (by kernel_rfl) (ty := 3) (ad := ⟨e.b, e.o + j * 2, none⟩) (v := .int .i64 (e.ws.getD j (0, 0)).1) (fun W hW => Qa6 (by kernel_rfl) ((show Qc8 W e.b e.o e.ws from hW (QaN e.b e.o e.ws) (by show _ ∈ [QaN e.b e.o e.ws]; simp)) j hj).1) (by kernel_rfl) fun aa D => ?_
  refine QaZ 10 D (by kernel_rfl) (by kernel_rfl) (by kernel_rfl) (b := e.b) (off := e.o) (len := e.ws.length) (n := j) (size := 2) (ix := (j : Int)) (by rw [← hg.resolve_left (by omega)]; kernel_rfl) rfl hj fun aa D => ?_
  refine Qbl 12 D (by kernel_rfl) (by kernel_rfl) (by kernel_rfl) (ty := 3) (ad := ⟨e.b, e.o + j * 2 + 1, none⟩) (v := .int .i64 (e.ws.getD j (0, 0)).2) (fun W hW => Qa6 (by kernel_rfl) ((show Qc8 W e.b e.o e.ws from hW (QaN e.b e.o e.ws) (by show _ ∈ [QaN e.b e.o e.ws]; simp)) j hj).2) (by kernel_rfl) fun aa D => ?_
  refine Qac [13] (by kernel_rfl) (by kernel_rfl) rfl (na1 ?_)
  · refine Qbr 13 D (by kernel_rfl) (Nat.le_refl _) (by kernel_rfl) (by kernel_rfl) fun bs aa w D hl => ?_
    refine Qac [14] (by kernel_rfl) (by kernel_rfl) rfl (na1 ?_)
    · refine have hap := (D.S.fs (Qaa w0.heap.size 3 1 v (1 + 2 * (j)) ((Qbb e.ver (e.ws.take (j))).map (Value.int .i64))) (by simp)).2; have how := D.S.fact (f := Qaa w0.heap.size 3 1 v (1 + 2 * (j)) ((Qbb e.ver (e.ws.take (j))).map (Value.int .i64))) (by simp); Qh1 14 w0.heap.size [QaN e.b e.o e.ws] D (by kernel_rfl) (u := .v v) (y := .s 1 0 2 2) (t := 26) (e := 3) (v := v) (n := 1 + 2 * j) (ad := adr _ 1 0) (m := 2) (cp := 2) (size := 1) (bytes := 8) (xs := (Qbb e.ver (e.ws.take (j))).map (Value.int .i64)) (news := [.int .i64 (e.ws.getD j (0, 0)).1, .int .i64 (e.ws.getD j (0, 0)).2]) (by kernel_rfl) Try.underlying26 hi1 hi2 hi3 hi4 rfl (by omega) rfl rfl how D.S.gr.size (Qlk (P := Try.prog) (ty := 3) (cs := [.int .i64 (e.ws.getD j (0, 0)).1, .int .i64 (e.ws.getD j (0, 0)).2]) D.S 1 (by kernel_rfl)) rfl (by intro u hu; simp only [List.mem_cons, List.not_mem_nil, or_false] at hu; rcases hu with rfl | rfl <;> rfl) (by simp only [maxLen]; omega) (by omega) (fun g hg => Or.inr (how.lt g hg).1) (fun f hf => ⟨by simp only [List.mem_singleton] at hf; subst hf; simp, by simp only [List.mem_singleton] at hf; subst hf; exact fun g hg hb => by have := (how.lt g hg).1; have := hb.1; omega⟩) (fun f hf => by have e1 : f = QaN e.b e.o e.ws := List.mem_singleton.1 hf; subst e1; simp) (fun jj hjj hb => hap jj hjj hb) fun va vc aa w2 hO hg hnn hlt D => have D := D.addF (Qaa w0.heap.size 3 1 (.slice va (1 + 2 * j + 2) vc) (1 + 2 * (j + 1)) ((Qbb e.ver (e.ws.take (j + 1))).map (Value.int .i64))) (by rw [Qg6 e.ver e.ws j hj]; exact hO) (fun jj hjj hb => (hnn _ hb).elim (fun q => hap jj hjj q) (fun q => by have := hlt jj hjj; omega)); ?_
      refine QaM D (by kernel_rfl) fun S => ?_
      refine Qap 7 60 2 S fun bs aa w S => ?_
      refine QaB 25 S (by rw [IntKind.wrap_i64]; omega : IntKind.i64.wrap ((j : Int) + 1) = ((j + 1 : Nat) : Int)) fun S => ?_
      refine Qaj ⟨0, [999]⟩ 50 S fun bs aa w S => ?_
      have S := S.sub (F' := [QaN e.b e.o e.ws, Qaa w0.heap.size 3 1 (.slice va (1 + 2 * j + 2) vc) (1 + 2 * (j + 1)) ((Qbb e.ver (e.ws.take (j + 1))).map (Value.int .i64))]) (by intro f hf; simp only [List.mem_cons, List.not_mem_nil, or_false] at hf; rcases hf with rfl | rfl <;> simp)
      have S2 := S.to [0] (p1S e (.slice va (1 + 2 * j + 2) vc) (j + 1)) (by kernel_rfl) (by kernel_rfl) (by kernel_rfl) (by kernel_rfl) (by kernel_rfl)
      refine Qag (k' := (.rnd (m) (Qa_ p1C) :: p1C.k.tail)) (by kernel_rfl) ?_
      exact ih (.slice va (1 + 2 * j + 2) vc) _ aa w S2
theorem p1_a (hwb : e.ws.length = 0 ∨ e.b < w0.heap.size) : ∀ (r j : Nat), j + r = e.ws.length → ∀ (v : Value) (x0 : Nat) (aa : Act) (w : World) (S : Sy w0 [] [x0] (p1S e v (j)) [QaN e.b e.o e.ws, Qaa w0.heap.size 3 1 v (1 + 2 * (j)) ((Qbb e.ver (e.ws.take (j))).map (Value.int .i64))] aa w), post Try.prog (.rnd (r + 1) (Qa_ p1C) :: p1C.k.tail) (bodyPost Try.prog Try.f24 fun y w' => ∃ v, y = .returned v ∧ w'.ownsRow w0.heap.size 9 1 v (QaC e.ver e.ws).length ((QaC e.ver e.ws).map Value.string) ∧ Below w0.heap.size w0 w') .normal aa w := by
  intro r
  induction r with
  | zero => intro j hj v x0 aa w S; obtain rfl : j = e.ws.length := by omega
            exact p1_e w0 e hg hf hv 0 v x0 aa w S
  | succ r ih => intro j hj v x0 aa w S; exact p1_s w0 e hg hf hv (r + 1) j (by omega) (hwb.resolve_left (by omega)) (fun v => ih (j + 1) (by omega) v) v x0 aa w S
end
theorem QkX (w0 : World) (e : Et) (hg : e.ok) (hf : QcD e.ver e.ws) (hA : Qc8 w0 e.b e.o e.ws) : Calls Try.prog 24 #[e.v] w0 fun y w' => ∃ v, y = .returned v ∧ w'.ownsRow w0.heap.size 9 1 v (QaC e.ver e.ws).length ((QaC e.ver e.ws).map Value.string) ∧ Below w0.heap.size w0 w' := by
  have hwb : e.ws.length = 0 ∨ e.b < w0.heap.size := by
    by_cases h : e.ws.length = 0
    · exact Or.inl h
    · exact Or.inr ((QaN e.b e.o e.ws).lt w0 hA e.b ⟨rfl, h⟩)
  refine Qas [] [QaN e.b e.o e.ws] (by intro f hf; simp only [List.mem_singleton] at hf; subst hf; exact hA) Try.func24 rfl rfl fun aa S => ?_
  refine Qap 1 60 1 S fun bs aa w S => ?_
  refine QaJ S (rvalid_e w e hg (S.fact (f := QaN e.b e.o e.ws) (by simp))) (by kernel_rfl) fun aa w hb S => ?_
  rcases Bool.eq_false_or_eq_true (QaG e.ver e.ws) with hv | hv
  rotate_left
  · refine Qab 13 S hv fun S => ?_
    refine Qah S fun bs aa w S => ?_
    exact Qan S (by kernel_rfl) (by kernel_rfl) fun hg => ⟨_, rfl, by rw [Qds hv]; exact World.ownsRow_nil _ _ _ _, Qaq hg⟩
  · refine Qab 13 S hv fun S => ?_
    refine Qah S fun bs aa w S => ?_
    refine Qbq S fun bs S => ?_
    have hbx := S.bx 1 ⟨3, [.int .i64 e.ver]⟩ (by kernel_rfl)
    have hgs : w0.heap.size ≤ bs.getD 1 0 := S.lo0 1 (by rw [S.bl]; exact Nat.le_of_ble_eq_true (by kernel_rfl))
    have hl0 : 0 < bs.length := by rw [S.bl]; exact Nat.le_of_ble_eq_true (by kernel_rfl)
    have hl1 : 1 < bs.length := by rw [S.bl]; exact Nat.le_of_ble_eq_true (by kernel_rfl)
    have hnd := S.nd 0 1 hl0 hl1
    have S := S.plain 4 (x := .s 1 0 1 1) (by kernel_rfl)
    have S2 := S.to [0] (p1S e (.slice (some ⟨bs.getD 1 0, 0, none⟩) 1 1) 0) (by kernel_rfl) (by kernel_rfl) (by kernel_rfl) (by kernel_rfl) (by kernel_rfl)
    have S2 := S2.add (Qaa w0.heap.size 3 1 (.slice (some ⟨bs.getD 1 0, 0, none⟩) 1 1) (1 + 2 * (0)) ((Qbb e.ver (e.ws.take (0))).map (Value.int .i64))) (QiS hbx rfl hgs (by decide)) (fun j hj hb => by
      simp only [List.map_cons, List.map_nil, List.length_cons, List.length_nil] at hj
      obtain rfl : j = 0 := by omega
      have hb2 : some (bs.getD 1 0) = some (bs.getD 0 0) := hb
      simp only [Option.some.injEq] at hb2
      exact absurd (hnd hb2.symm) (by decide))
    have S2 := S2.sub (F' := [QaN e.b e.o e.ws, Qaa w0.heap.size 3 1 (.slice (some ⟨bs.getD 1 0, 0, none⟩) 1 1) (1 + 2 * (0)) ((Qbb e.ver (e.ws.take (0))).map (Value.int .i64))]) (by intro f hf; simp only [List.mem_cons, List.not_mem_nil, or_false] at hf; rcases hf with rfl | rfl <;> simp)
    refine QaR (e.ws.length + 1) (by kernel_rfl) ?_
    refine Qag (k' := (.rnd (e.ws.length + 1) (Qa_ p1C) :: p1C.k.tail)) (by kernel_rfl) ?_
    exact p1_a w0 e hg hf hv hwb e.ws.length 0 (by omega) _ _ aa w S2
theorem QgW (w : World) (e : Et) (hg : e.ok) (hf : QcD e.ver e.ws) (hA : Qc8 w e.b e.o e.ws) : Calls Try.prog 24 #[e.v] w fun y w' => ∃ s : Sr, y = .returned s.v ∧ (s.l = QaC e.ver e.ws ∧ s.ok ∧ s.at w' ∧ s.l.length ≤ s.c ∧ (s.l.length = 0 ∨ w.heap.size ≤ s.b)) ∧ Below w.heap.size w w' := (QkX w e hg hf hA).mono fun y w' ⟨v, h1, h2, h3⟩ => by
  obtain ⟨s, q1, q2, q3, q4, q5, q6⟩ := QjI h2
  exact ⟨s, by rw [h1, q2], ⟨q1, q3, q4, q5, by rw [q1]; exact q6⟩, h3⟩
def adQ (p q : Nat) (l : List Nat) : Nat × Nat := l.foldl (fun p c => ((p.1 + c) % 65521, (p.2 + (p.1 + c) % 65521) % 65521)) (p, q)
theorem adQ_one (l : List Nat) : ∀ p q, p < 65521 → (adQ p q l).1 = (p + l.sum) % 65521 := by
  induction l with
  | nil => intro p q hp; simp [adQ]; omega
  | cons c l ih =>
    intro p q hp
    have e : adQ p q (c :: l) = adQ ((p + c) % 65521) ((q + (p + c) % 65521) % 65521) l := rfl
    rw [e, ih _ _ (Nat.mod_lt _ (by omega)), List.sum_cons]
    omega
theorem sum_le (l : List Nat) (h : ∀ b ∈ l, b < 256) : l.sum ≤ 255 * l.length := by
  induction l with
  | nil => simp
  | cons c l ih =>
    have h1 := h c (by simp)
    have h2 := ih fun b hb => h b (by simp [hb])
    rw [List.sum_cons, List.length_cons]
    omega
theorem QhA (l : List Nat) (h : ∀ b ∈ l, b < 256) (hl : l.length = 28) : ¬(Qb0 l % 256 = 0 ∧ Qb0 l / 256 % 256 = 0) := by
  have h1 : (adS l).1 = (1 + l.sum) % 65521 := adQ_one l 1 0 (by omega)
  have h2 := sum_le l h
  have h3 := Qf5 l
  unfold Qb0
  generalize (adS l).2 = y at *
  generalize (adS l).1 = x at *
  omega
def Qdx (s : List Nat) (c : Nat) : List Nat := s.take c ++ List.replicate (32 - c) 0
theorem QkB {s : List Nat} (h : ∀ b ∈ s, b < 256) (c : Nat) : ∀ b ∈ Qdx s c, b < 256 := by
  intro b hb
  simp only [Qdx, List.mem_append, List.mem_replicate] at hb
  rcases hb with hb | ⟨_, rfl⟩
  · exact h b (List.mem_of_mem_take hb)
  · omega
theorem sec_torn {f f' c : Nat} {p p' : List Nat} (hl : p.length ≤ 27) (hl' : p'.length ≤ 27) (hb' : ∀ b ∈ Qa1 f' p', b < 256) (hc : c ≤ 32) (h : Qdx (sec f p) c = sec f' p') : sec f' p' = sec f p := by
  have b1 := QbD (f := f) hl
  have b2 := QbD (f := f') hl'
  have s1 := QhN (f := f) hl
  rcases Nat.lt_or_ge 28 c with hlt | hge
  · have e := congrArg (List.take 28) h
    have e1 : (Qdx (sec f p) c).take 28 = Qa1 f p := by
      unfold Qdx
      rw [List.take_append_of_le_length (by rw [List.length_take]; omega), List.take_take, Nat.min_eq_left (by omega)]
      unfold sec
      rw [List.take_append_of_le_length (by omega), List.take_of_length_le (by omega)]
    have e2 : (sec f' p').take 28 = Qa1 f' p' := by
      unfold sec
      rw [List.take_append_of_le_length (by omega), List.take_of_length_le (by omega)]
    rw [e1, e2] at e
    unfold sec
    rw [e]
  · exfalso
    have e := congrArg (List.drop 28) h
    have e1 : (Qdx (sec f p) c).drop 28 = [0, 0, 0, 0] := by
      unfold Qdx
      rw [List.drop_append, List.drop_of_length_le (by rw [List.length_take]; omega), List.nil_append, List.drop_replicate, List.length_take, Nat.min_eq_left (by omega), show 32 - c - (28 - c) = 4 by omega]
      rfl
    have e2 : (sec f' p').drop 28 = le4 (Qb0 (Qa1 f' p')) := by
      unfold sec
      rw [List.drop_append_of_le_length (by omega), List.drop_of_length_le (by omega), List.nil_append]
    rw [e1, e2] at e
    unfold le4 at e
    simp only [List.cons.injEq] at e
    exact QhA _ hb' b2 ⟨e.1.symm, e.2.1.symm⟩
def cutA (cs : List Nat) (i : Nat) : Nat := if i < cs.length then min (cs.getD i 0) 32 else 32
theorem cutA_le (cs : List Nat) (i : Nat) : cutA cs i ≤ 32 := by unfold cutA; split <;> omega
def Qf8 (r : (List ByteArray)) (cs : List Nat) (i : Nat) : ByteArray := QaO (Qdx (Qaf (r.getD i ByteArray.empty)) (cutA cs i))
def Qc9 (r : (List ByteArray)) (cs : List Nat) (n : Nat) : (List ByteArray) := (List.range n).map (Qf8 r cs)
theorem QdR (r : (List ByteArray)) (cs : List Nat) (n : Nat) : (Qc9 r cs n).length = n := by simp [Qc9]
theorem Qf9 (r : (List ByteArray)) (cs : List Nat) (n i : Nat) (hi : i < n) : (Qc9 r cs n).getD i ByteArray.empty = Qf8 r cs i := by simp [Qc9, List.getD, hi]
def QhQ (r : (List ByteArray)) (cs : List Nat) : Nat → Bool
  | 0 => true
  | i + 1 => QhQ r cs i && decide (Qf8 r cs i = r.getD i ByteArray.empty)
theorem Qe2 (r : (List ByteArray)) (cs : List Nat) : ∀ n, QhQ r cs n = true ↔ ∀ i, i < n → Qf8 r cs i = r.getD i ByteArray.empty
  | 0 => by simp [QhQ]
  | n + 1 => by
    simp only [QhQ, Bool.and_eq_true, decide_eq_true_eq, Qe2 r cs n]
    constructor
    · rintro ⟨h1, h2⟩ i hi
      rcases Nat.lt_or_ge i n with q | q
      · exact h1 i q
      · rw [show i = n by omega]; exact h2
    · intro h
      exact ⟨fun i hi => h i (by omega), h n (by omega)⟩
end Go.Proofs.Ytfhmdlihnidjoaa
